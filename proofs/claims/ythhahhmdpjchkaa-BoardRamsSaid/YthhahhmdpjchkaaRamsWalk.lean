/-
  BoardRams: the walk.
-/
import Derived.Test.YthhahhmdpjchkaaSetRam
namespace Go.Proofs.Ythhahhmdpjchkaa
open Go.RowKit Go.Shelf
set_option maxRecDepth 100000
set_option maxHeartbeats 1000000
namespace boardRams
theorem st_drew {w W : World} {P b R M X l n cap k : Nat} {f g : Nat → Nat} {r m : Int} {y : Nat} (h : Stand w P b R M X l n cap k f g r m y W) : Stand w P b R M X l n cap k f g r m y W.drew :=
  h.step ⟨rfl, rfl, rfl, Nat.le_refl _, fun _ _ => rfl⟩
theorem st_alloc {w W : World} {P b R M X l n cap k : Nat} {f g : Nat → Nat} {r m : Int} {y : Nat} (h : Stand w P b R M X l n cap k f g r m y W) (o : Obj) : Stand w P b R M X l n cap k f g r m y (W.alloc o) :=
  h.step ((Below.refl _ _).alloc (Nat.le_refl _) _)
theorem walkN (l y : Nat) (r m : Int) (a : Option Addr) (len cp : Nat) (F : Nat → Nat) (w : World) (hA : Row w a len F) (hlen : len ≤ 140737488355328) :
    Calls Try.prog 6 #[planV l r m y, .slice a len cp] w fun e w' => e = .returned (.bool true) ∧ Below w.heap.size w w' := by
  have HM := Lib.hid (made_any l y r m)
  have hP := Whole.fresh w 23 #[.int .u8 l, .int .i64 r, .int .i64 m, .int .u8 y]
  have hB0 : Below w.heap.size w (w.alloc (.cells #[.int .u8 l, .int .i64 r, .int .i64 m, .int .u8 y] 23)) := (Below.refl _ w).alloc (Nat.le_refl _) _
  unfold planV at *
  go_enter Try.func6, Try.ntmps6
  go_wp2_with fail
  refine (HM.out _).mono ?_
  rintro e W2 ⟨v, R0, rfl, hH2, hR0, hB3, hcase⟩
  have hP2 := hP.below hB3 hP.lt
  have hB4 := hB0.trans (hB3.mono (Nat.le_of_lt hP.lt))
  have hA2 := hA.below hB4
  have HA0 := Lib.hid hA
  have hPl := hP.lt
  clear hP hB0 hB3 HM hA
  obtain ⟨P, hPe⟩ : ∃ P, w.heap.size = P := ⟨_, rfl⟩
  rw [hPe] at hP2 hB4 hPl ⊢
  rcases hcase with ⟨_, rfl⟩ | ⟨hg, b, R, M, X, cap, rfl, hBr, hb1, hM1, hRM⟩
  · clear hA2
    go_wp2_with fail
    go_ret
    exact ⟨rfl, by rw [hPe]; exact hB4⟩
  obtain ⟨k, rfl⟩ := Int.eq_ofNat_of_zero_le hg.2.2.2.2.1
  simp only [Int.toNat_natCast] at hBr
  have hk := hBr.m2
  have hS : Stand w P b R M X l (romN r) cap k (romF y) (fun _ => 0) r k y W2 := ⟨hBr, hP2, hB4, by omega, by omega⟩
  clear hg hBr hP2 hB4 hb1 hM1 hRM hH2 hR0 hPl
  generalize romN r = n at *
  have HC := Lib.hid (copy_any a len cp F W2 hA2 hlen)
  have HA2 := Lib.hid hA2
  clear hA2
  go_wp2_with fail
  refine HC.out.mono ?_
  rintro e W3 ⟨C, rfl, hC3, hCl, hB3⟩
  have hS3 := hS.step hB3
  have hML := hS.brd.ram.lt
  have hCb := hS.brd.head.lt
  have hCR := hS.brd.rom.lt
  have hCX := fun e => (hS.brd.more e).lt
  have hCP := hS.plan.lt
  clear HC HA2 hS hB3
  by_cases hE : len = k
  · subst hE
    have HS := Lib.hid (setRam_ok C len W3 hS3.brd hC3)
    go_wp2_with fail
    refine HS.out.mono ?_
    rintro e W4 ⟨rfl, hBr4, hO4⟩
    have hP4 := hS3.plan.only hO4 hS3.hPb
    have hB4 := below_only hS3.bel hO4 hS3.hPM (Nat.le_of_lt hS3.plan.lt)
    have hC4 := hC3.only hO4 (show C ≠ M by omega)
    have hS4 : Stand w P b R M X l n cap len (romF y) F r len y W4 := ⟨hBr4, hP4, hB4, hS3.hPM, hS3.hPb⟩
    clear hBr4 hP4 hB4 hC3 HS hO4 hS3
    have t1 : ((len : Int) != (len : Int)) = false := by rw [bne_self_eq_false]
    have HP := Lib.hid (spoil_any C len len F W4 hlen hC4)
    go_wp2_with fail
    refine HP.out.mono ?_
    rintro e W5 ⟨⟨v5, rfl⟩, hO5⟩
    have hS5 : Stand w P b R M X l n cap len (romF y) F r len y W5 :=
      ⟨hS4.brd.only hO5 (by omega) (by omega) (by omega) (fun e => by have := hCX e; omega), hS4.plan.only hO5 (by omega), below_only hS4.bel hO5 (by omega) (Nat.le_of_lt hS4.plan.lt), hS4.hPM, hS4.hPb⟩
    clear hS4 hO5 HP hC4
    obtain ⟨c0, c1, c2, c3⟩ := hS5.cells
    have HR := Lib.hid hS5.ram
    clear hS5
    go_wp2_with fail
    refine HR.out.mono ?_
    rintro e W6 ⟨G, cG, rfl, hcG, hG6, hGl, hS6, hB6⟩
    have HY := Lib.hid (same_any (some ⟨G, 0, none⟩) a len cG cp F W6 hG6.row (HA0.out.below (by rw [hPe]; exact hS6.bel)) hlen)
    clear HR hB6 hG6 c0 c1 c2 c3
    go_wp2_with fail
    refine HY.out.mono ?_
    rintro e W7 ⟨rfl, q7, rfl⟩
    clear HY
    go_wp2_with fail
    go_ret
    exact ⟨rfl, by rw [hPe]; exact below_drewN hS6.bel _⟩
  · have HS := Lib.hid (setRam_no C len len W3 hS3.brd hE)
    have t1 : ((len : Int) != (k : Int)) = true := by rw [bne_iff_ne]; omega
    have HP := Lib.hid (spoil_any C len len F W3 hlen hC3)
    have hmk := fun W => run_make_row' (P := Try.prog) 26 5 (.int .u8 0) 1 Try.underlying26 (by kernel_rfl) rfl .i64 .i64 k (by omega) (by omega) W
    go_wp2_with fail
    refine HS.out.mono ?_
    rintro e W4 ⟨rfl, rfl⟩
    go_wp2_with fail
    refine HP.out.mono ?_
    rintro e W5 ⟨⟨v5, rfl⟩, hO5⟩
    have hS5 : Stand w P b R M X l n cap k (romF y) (fun _ => 0) r k y W5 :=
      ⟨hS3.brd.only hO5 (by omega) (by omega) (by omega) (fun e => by have := hCX e; omega), hS3.plan.only hO5 (by omega), below_only hS3.bel hO5 (by omega) (Nat.le_of_lt hS3.plan.lt), hS3.hPM, hS3.hPb⟩
    clear hS3 hO5 HP HS hC3
    obtain ⟨c0, c1, c2, c3⟩ := hS5.cells
    have HR := Lib.hid (fun W (h : Stand w P b R M X l n cap k (romF y) (fun _ => 0) r k y W) => h.ram)
    have HY := Lib.hid (fun a2 b2 c d W h1 h2 => same_any a2 b2 k c d (fun _ => 0) W h1 h2 (by omega))
    have hS5h := Lib.hid hS5
    clear hS5
    go_wp2_with fail
    go_region_held3 (fun W => W.cell? ⟨P, 2, none⟩ = some (.int .i64 k))
      (first | exact (st_drew hS5h.out).cells.2.2.1 | exact hS5h.out.cells.2.2.1 | exact hS6.cells.2.2.1 | exact (hS6.plan.alloc _).cell 2 | exact (hS5h.out.plan.alloc _).cell 2 | go_keep)
      (first
        | (go_at_call 16; (with_reducible refine (HR.out _ ?_).mono ?_); (repeat' (first | (with_reducible exact hS5h.out) | (with_reducible refine st_alloc ?_ _) | (with_reducible refine st_drew ?_))); rintro e W6 ⟨G, cG, rfl, hcG, hG6, hGl, hS6, hB6⟩)
        | (go_at_call 17; (with_reducible refine (HY.out _ _ _ _ _ ?_ ?_).mono ?_); (first | exact hG6.row | exact hG6.drew.row | exact (hG6.alloc _).row | exact (hG6.alloc _).drew.row | exact (holds_of_made (Whole.fresh W6 5 _)).row | exact (holds_of_made (Whole.fresh W6 5 _)).drew.row | exact ((holds_of_made (Whole.fresh W5 5 _)).drew.below hB6 (holds_of_made (Whole.fresh W5 5 _)).drew.lt).row | exact ((holds_of_made (Whole.fresh W5 5 _)).drew.below hB6 (holds_of_made (Whole.fresh W5 5 _)).drew.lt).drew.row | exact ((holds_of_made (Whole.fresh W5 5 _)).below hB6 (holds_of_made (Whole.fresh W5 5 _)).lt).row | exact ((holds_of_made (Whole.fresh W5 5 _)).below hB6 (holds_of_made (Whole.fresh W5 5 _)).lt).drew.row); (first | exact hG6.row | exact hG6.drew.row | exact (hG6.alloc _).row | exact (hG6.alloc _).drew.row | exact (holds_of_made (Whole.fresh W6 5 _)).row | exact (holds_of_made (Whole.fresh W6 5 _)).drew.row | exact ((holds_of_made (Whole.fresh W5 5 _)).drew.below hB6 (holds_of_made (Whole.fresh W5 5 _)).drew.lt).row | exact ((holds_of_made (Whole.fresh W5 5 _)).drew.below hB6 (holds_of_made (Whole.fresh W5 5 _)).drew.lt).drew.row | exact ((holds_of_made (Whole.fresh W5 5 _)).below hB6 (holds_of_made (Whole.fresh W5 5 _)).lt).row | exact ((holds_of_made (Whole.fresh W5 5 _)).below hB6 (holds_of_made (Whole.fresh W5 5 _)).lt).drew.row); rintro e W7 ⟨rfl, q7, rfl⟩))
    all_goals
      clear HR HY hmk
      go_wp2_with fail
      go_ret
      exact ⟨rfl, by rw [hPe]; first | exact below_drewN (st_alloc hS6 _).bel _ | exact below_drewN (st_drew (st_alloc hS6 _)).bel _ | exact below_drewN (st_drew hS6).bel _ | exact below_drewN hS6.bel _⟩
end boardRams
end Go.Proofs.Ythhahhmdpjchkaa
