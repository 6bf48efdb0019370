/-
  BoardDecodes: the walk.
-/
import Derived.Test.YthhahhmdpjchkaaStand
import Derived.Test.YthhahhmdpjchkaaRDecAll
namespace Go.Proofs.Ythhahhmdpjchkaa
open Go.RowKit Go.Shelf
set_option maxRecDepth 100000
set_option maxHeartbeats 1000000

theorem Stand.drew {w W : World} {P b R M X l n cap k : Nat} {f g : Nat → Nat} {r m : Int} {y : Nat} (h : Stand w P b R M X l n cap k f g r m y W) : Stand w P b R M X l n cap k f g r m y W.drew :=
  h.step ⟨rfl, rfl, rfl, Nat.le_refl _, fun _ _ => rfl⟩
/-- The document's answer where a statement stands. -/
theorem Stand.rdec {w W : World} {P b R M X l n cap k : Nat} {f g : Nat → Nat} {r m : Int} {y : Nat} (h : Stand w P b R M X l n cap k f g r m y W) (q : Nat) (hq : q < 4294967296) :
    Calls Try.prog 12 #[.int .u8 l, .int .i64 n, .int .i64 k, .int .u32 q] W fun e w' => e = .returned (.agg #[.int .u8 ((spot l n k q).1 : Nat), .int .i64 ((spot l n k q).2 : Nat)]) ∧ Stand w P b R M X l n cap k f g r m y w' :=
  (rdec_any l n k q W h.brd.lay h.brd.n1 h.brd.n2 hq).mono fun _ _ ⟨he, hB⟩ => ⟨he, h.step hB⟩
namespace boardDecodes
theorem walkN (l y a : Nat) (r m z : Int) (w : World) (ha : a < 4294967296) :
    Calls Try.prog 4 #[planV l r m y, .int .u32 a, .int .i64 z] w fun e w' => e = .returned (.bool true) ∧ Below w.heap.size w w' := by
  have HM := Lib.hid (made_any l y r m)
  have hP := Whole.fresh w 23 #[.int .u8 l, .int .i64 r, .int .i64 m, .int .u8 y]
  have hB0 : Below w.heap.size w (w.alloc (.cells #[.int .u8 l, .int .i64 r, .int .i64 m, .int .u8 y] 23)) := (Below.refl _ w).alloc (Nat.le_refl _) _
  unfold planV at *
  go_enter Try.func4, Try.ntmps4
  go_wp2_with fail
  refine (HM.out _).mono ?_
  rintro e W2 ⟨v, R0, rfl, hH2, hR0, hB3, hcase⟩
  have hP2 := hP.below hB3 hP.lt
  have hB4 := hB0.trans (hB3.mono (Nat.le_of_lt hP.lt))
  have hPl := hP.lt
  clear hP hB0 hB3 HM
  obtain ⟨P, hPe⟩ : ∃ P, w.heap.size = P := ⟨_, rfl⟩
  rw [hPe] at hP2 hB4 hPl ⊢
  rcases hcase with ⟨_, rfl⟩ | ⟨hg, b, R, M, X, cap, rfl, hBr, hb1, hM1, hRM⟩
  · go_wp2_with fail
    go_ret
    exact ⟨rfl, by rw [hPe]; exact hB4⟩
  obtain ⟨k, rfl⟩ := Int.eq_ofNat_of_zero_le hg.2.2.2.2.1
  simp only [Int.toNat_natCast] at hBr
  have hS : Stand w P b R M X l (romN r) cap k (romF y) (fun _ => 0) r k y W2 := ⟨hBr, hP2, hB4, by omega, by omega⟩
  clear hg hBr hP2 hB4 hb1 hM1 hRM hH2 hR0 hPl
  generalize romN r = n at *
  go_wp2_with fail
  go_loopw [10, 1] (fun si sf wr => ∃ j q : Nat, si = .int .i64 j ∧ sf = .int .u32 q ∧ q < 4294967296 ∧ (j : Int) ≤ 3000 ∧ Stand w P b R M X l n cap k (romF y) (fun _ => 0) r k y wr) (fun si _ _ => 3000 - (intOf si).toNat)
  case atStart => exact ⟨0, a, rfl, rfl, ha, by omega, hS⟩
  case round =>
    obtain ⟨j, q, rfl, rfl, hq, hj, hS2⟩ := hrel
    clear hS
    by_cases h1 : (j : Int) < z
    · by_cases h2 : (j : Int) < 3000
      · have HD := Lib.hid (fun W (h : Stand w P b R M X l n cap k (romF y) (fun _ => 0) r k y W) => h.decode q hq)
        have HR := Lib.hid (fun W (h : Stand w P b R M X l n cap k (romF y) (fun _ => 0) r k y W) => h.rdec q hq)
        generalize spot l n k q = s at *
        obtain ⟨K, A⟩ := s
        dsimp only at HD HR
        obtain ⟨c0, c1, c2, c3⟩ := hS2.cells
        obtain ⟨wo, rfl⟩ : ∃ wo, wo = wr := ⟨_, rfl⟩
        replace hS2 := Lib.hid hS2
        go_upto_region 7 with (fail)
        go_region_held3 (fun W => W.cell? ⟨P, 0, none⟩ = some (.int .u8 l) ∧ W.cell? ⟨P, 2, none⟩ = some (.int .i64 k))
          (first | exact ⟨hS2.out.cells.1, hS2.out.cells.2.2.1⟩ | exact ⟨hS3.cells.1, hS3.cells.2.2.1⟩ | exact ⟨hS4.cells.1, hS4.cells.2.2.1⟩ | go_keep)
          (first
            | (go_at_call 13; (with_reducible refine (HD.out _ ?_).mono ?_); (repeat' (first | (with_reducible exact hS4) | (with_reducible exact hS2.out) | (with_reducible refine Stand.drew ?_) | (with_reducible refine Stand.drewN ?_ _))); rintro e W3 ⟨rfl, hS3⟩)
            | (go_at_call 12; (with_reducible refine (HR.out _ ?_).mono ?_); (repeat' (first | (with_reducible exact hS3) | (with_reducible exact hS2.out) | (with_reducible refine Stand.drew ?_) | (with_reducible refine Stand.drewN ?_ _))); rintro e W4 ⟨rfl, hS4⟩))
        all_goals
          clear HD HR c0 c1 c2 c3 hS2
          go_wp2_with fail
        · go_roundw
          case rel => exact ⟨j + 1, (q + 97) % 4294967296, by go_num, by go_num, by omega, by omega, by first | exact hS3 | exact hS4 | exact hS3.drewN _ | exact hS4.drewN _⟩
          case measure => simp [intOf]; omega
      · go_wp2_with fail
        go_ret
        exact ⟨rfl, hS2.bel⟩
    · go_wp2_with fail
      go_ret
      exact ⟨rfl, hS2.bel⟩
end boardDecodes
end Go.Proofs.Ythhahhmdpjchkaa
