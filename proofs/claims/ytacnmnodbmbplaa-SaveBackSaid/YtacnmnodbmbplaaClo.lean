/-
  What a writer's other methods do within their attempts.
-/
import Derived.Test.YtacnmnodbmbplaaPut
import Derived.Deep.RegionHeld3
import Derived.Deep.DeepCutAuto
import Derived.StillTailTactics
namespace Go.Proofs.Ytacnmnodbmbplaa
open Go.RowKit Go.Shelf
set_option maxRecDepth 100000
set_option maxHeartbeats 1000000

theorem number1_no {b p0 p1 x : Nat} {z : Int} {v : Value} {s : St} (w : World) (h : Wr w b v s) (q0 : w.cell? ⟨p0, 0, none⟩ = some (.pointer (some ⟨b, 0, none⟩))) (q1 : w.cell? ⟨p1, 0, none⟩ = some (.int .i64 z)) (hz : IntKind.u64.wrap z = ((x : Nat) : Int)) (hn : 16777216 < s.n + 8) :
    Calls Try.prog 66 #[.pointer (some ⟨p0, 0, none⟩), .pointer (some ⟨p1, 0, none⟩)] w fun e w' => e = fault 4 ∧ w' = w := by
  have HP := Lib.hid (put_no_uint64 b x v s w h hn)
  replace hz := Lib.hid hz
  clear h hn
  go_enter Try.func66, Try.ntmps66
  go_wp2_with fail
  rw [hz.out]
  refine HP.out.mono ?_
  rintro e w' ⟨rfl, rfl⟩
  unfold fault
  go_wp2_with fail
  exact ⟨rfl, by rfl, rfl⟩
theorem number1_ok {b p0 p1 x : Nat} {z : Int} {v : Value} {s : St} (w : World) (h : Wr w b v s) (q0 : w.cell? ⟨p0, 0, none⟩ = some (.pointer (some ⟨b, 0, none⟩))) (q1 : w.cell? ⟨p1, 0, none⟩ = some (.int .i64 z)) (hz : IntKind.u64.wrap z = ((x : Nat) : Int)) (hx : x < 18446744073709551616) (hn : s.n + 8 ≤ 16777216) :
    Calls Try.prog 66 #[.pointer (some ⟨p0, 0, none⟩), .pointer (some ⟨p1, 0, none⟩)] w fun e w' => e = .returned (.tuple #[]) ∧ ∃ v', Wr w' b v' (s.put 8 (byteAt x)) ∧ Only2 b v.ownBlock w w' ∧ NewOwn v v' w := by
  have HP := Lib.hid (put_ok_uint64 b x v s w h hx hn)
  replace hz := Lib.hid hz
  clear h hn hx
  go_enter Try.func66, Try.ntmps66
  go_wp2_with fail
  rw [hz.out]
  refine HP.out.mono ?_
  rintro e w' ⟨rfl, h2⟩
  clear HP
  go_wp2_with fail
  go_end0
  exact ⟨rfl, h2⟩
theorem open1_full {b p0 p1 : Nat} {v : Value} {s : St} (w : World) (h : Wr w b v s) (q0 : w.cell? ⟨p0, 0, none⟩ = some (.pointer (some ⟨b, 0, none⟩))) (hop : s.op = 16) :
    Calls Try.prog 70 #[.pointer (some ⟨p0, 0, none⟩), .pointer (some ⟨p1, 0, none⟩)] w fun e w' => e = fault 4 ∧ w' = w := by
  have c17 := h.head.c17
  rw [hop] at c17
  clear h hop
  go_enter Try.func70, Try.ntmps70
  go_wp2_with fail
  refine (refuse_yes _ _).mono ?_
  rintro e w' ⟨rfl, rfl⟩
  unfold fault
  go_wp2_with fail
  exact ⟨rfl, by rfl, rfl⟩
theorem open1_no {b p0 p1 x : Nat} {v : Value} {s : St} (w : World) (h : Wr w b v s) (q0 : w.cell? ⟨p0, 0, none⟩ = some (.pointer (some ⟨b, 0, none⟩))) (q1 : w.cell? ⟨p1, 0, none⟩ = some (.int .u8 x)) (hop : s.op ≠ 16) (hn : 16777216 < s.n + 5) :
    Calls Try.prog 70 #[.pointer (some ⟨p0, 0, none⟩), .pointer (some ⟨p1, 0, none⟩)] w fun e w' => e = fault 4 ∧ ∃ q, w' = w.drewN q := by
  have c17 := h.head.c17
  have t1 : ((s.op : Int) == 16) = false := by rw [beq_eq_false_iff_ne]; omega
  have HR := Lib.hid (room_no b 5 v s w.drew (h.below (Below.drew (Below.refl _ _))) (by decide) hn)
  clear h hop hn
  go_enter Try.func70, Try.ntmps70
  go_wp2_with fail
  refine (refuse_no _ _).mono ?_
  rintro e w' ⟨rfl, hw⟩
  subst hw
  go_wp2_with fail
  refine wp_region_any (by kernel_rfl) ?_
  change wpAny _ _ _ _ _ _ _ (World.drew _)
  have d0 : w'.drew.cell? ⟨p0, 0, none⟩ = some (.pointer (some ⟨b, 0, none⟩)) := q0
  have d1 : w'.drew.cell? ⟨p1, 0, none⟩ = some (.int .u8 x) := q1
  refine wpAny_ready (rs := [0, 2]) (by kernel_rfl) (by simp) ?_
  refine AllReady.cons rfl (fun K hK => ?_) (AllReady.cons rfl (fun K hK => ?_) AllReady.nil)
  · go_simp
    refine hK _ _ ?_
    clear hK K
    refine wpAny_ready (rs := [1, 2]) (by kernel_rfl) (by simp) ?_
    refine AllReady.cons rfl (fun K hK => ?_) (AllReady.cons rfl (fun K hK => ?_) AllReady.nil)
    · go_simp
      refine HR.out.mono ?_
      rintro e w1 ⟨rfl, rfl⟩
      unfold fault
      go_wp2_with fail
      exact ⟨rfl, by rfl, 1, rfl⟩
    · go_simp
      refine hK _ _ ?_
      clear hK K
      refine wpAny_ready (rs := [1]) (by kernel_rfl) (by simp) ?_
      refine AllReady.cons rfl (fun K hK => ?_) AllReady.nil
      go_simp
      refine HR.out.mono ?_
      rintro e w1 ⟨rfl, rfl⟩
      unfold fault
      go_wp2_with fail
      exact ⟨rfl, by rfl, 1, rfl⟩
  · go_simp
    refine hK _ _ ?_
    clear hK K
    refine wpAny_ready (rs := [0]) (by kernel_rfl) (by simp) ?_
    refine AllReady.cons rfl (fun K hK => ?_) AllReady.nil
    go_simp
    refine hK _ _ ?_
    clear hK K
    refine wpAny_ready (rs := [1]) (by kernel_rfl) (by simp) ?_
    refine AllReady.cons rfl (fun K hK => ?_) AllReady.nil
    go_simp
    refine HR.out.mono ?_
    rintro e w1 ⟨rfl, rfl⟩
    unfold fault
    go_wp2_with fail
    exact ⟨rfl, by rfl, 1, rfl⟩
end Go.Proofs.Ytacnmnodbmbplaa
