/-
  More of the unit's answer, operation by operation.
-/
import Derived.Test.YtnjbgnkbncjnlaaAnsOne
namespace Go.Proofs.Ytnjbgnkbncjnlaa
open Go.RowKit Go.Shelf
set_option maxRecDepth 100000
set_option maxHeartbeats 1000000
set_option linter.unusedVariables false
theorem ans_asl (u p cnt mask top a b c x : Nat) (w : World) (h : Uni w u p cnt mask top) (hp : p < 256) (hm : mask < 65536) (ht : top < 65536) (ha : a < 65536) (hb : b < 65536) (hc : p % 2 = c) (hx : (a * 2 % 65536 ||| 0) = x) :
    Calls Try.prog 29 #[.pointer (some ⟨u, 0, none⟩), .int .u8 8, .int .u16 a, .int .u16 b] w (Ans u cnt mask top (x &&& mask) (signF (setF p 1 (a &&& top != 0)) mask top x) true w) := by
  have hc2 : c < 2 := by omega
  have h3 := h.c3
  have E1 := Lib.hid (show (bits .and .u16 (a : Int) top != 0) = (a &&& top != 0) by rw [u16_and_nat a top ha ht, bne0])
  have E := Lib.hid (show bits .or .u16 (IntKind.u16.wrap ((a : Int) * 2)) 0 = (x : Nat) by rw [← hx, IntKind.wrap_u16, show (a : Int) * 2 % 65536 = ((a * 2 % 65536 : Nat) : Int) by omega, show (0 : Int) = ((0 : Nat) : Int) from rfl, u16_or_nat _ 0 (Nat.mod_lt _ (by decide)) (by decide)])
  have hx2 : x < 65536 := by rw [← hx]; exact Nat.or_lt_two_pow (n := 16) (Nat.mod_lt _ (by decide)) (by decide)
  have HC := Lib.hid hc
  clear hx hc
  go_enter Try.func29, Try.ntmps29
  go_upto_if 33 with fail
  refine wp_cond_true rfl ?_
  apply wp_exit
  repeat (first | refine then_exit ?_ | refine block_miss rfl ?_)
  refine block_hit ?_
  go_wp2_with fail
  rw [E1.out]
  refine (set_any u p cnt mask top 1 _ _ h hp (by omega)).mono ?_
  rintro e w1 ⟨rfl, rfl⟩
  have hA := h.set (setF p 1 (a &&& top != 0))
  have rA : setF p 1 (a &&& top != 0) < 256 := setF_lt _ _ _ (by omega)
  go_wp2_with fail
  rw [E.out]
  refine (sign_any u _ cnt mask top x _ hA rA hm ht hx2).mono ?_
  rintro e w1 ⟨rfl, rfl⟩
  go_wp2_with fail
  go_ret2
  rw [setCell_twice]
  exact ⟨rfl, h.set _, (Below.refl _ _).setCell (p := ⟨u, 0, none⟩) (Nat.le_refl u) _⟩
theorem ans_rol (u p cnt mask top a b c x : Nat) (w : World) (h : Uni w u p cnt mask top) (hp : p < 256) (hm : mask < 65536) (ht : top < 65536) (ha : a < 65536) (hb : b < 65536) (hc : p % 2 = c) (hx : (a * 2 % 65536 ||| c) = x) :
    Calls Try.prog 29 #[.pointer (some ⟨u, 0, none⟩), .int .u8 9, .int .u16 a, .int .u16 b] w (Ans u cnt mask top (x &&& mask) (signF (setF p 1 (a &&& top != 0)) mask top x) true w) := by
  have hc2 : c < 2 := by omega
  have h3 := h.c3
  have E1 := Lib.hid (show (bits .and .u16 (a : Int) top != 0) = (a &&& top != 0) by rw [u16_and_nat a top ha ht, bne0])
  have E := Lib.hid (show bits .or .u16 (IntKind.u16.wrap ((a : Int) * 2)) (c : Int) = (x : Nat) by rw [← hx, IntKind.wrap_u16, show (a : Int) * 2 % 65536 = ((a * 2 % 65536 : Nat) : Int) by omega, u16_or_nat _ c (Nat.mod_lt _ (by decide)) (by omega)])
  have hx2 : x < 65536 := by rw [← hx]; exact Nat.or_lt_two_pow (n := 16) (Nat.mod_lt _ (by decide)) (by omega)
  have HC := Lib.hid hc
  clear hx hc
  go_enter Try.func29, Try.ntmps29
  go_upto_if 31 with fail
  refine wp_cond_true rfl ?_
  apply wp_exit
  repeat (first | refine then_exit ?_ | refine block_miss rfl ?_)
  refine block_hit ?_
  go_wp2_with fail
  refine (carry_at u p cnt mask top c _ h hp HC.out).mono ?_
  rintro e w1 ⟨rfl, rfl⟩
  go_wp2_with fail
  rw [E1.out]
  refine (set_any u p cnt mask top 1 _ _ h hp (by omega)).mono ?_
  rintro e w1 ⟨rfl, rfl⟩
  have hA := h.set (setF p 1 (a &&& top != 0))
  have rA : setF p 1 (a &&& top != 0) < 256 := setF_lt _ _ _ (by omega)
  go_wp2_with fail
  rw [E.out]
  refine (sign_any u _ cnt mask top x _ hA rA hm ht hx2).mono ?_
  rintro e w1 ⟨rfl, rfl⟩
  go_wp2_with fail
  go_ret2
  rw [setCell_twice]
  exact ⟨rfl, h.set _, (Below.refl _ _).setCell (p := ⟨u, 0, none⟩) (Nat.le_refl u) _⟩
theorem ans_lsr (u p cnt mask top a b c x : Nat) (w : World) (h : Uni w u p cnt mask top) (hp : p < 256) (hm : mask < 65536) (ht : top < 65536) (ha : a < 65536) (hb : b < 65536) (hc : p % 2 = c) (hx : (a / 2 ||| 0) = x) :
    Calls Try.prog 29 #[.pointer (some ⟨u, 0, none⟩), .int .u8 10, .int .u16 a, .int .u16 b] w (Ans u cnt mask top (x &&& mask) (signF (setF p 1 (a % 2 == 1)) mask top x) true w) := by
  have hc2 : c < 2 := by omega
  have h3 := h.c3
  have E1 := Lib.hid (low_bit a ha)
  have E := Lib.hid (show bits .or .u16 ((a : Int) / 2) 0 = (x : Nat) by rw [← hx, show (a : Int) / 2 = ((a / 2 : Nat) : Int) by omega, show (0 : Int) = ((0 : Nat) : Int) from rfl, u16_or_nat _ 0 (by omega) (by decide)])
  have hx2 : x < 65536 := by rw [← hx]; exact Nat.or_lt_two_pow (n := 16) (by omega) (by decide)
  have HC := Lib.hid hc
  clear hx hc
  go_enter Try.func29, Try.ntmps29
  go_upto_if 37 with fail
  refine wp_cond_true rfl ?_
  apply wp_exit
  repeat (first | refine then_exit ?_ | refine block_miss rfl ?_)
  refine block_hit ?_
  go_wp2_with fail
  rw [E1.out]
  refine (set_any u p cnt mask top 1 _ _ h hp (by omega)).mono ?_
  rintro e w1 ⟨rfl, rfl⟩
  have hA := h.set (setF p 1 (a % 2 == 1))
  have rA : setF p 1 (a % 2 == 1) < 256 := setF_lt _ _ _ (by omega)
  go_wp2_with fail
  rw [E.out]
  refine (sign_any u _ cnt mask top x _ hA rA hm ht hx2).mono ?_
  rintro e w1 ⟨rfl, rfl⟩
  go_wp2_with fail
  go_ret2
  rw [setCell_twice]
  exact ⟨rfl, h.set _, (Below.refl _ _).setCell (p := ⟨u, 0, none⟩) (Nat.le_refl u) _⟩
theorem ans_ror (u p cnt mask top a b c x : Nat) (w : World) (h : Uni w u p cnt mask top) (hp : p < 256) (hm : mask < 65536) (ht : top < 65536) (ha : a < 65536) (hb : b < 65536) (hc : p % 2 = c) (hx : (a / 2 ||| top * c % 65536) = x) :
    Calls Try.prog 29 #[.pointer (some ⟨u, 0, none⟩), .int .u8 11, .int .u16 a, .int .u16 b] w (Ans u cnt mask top (x &&& mask) (signF (setF p 1 (a % 2 == 1)) mask top x) true w) := by
  have hc2 : c < 2 := by omega
  have h3 := h.c3
  have E1 := Lib.hid (low_bit a ha)
  have E := Lib.hid (show bits .or .u16 ((a : Int) / 2) (IntKind.u16.wrap ((top : Int) * c)) = (x : Nat) by rw [← hx, IntKind.wrap_u16, show (a : Int) / 2 = ((a / 2 : Nat) : Int) by omega, show (top : Int) * c % 65536 = ((top * c % 65536 : Nat) : Int) by rw [← Int.natCast_mul]; omega, u16_or_nat _ _ (by omega) (Nat.mod_lt _ (by decide))])
  have hx2 : x < 65536 := by rw [← hx]; exact Nat.or_lt_two_pow (n := 16) (by omega) (Nat.mod_lt _ (by decide))
  have HC := Lib.hid hc
  clear hx hc
  go_enter Try.func29, Try.ntmps29
  go_upto_if 35 with fail
  refine wp_cond_true rfl ?_
  apply wp_exit
  repeat (first | refine then_exit ?_ | refine block_miss rfl ?_)
  refine block_hit ?_
  go_wp2_with fail
  go_quiet ((go_at_call 45; exact Calls.quiet_of_same ((carry_at u p cnt mask top c _ (Uni.drewN h _) hp HC.out).mono fun _ _ ⟨he, hw⟩ => ⟨he, hw.symm⟩)))
  replace h := Uni.drewN h nq
  go_wp2_with fail
  rw [E1.out]
  refine (set_any u p cnt mask top 1 _ _ h hp (by omega)).mono ?_
  rintro e w1 ⟨rfl, rfl⟩
  have hA := h.set (setF p 1 (a % 2 == 1))
  have rA : setF p 1 (a % 2 == 1) < 256 := setF_lt _ _ _ (by omega)
  go_wp2_with fail
  rw [E.out]
  refine (sign_any u _ cnt mask top x _ hA rA hm ht hx2).mono ?_
  rintro e w1 ⟨rfl, rfl⟩
  go_wp2_with fail
  go_ret2
  rw [setCell_twice]
  exact ⟨rfl, h.set _, (below_drewN (Below.refl _ _) nq).setCell (p := ⟨u, 0, none⟩) (Nat.le_refl u) _⟩
end Go.Proofs.Ytnjbgnkbncjnlaa
