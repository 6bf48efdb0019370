/-
  The unit's answer, operation by operation.
-/
import Derived.Test.YtnjbgnkbncjnlaaExits
namespace Go.Proofs.Ytnjbgnkbncjnlaa
open Go.RowKit Go.Shelf
set_option maxRecDepth 100000
set_option maxHeartbeats 1000000
set_option linter.unusedVariables false
def Ans (u cnt mask top X F : Nat) (ok : Bool) (w : World) (e : Ending) (w' : World) : Prop := e = .returned (.tuple #[.int .u16 X, .bool ok]) ∧ Uni w' u F cnt mask top ∧ Below u w w'
theorem ans_or (u p cnt mask top a b x : Nat) (w : World) (h : Uni w u p cnt mask top) (hp : p < 256) (hm : mask < 65536) (ht : top < 65536) (ha : a < 65536) (hb : b < 65536) (hx : a ||| b = x) :
    Calls Try.prog 29 #[.pointer (some ⟨u, 0, none⟩), .int .u8 0, .int .u16 a, .int .u16 b] w (Ans u cnt mask top (x &&& mask) (signF p mask top x) true w) := by
  have hx2 : x < 65536 := by rw [← hx]; exact Nat.or_lt_two_pow (n := 16) ha hb
  have E := Lib.hid (show bits .or .u16 (a : Int) (b : Int) = (x : Nat) by rw [← hx]; exact u16_or_nat a b ha hb)
  clear hx
  go_enter Try.func29, Try.ntmps29
  go_upto_if 13 with fail
  refine wp_cond_true rfl ?_
  apply wp_exit
  repeat (first | refine then_exit ?_ | refine block_miss rfl ?_)
  refine block_hit ?_
  go_wp2_with fail
  rw [E.out]
  refine (sign_any u p cnt mask top x _ h hp hm ht hx2).mono ?_
  rintro e w1 ⟨rfl, rfl⟩
  go_wp2_with fail
  go_ret2
  exact ⟨rfl, h.set _, (Below.refl _ _).setCell (p := ⟨u, 0, none⟩) (Nat.le_refl u) _⟩
theorem ans_and (u p cnt mask top a b x : Nat) (w : World) (h : Uni w u p cnt mask top) (hp : p < 256) (hm : mask < 65536) (ht : top < 65536) (ha : a < 65536) (hb : b < 65536) (hx : a &&& b = x) :
    Calls Try.prog 29 #[.pointer (some ⟨u, 0, none⟩), .int .u8 1, .int .u16 a, .int .u16 b] w (Ans u cnt mask top (x &&& mask) (signF p mask top x) true w) := by
  have hx2 : x < 65536 := by rw [← hx]; exact Nat.and_lt_two_pow (n := 16) _ hb
  have E := Lib.hid (show bits .and .u16 (a : Int) (b : Int) = (x : Nat) by rw [← hx]; exact u16_and_nat a b ha hb)
  clear hx
  go_enter Try.func29, Try.ntmps29
  go_upto_if 15 with fail
  refine wp_cond_true rfl ?_
  apply wp_exit
  repeat (first | refine then_exit ?_ | refine block_miss rfl ?_)
  refine block_hit ?_
  go_wp2_with fail
  rw [E.out]
  refine (sign_any u p cnt mask top x _ h hp hm ht hx2).mono ?_
  rintro e w1 ⟨rfl, rfl⟩
  go_wp2_with fail
  go_ret2
  exact ⟨rfl, h.set _, (Below.refl _ _).setCell (p := ⟨u, 0, none⟩) (Nat.le_refl u) _⟩
theorem ans_xor (u p cnt mask top a b x : Nat) (w : World) (h : Uni w u p cnt mask top) (hp : p < 256) (hm : mask < 65536) (ht : top < 65536) (ha : a < 65536) (hb : b < 65536) (hx : a ^^^ b = x) :
    Calls Try.prog 29 #[.pointer (some ⟨u, 0, none⟩), .int .u8 2, .int .u16 a, .int .u16 b] w (Ans u cnt mask top (x &&& mask) (signF p mask top x) true w) := by
  have hx2 : x < 65536 := by rw [← hx]; exact Nat.xor_lt_two_pow (n := 16) ha hb
  have E := Lib.hid (show bits .xor .u16 (a : Int) (b : Int) = (x : Nat) by rw [← hx]; exact u16_xor_nat a b ha hb)
  clear hx
  go_enter Try.func29, Try.ntmps29
  go_upto_if 17 with fail
  refine wp_cond_true rfl ?_
  apply wp_exit
  repeat (first | refine then_exit ?_ | refine block_miss rfl ?_)
  refine block_hit ?_
  go_wp2_with fail
  rw [E.out]
  refine (sign_any u p cnt mask top x _ h hp hm ht hx2).mono ?_
  rintro e w1 ⟨rfl, rfl⟩
  go_wp2_with fail
  go_ret2
  exact ⟨rfl, h.set _, (Below.refl _ _).setCell (p := ⟨u, 0, none⟩) (Nat.le_refl u) _⟩
theorem ans_load (u p cnt mask top a b x : Nat) (w : World) (h : Uni w u p cnt mask top) (hp : p < 256) (hm : mask < 65536) (ht : top < 65536) (ha : a < 65536) (hb : b < 65536) (hx : b = x) :
    Calls Try.prog 29 #[.pointer (some ⟨u, 0, none⟩), .int .u8 7, .int .u16 a, .int .u16 b] w (Ans u cnt mask top (x &&& mask) (signF p mask top x) true w) := by
  subst hx
  go_enter Try.func29, Try.ntmps29
  go_upto_if 29 with fail
  refine wp_cond_true rfl ?_
  apply wp_exit
  repeat (first | refine then_exit ?_ | refine block_miss rfl ?_)
  refine block_hit ?_
  go_wp2_with fail
  refine (sign_any u p cnt mask top b _ h hp hm ht hb).mono ?_
  rintro e w1 ⟨rfl, rfl⟩
  go_wp2_with fail
  go_ret2
  exact ⟨rfl, h.set _, (Below.refl _ _).setCell (p := ⟨u, 0, none⟩) (Nat.le_refl u) _⟩
theorem ans_inc (u p cnt mask top a b x : Nat) (w : World) (h : Uni w u p cnt mask top) (hp : p < 256) (hm : mask < 65536) (ht : top < 65536) (ha : a < 65536) (hb : b < 65536) (hx : (a + 1) % 65536 = x) :
    Calls Try.prog 29 #[.pointer (some ⟨u, 0, none⟩), .int .u8 12, .int .u16 a, .int .u16 b] w (Ans u cnt mask top (x &&& mask) (signF p mask top x) true w) := by
  have hx2 : x < 65536 := by rw [← hx]; exact Nat.mod_lt _ (by decide)
  have E := Lib.hid (show IntKind.u16.wrap ((a : Int) + 1) = (x : Nat) by rw [← hx]; rw [IntKind.wrap_u16]; omega)
  clear hx
  go_enter Try.func29, Try.ntmps29
  go_upto_if 39 with fail
  refine wp_cond_true rfl ?_
  apply wp_exit
  repeat (first | refine then_exit ?_ | refine block_miss rfl ?_)
  refine block_hit ?_
  go_wp2_with fail
  rw [E.out]
  refine (sign_any u p cnt mask top x _ h hp hm ht hx2).mono ?_
  rintro e w1 ⟨rfl, rfl⟩
  go_wp2_with fail
  go_ret2
  exact ⟨rfl, h.set _, (Below.refl _ _).setCell (p := ⟨u, 0, none⟩) (Nat.le_refl u) _⟩
theorem ans_dec (u p cnt mask top a b x : Nat) (w : World) (h : Uni w u p cnt mask top) (hp : p < 256) (hm : mask < 65536) (ht : top < 65536) (ha : a < 65536) (hb : b < 65536) (hx : (a + 65535) % 65536 = x) :
    Calls Try.prog 29 #[.pointer (some ⟨u, 0, none⟩), .int .u8 13, .int .u16 a, .int .u16 b] w (Ans u cnt mask top (x &&& mask) (signF p mask top x) true w) := by
  have hx2 : x < 65536 := by rw [← hx]; exact Nat.mod_lt _ (by decide)
  have E := Lib.hid (show IntKind.u16.wrap ((a : Int) - 1) = (x : Nat) by rw [← hx]; rw [IntKind.wrap_u16]; omega)
  clear hx
  go_enter Try.func29, Try.ntmps29
  go_upto_if 41 with fail
  refine wp_cond_true rfl ?_
  apply wp_exit
  repeat (first | refine then_exit ?_ | refine block_miss rfl ?_)
  refine block_hit ?_
  go_wp2_with fail
  rw [E.out]
  refine (sign_any u p cnt mask top x _ h hp hm ht hx2).mono ?_
  rintro e w1 ⟨rfl, rfl⟩
  go_wp2_with fail
  go_ret2
  exact ⟨rfl, h.set _, (Below.refl _ _).setCell (p := ⟨u, 0, none⟩) (Nat.le_refl u) _⟩
theorem ans_cmp (u p cnt mask top a b x : Nat) (w : World) (h : Uni w u p cnt mask top) (hp : p < 256) (hm : mask < 65536) (ht : top < 65536) (ha : a < 65536) (hb : b < 65536) (hx : (a + 65536 - b) % 65536 = x) :
    Calls Try.prog 29 #[.pointer (some ⟨u, 0, none⟩), .int .u8 5, .int .u16 a, .int .u16 b] w (Ans u cnt mask top (a) (signF (setF p 1 (decide (b ≤ a))) mask top x) true w) := by
  have hx2 : x < 65536 := by omega
  have E := Lib.hid (show IntKind.u16.wrap ((a : Int) - b) = (x : Nat) by rw [← hx, IntKind.wrap_u16]; omega)
  clear hx
  go_enter Try.func29, Try.ntmps29
  go_upto_if 23 with fail
  refine wp_cond_true rfl ?_
  apply wp_exit
  repeat (first | refine then_exit ?_ | refine block_miss rfl ?_)
  refine block_hit ?_
  go_wp2_with fail
  refine (set_any u p cnt mask top 1 _ _ h hp (by omega)).mono ?_
  rintro e w1 ⟨rfl, rfl⟩
  have hA := h.set (setF p 1 (decide (b ≤ a)))
  have rA : setF p 1 (decide (b ≤ a)) < 256 := setF_lt _ _ _ (by omega)
  go_wp2_with fail
  rw [E.out]
  refine (sign_any u _ cnt mask top x _ hA rA hm ht hx2).mono ?_
  rintro e w1 ⟨rfl, rfl⟩
  go_wp2_with fail
  go_ret2
  rw [setCell_twice]
  exact ⟨rfl, h.set _, (Below.refl _ _).setCell (p := ⟨u, 0, none⟩) (Nat.le_refl u) _⟩
theorem ans_biti (u p cnt mask top a b x : Nat) (w : World) (h : Uni w u p cnt mask top) (hp : p < 256) (hm : mask < 65536) (ht : top < 65536) (ha : a < 65536) (hb : b < 65536) (hx : a = x) :
    Calls Try.prog 29 #[.pointer (some ⟨u, 0, none⟩), .int .u8 16, .int .u16 a, .int .u16 b] w (Ans u cnt mask top (x) (setF p 2 (a &&& b == 0)) true w) := by
  subst hx
  go_enter Try.func29, Try.ntmps29
  go_upto_if 27 with fail
  refine wp_cond_true rfl ?_
  apply wp_exit
  repeat (first | refine then_exit ?_ | refine block_miss rfl ?_)
  refine block_hit ?_
  go_wp2_with fail
  refine (common_any u p cnt mask top a b _ h hp ha hb).mono ?_
  rintro e w1 ⟨rfl, rfl⟩
  go_wp2_with fail
  go_ret2
  exact ⟨rfl, h.set _, (Below.refl _ _).setCell (p := ⟨u, 0, none⟩) (Nat.le_refl u) _⟩
theorem ans_tsb (u p cnt mask top a b x : Nat) (w : World) (h : Uni w u p cnt mask top) (hp : p < 256) (hm : mask < 65536) (ht : top < 65536) (ha : a < 65536) (hb : b < 65536) (hx : b ||| a = x) :
    Calls Try.prog 29 #[.pointer (some ⟨u, 0, none⟩), .int .u8 14, .int .u16 a, .int .u16 b] w (Ans u cnt mask top (x) (setF p 2 (a &&& b == 0)) true w) := by
  have E := Lib.hid (show bits .or .u16 (b : Int) (a : Int) = (x : Nat) by rw [← hx]; exact u16_or_nat b a hb ha)
  clear hx
  go_enter Try.func29, Try.ntmps29
  go_upto_if 43 with fail
  refine wp_cond_true rfl ?_
  apply wp_exit
  repeat (first | refine then_exit ?_ | refine block_miss rfl ?_)
  refine block_hit ?_
  go_wp2_with fail
  refine (common_any u p cnt mask top a b _ h hp ha hb).mono ?_
  rintro e w1 ⟨rfl, rfl⟩
  go_wp2_with fail
  rw [E.out]
  go_ret2
  exact ⟨rfl, h.set _, (Below.refl _ _).setCell (p := ⟨u, 0, none⟩) (Nat.le_refl u) _⟩
theorem ans_trb (u p cnt mask top a b x : Nat) (w : World) (h : Uni w u p cnt mask top) (hp : p < 256) (hm : mask < 65536) (ht : top < 65536) (ha : a < 65536) (hb : b < 65536) (hx : b &&& (65535 - a) = x) :
    Calls Try.prog 29 #[.pointer (some ⟨u, 0, none⟩), .int .u8 15, .int .u16 a, .int .u16 b] w (Ans u cnt mask top (x) (setF p 2 (a &&& b == 0)) true w) := by
  have E := Lib.hid (show bits .andNot .u16 (b : Int) (a : Int) = (x : Nat) by rw [← hx]; exact u16_andNot_nat b a hb ha)
  clear hx
  go_enter Try.func29, Try.ntmps29
  go_upto_if 45 with fail
  refine wp_cond_true rfl ?_
  apply wp_exit
  repeat (first | refine then_exit ?_ | refine block_miss rfl ?_)
  refine block_hit ?_
  go_wp2_with fail
  refine (common_any u p cnt mask top a b _ h hp ha hb).mono ?_
  rintro e w1 ⟨rfl, rfl⟩
  go_wp2_with fail
  rw [E.out]
  go_ret2
  exact ⟨rfl, h.set _, (Below.refl _ _).setCell (p := ⟨u, 0, none⟩) (Nat.le_refl u) _⟩
theorem ans_bit (u p cnt mask top a b t2 : Nat) (w : World) (h : Uni w u p cnt mask top) (hp : p < 256) (hm : mask < 65536) (ht : top < 65536) (ha : a < 65536) (hb : b < 65536) (h2 : top / 2 = t2) :
    Calls Try.prog 29 #[.pointer (some ⟨u, 0, none⟩), .int .u8 6, .int .u16 a, .int .u16 b] w (Ans u cnt mask top (a) (setF (setF (setF p 128 (b &&& top != 0)) 64 (b &&& t2 != 0)) 2 (a &&& b == 0)) true w) := by
  have h3 := h.c3
  have E1 := Lib.hid (show (bits .and .u16 (b : Int) top != 0) = (b &&& top != 0) by rw [u16_and_nat b top hb ht, bne0])
  have E2 := Lib.hid (show (bits .and .u16 (b : Int) ((top : Int) / 2) != 0) = (b &&& t2 != 0) by
    rw [show (top : Int) / 2 = (t2 : Nat) by omega, u16_and_nat b t2 hb (by omega), bne0])
  clear h2
  go_enter Try.func29, Try.ntmps29
  go_upto_if 25 with fail
  refine wp_cond_true rfl ?_
  apply wp_exit
  repeat (first | refine then_exit ?_ | refine block_miss rfl ?_)
  refine block_hit ?_
  go_wp2_with fail
  rw [E1.out]
  refine (set_any u p cnt mask top 128 _ _ h hp (by omega)).mono ?_
  rintro e w1 ⟨rfl, rfl⟩
  have hA := h.set (setF p 128 (b &&& top != 0))
  have rA : setF p 128 (b &&& top != 0) < 256 := setF_lt _ _ _ (by omega)
  go_wp2_with fail
  rw [E2.out]
  refine (set_any u _ cnt mask top 64 _ _ hA rA (by omega)).mono ?_
  rintro e w1 ⟨rfl, rfl⟩
  have hB := hA.set (setF (setF p 128 (b &&& top != 0)) 64 (b &&& t2 != 0))
  have rB : setF (setF p 128 (b &&& top != 0)) 64 (b &&& t2 != 0) < 256 := setF_lt _ _ _ (by omega)
  go_wp2_with fail
  refine (common_any u _ cnt mask top a b _ hB rB ha hb).mono ?_
  rintro e w1 ⟨rfl, rfl⟩
  go_wp2_with fail
  go_ret2
  rw [setCell_twice, setCell_twice]
  exact ⟨rfl, h.set _, (Below.refl _ _).setCell (p := ⟨u, 0, none⟩) (Nat.le_refl u) _⟩
end Go.Proofs.Ytnjbgnkbncjnlaa
