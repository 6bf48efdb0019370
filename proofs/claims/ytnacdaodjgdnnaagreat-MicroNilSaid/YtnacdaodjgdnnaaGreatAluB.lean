/-
  The unit's answer, operation by operation.
-/
import Derived.Test.YtnacdaodjgdnnaaGreatAluA
namespace Go.Proofs.YtnacdaodjgdnnaaGreat.Au
open Go.RowKit Go.Shelf
set_option maxRecDepth 100000
set_option maxHeartbeats 1000000
set_option linter.unusedVariables false
set_option linter.unusedVariables false
def Ans (u cnt mask top X F : Nat) (ok : Bool) (w : World) (e : Ending) (w' : World) : Prop := e = .returned (.tuple #[.int .u16 X, .bool ok]) ∧ Uni w' u F cnt mask top ∧ Below u w w'
theorem ans_or (u p cnt mask top a b x : Nat) (w : World) (h : Uni w u p cnt mask top) (hp : p < 256) (hm : mask < 65536) (ht : top < 65536) (ha : a < 65536) (hb : b < 65536) (hx : a ||| b = x) :
    Calls Tryz.prog 268 #[.pointer (some ⟨u, 0, none⟩), .int .u8 0, .int .u16 a, .int .u16 b] w (Ans u cnt mask top (x &&& mask) (signF p mask top x) true w) := by
  have hx2 : x < 65536 := by rw [← hx]; exact Nat.or_lt_two_pow (n := 16) ha hb
  have E := Lib.hid (show bits .or .u16 (a : Int) (b : Int) = (x : Nat) by rw [← hx]; exact u16_or_nat a b ha hb)
  clear hx
  go_enter Tryz.func268, Tryz.ntmps268
  go_upto_if 13 with fail
  refine wp_cond_true rfl ?_
  apply wp_exit
  repeat (first | refine then_exit ?_ | refine block_miss rfl ?_)
  refine block_hit ?_
  go_wp2_with fail
  rw [E.out]
  refine (sign_any u p cnt mask top x _ h hp hm ht hx2).mono ?_
  rintro e w1 ⟨rfl, rfl⟩
  go_wp2_with fail
  go_ret2
  exact ⟨rfl, h.set _, (Below.refl _ _).setCell (p := ⟨u, 0, none⟩) (Nat.le_refl u) _⟩
theorem ans_and (u p cnt mask top a b x : Nat) (w : World) (h : Uni w u p cnt mask top) (hp : p < 256) (hm : mask < 65536) (ht : top < 65536) (ha : a < 65536) (hb : b < 65536) (hx : a &&& b = x) :
    Calls Tryz.prog 268 #[.pointer (some ⟨u, 0, none⟩), .int .u8 1, .int .u16 a, .int .u16 b] w (Ans u cnt mask top (x &&& mask) (signF p mask top x) true w) := by
  have hx2 : x < 65536 := by rw [← hx]; exact Nat.and_lt_two_pow (n := 16) _ hb
  have E := Lib.hid (show bits .and .u16 (a : Int) (b : Int) = (x : Nat) by rw [← hx]; exact u16_and_nat a b ha hb)
  clear hx
  go_enter Tryz.func268, Tryz.ntmps268
  go_upto_if 15 with fail
  refine wp_cond_true rfl ?_
  apply wp_exit
  repeat (first | refine then_exit ?_ | refine block_miss rfl ?_)
  refine block_hit ?_
  go_wp2_with fail
  rw [E.out]
  refine (sign_any u p cnt mask top x _ h hp hm ht hx2).mono ?_
  rintro e w1 ⟨rfl, rfl⟩
  go_wp2_with fail
  go_ret2
  exact ⟨rfl, h.set _, (Below.refl _ _).setCell (p := ⟨u, 0, none⟩) (Nat.le_refl u) _⟩
theorem ans_xor (u p cnt mask top a b x : Nat) (w : World) (h : Uni w u p cnt mask top) (hp : p < 256) (hm : mask < 65536) (ht : top < 65536) (ha : a < 65536) (hb : b < 65536) (hx : a ^^^ b = x) :
    Calls Tryz.prog 268 #[.pointer (some ⟨u, 0, none⟩), .int .u8 2, .int .u16 a, .int .u16 b] w (Ans u cnt mask top (x &&& mask) (signF p mask top x) true w) := by
  have hx2 : x < 65536 := by rw [← hx]; exact Nat.xor_lt_two_pow (n := 16) ha hb
  have E := Lib.hid (show bits .xor .u16 (a : Int) (b : Int) = (x : Nat) by rw [← hx]; exact u16_xor_nat a b ha hb)
  clear hx
  go_enter Tryz.func268, Tryz.ntmps268
  go_upto_if 17 with fail
  refine wp_cond_true rfl ?_
  apply wp_exit
  repeat (first | refine then_exit ?_ | refine block_miss rfl ?_)
  refine block_hit ?_
  go_wp2_with fail
  rw [E.out]
  refine (sign_any u p cnt mask top x _ h hp hm ht hx2).mono ?_
  rintro e w1 ⟨rfl, rfl⟩
  go_wp2_with fail
  go_ret2
  exact ⟨rfl, h.set _, (Below.refl _ _).setCell (p := ⟨u, 0, none⟩) (Nat.le_refl u) _⟩
theorem ans_load (u p cnt mask top a b x : Nat) (w : World) (h : Uni w u p cnt mask top) (hp : p < 256) (hm : mask < 65536) (ht : top < 65536) (ha : a < 65536) (hb : b < 65536) (hx : b = x) :
    Calls Tryz.prog 268 #[.pointer (some ⟨u, 0, none⟩), .int .u8 7, .int .u16 a, .int .u16 b] w (Ans u cnt mask top (x &&& mask) (signF p mask top x) true w) := by
  subst hx
  go_enter Tryz.func268, Tryz.ntmps268
  go_upto_if 29 with fail
  refine wp_cond_true rfl ?_
  apply wp_exit
  repeat (first | refine then_exit ?_ | refine block_miss rfl ?_)
  refine block_hit ?_
  go_wp2_with fail
  refine (sign_any u p cnt mask top b _ h hp hm ht hb).mono ?_
  rintro e w1 ⟨rfl, rfl⟩
  go_wp2_with fail
  go_ret2
  exact ⟨rfl, h.set _, (Below.refl _ _).setCell (p := ⟨u, 0, none⟩) (Nat.le_refl u) _⟩
theorem ans_inc (u p cnt mask top a b x : Nat) (w : World) (h : Uni w u p cnt mask top) (hp : p < 256) (hm : mask < 65536) (ht : top < 65536) (ha : a < 65536) (hb : b < 65536) (hx : (a + 1) % 65536 = x) :
    Calls Tryz.prog 268 #[.pointer (some ⟨u, 0, none⟩), .int .u8 12, .int .u16 a, .int .u16 b] w (Ans u cnt mask top (x &&& mask) (signF p mask top x) true w) := by
  have hx2 : x < 65536 := by rw [← hx]; exact Nat.mod_lt _ (by decide)
  have E := Lib.hid (show IntKind.u16.wrap ((a : Int) + 1) = (x : Nat) by rw [← hx]; rw [IntKind.wrap_u16]; omega)
  clear hx
  go_enter Tryz.func268, Tryz.ntmps268
  go_upto_if 39 with fail
  refine wp_cond_true rfl ?_
  apply wp_exit
  repeat (first | refine then_exit ?_ | refine block_miss rfl ?_)
  refine block_hit ?_
  go_wp2_with fail
  rw [E.out]
  refine (sign_any u p cnt mask top x _ h hp hm ht hx2).mono ?_
  rintro e w1 ⟨rfl, rfl⟩
  go_wp2_with fail
  go_ret2
  exact ⟨rfl, h.set _, (Below.refl _ _).setCell (p := ⟨u, 0, none⟩) (Nat.le_refl u) _⟩
theorem ans_dec (u p cnt mask top a b x : Nat) (w : World) (h : Uni w u p cnt mask top) (hp : p < 256) (hm : mask < 65536) (ht : top < 65536) (ha : a < 65536) (hb : b < 65536) (hx : (a + 65535) % 65536 = x) :
    Calls Tryz.prog 268 #[.pointer (some ⟨u, 0, none⟩), .int .u8 13, .int .u16 a, .int .u16 b] w (Ans u cnt mask top (x &&& mask) (signF p mask top x) true w) := by
  have hx2 : x < 65536 := by rw [← hx]; exact Nat.mod_lt _ (by decide)
  have E := Lib.hid (show IntKind.u16.wrap ((a : Int) - 1) = (x : Nat) by rw [← hx]; rw [IntKind.wrap_u16]; omega)
  clear hx
  go_enter Tryz.func268, Tryz.ntmps268
  go_upto_if 41 with fail
  refine wp_cond_true rfl ?_
  apply wp_exit
  repeat (first | refine then_exit ?_ | refine block_miss rfl ?_)
  refine block_hit ?_
  go_wp2_with fail
  rw [E.out]
  refine (sign_any u p cnt mask top x _ h hp hm ht hx2).mono ?_
  rintro e w1 ⟨rfl, rfl⟩
  go_wp2_with fail
  go_ret2
  exact ⟨rfl, h.set _, (Below.refl _ _).setCell (p := ⟨u, 0, none⟩) (Nat.le_refl u) _⟩
theorem ans_cmp (u p cnt mask top a b x : Nat) (w : World) (h : Uni w u p cnt mask top) (hp : p < 256) (hm : mask < 65536) (ht : top < 65536) (ha : a < 65536) (hb : b < 65536) (hx : (a + 65536 - b) % 65536 = x) :
    Calls Tryz.prog 268 #[.pointer (some ⟨u, 0, none⟩), .int .u8 5, .int .u16 a, .int .u16 b] w (Ans u cnt mask top (a) (signF (setF p 1 (decide (b ≤ a))) mask top x) true w) := by
  have hx2 : x < 65536 := by omega
  have E := Lib.hid (show IntKind.u16.wrap ((a : Int) - b) = (x : Nat) by rw [← hx, IntKind.wrap_u16]; omega)
  clear hx
  go_enter Tryz.func268, Tryz.ntmps268
  go_upto_if 23 with fail
  refine wp_cond_true rfl ?_
  apply wp_exit
  repeat (first | refine then_exit ?_ | refine block_miss rfl ?_)
  refine block_hit ?_
  go_wp2_with fail
  refine (set_any u p cnt mask top 1 _ _ h hp (by omega)).mono ?_
  rintro e w1 ⟨rfl, rfl⟩
  have hA := h.set (setF p 1 (decide (b ≤ a)))
  have rA : setF p 1 (decide (b ≤ a)) < 256 := setF_lt _ _ _ (by omega)
  go_wp2_with fail
  rw [E.out]
  refine (sign_any u _ cnt mask top x _ hA rA hm ht hx2).mono ?_
  rintro e w1 ⟨rfl, rfl⟩
  go_wp2_with fail
  go_ret2
  rw [setCell_twice]
  exact ⟨rfl, h.set _, (Below.refl _ _).setCell (p := ⟨u, 0, none⟩) (Nat.le_refl u) _⟩
theorem ans_biti (u p cnt mask top a b x : Nat) (w : World) (h : Uni w u p cnt mask top) (hp : p < 256) (hm : mask < 65536) (ht : top < 65536) (ha : a < 65536) (hb : b < 65536) (hx : a = x) :
    Calls Tryz.prog 268 #[.pointer (some ⟨u, 0, none⟩), .int .u8 16, .int .u16 a, .int .u16 b] w (Ans u cnt mask top (x) (setF p 2 (a &&& b == 0)) true w) := by
  subst hx
  go_enter Tryz.func268, Tryz.ntmps268
  go_upto_if 27 with fail
  refine wp_cond_true rfl ?_
  apply wp_exit
  repeat (first | refine then_exit ?_ | refine block_miss rfl ?_)
  refine block_hit ?_
  go_wp2_with fail
  refine (common_any u p cnt mask top a b _ h hp ha hb).mono ?_
  rintro e w1 ⟨rfl, rfl⟩
  go_wp2_with fail
  go_ret2
  exact ⟨rfl, h.set _, (Below.refl _ _).setCell (p := ⟨u, 0, none⟩) (Nat.le_refl u) _⟩
theorem ans_tsb (u p cnt mask top a b x : Nat) (w : World) (h : Uni w u p cnt mask top) (hp : p < 256) (hm : mask < 65536) (ht : top < 65536) (ha : a < 65536) (hb : b < 65536) (hx : b ||| a = x) :
    Calls Tryz.prog 268 #[.pointer (some ⟨u, 0, none⟩), .int .u8 14, .int .u16 a, .int .u16 b] w (Ans u cnt mask top (x) (setF p 2 (a &&& b == 0)) true w) := by
  have E := Lib.hid (show bits .or .u16 (b : Int) (a : Int) = (x : Nat) by rw [← hx]; exact u16_or_nat b a hb ha)
  clear hx
  go_enter Tryz.func268, Tryz.ntmps268
  go_upto_if 43 with fail
  refine wp_cond_true rfl ?_
  apply wp_exit
  repeat (first | refine then_exit ?_ | refine block_miss rfl ?_)
  refine block_hit ?_
  go_wp2_with fail
  refine (common_any u p cnt mask top a b _ h hp ha hb).mono ?_
  rintro e w1 ⟨rfl, rfl⟩
  go_wp2_with fail
  rw [E.out]
  go_ret2
  exact ⟨rfl, h.set _, (Below.refl _ _).setCell (p := ⟨u, 0, none⟩) (Nat.le_refl u) _⟩
theorem ans_trb (u p cnt mask top a b x : Nat) (w : World) (h : Uni w u p cnt mask top) (hp : p < 256) (hm : mask < 65536) (ht : top < 65536) (ha : a < 65536) (hb : b < 65536) (hx : b &&& (65535 - a) = x) :
    Calls Tryz.prog 268 #[.pointer (some ⟨u, 0, none⟩), .int .u8 15, .int .u16 a, .int .u16 b] w (Ans u cnt mask top (x) (setF p 2 (a &&& b == 0)) true w) := by
  have E := Lib.hid (show bits .andNot .u16 (b : Int) (a : Int) = (x : Nat) by rw [← hx]; exact u16_andNot_nat b a hb ha)
  clear hx
  go_enter Tryz.func268, Tryz.ntmps268
  go_upto_if 45 with fail
  refine wp_cond_true rfl ?_
  apply wp_exit
  repeat (first | refine then_exit ?_ | refine block_miss rfl ?_)
  refine block_hit ?_
  go_wp2_with fail
  refine (common_any u p cnt mask top a b _ h hp ha hb).mono ?_
  rintro e w1 ⟨rfl, rfl⟩
  go_wp2_with fail
  rw [E.out]
  go_ret2
  exact ⟨rfl, h.set _, (Below.refl _ _).setCell (p := ⟨u, 0, none⟩) (Nat.le_refl u) _⟩
theorem ans_bit (u p cnt mask top a b t2 : Nat) (w : World) (h : Uni w u p cnt mask top) (hp : p < 256) (hm : mask < 65536) (ht : top < 65536) (ha : a < 65536) (hb : b < 65536) (h2 : top / 2 = t2) :
    Calls Tryz.prog 268 #[.pointer (some ⟨u, 0, none⟩), .int .u8 6, .int .u16 a, .int .u16 b] w (Ans u cnt mask top (a) (setF (setF (setF p 128 (b &&& top != 0)) 64 (b &&& t2 != 0)) 2 (a &&& b == 0)) true w) := by
  have h3 := h.c3
  have E1 := Lib.hid (show (bits .and .u16 (b : Int) top != 0) = (b &&& top != 0) by rw [u16_and_nat b top hb ht, bne0])
  have E2 := Lib.hid (show (bits .and .u16 (b : Int) ((top : Int) / 2) != 0) = (b &&& t2 != 0) by
    rw [show (top : Int) / 2 = (t2 : Nat) by omega, u16_and_nat b t2 hb (by omega), bne0])
  clear h2
  go_enter Tryz.func268, Tryz.ntmps268
  go_upto_if 25 with fail
  refine wp_cond_true rfl ?_
  apply wp_exit
  repeat (first | refine then_exit ?_ | refine block_miss rfl ?_)
  refine block_hit ?_
  go_wp2_with fail
  rw [E1.out]
  refine (set_any u p cnt mask top 128 _ _ h hp (by omega)).mono ?_
  rintro e w1 ⟨rfl, rfl⟩
  have hA := h.set (setF p 128 (b &&& top != 0))
  have rA : setF p 128 (b &&& top != 0) < 256 := setF_lt _ _ _ (by omega)
  go_wp2_with fail
  rw [E2.out]
  refine (set_any u _ cnt mask top 64 _ _ hA rA (by omega)).mono ?_
  rintro e w1 ⟨rfl, rfl⟩
  have hB := hA.set (setF (setF p 128 (b &&& top != 0)) 64 (b &&& t2 != 0))
  have rB : setF (setF p 128 (b &&& top != 0)) 64 (b &&& t2 != 0) < 256 := setF_lt _ _ _ (by omega)
  go_wp2_with fail
  refine (common_any u _ cnt mask top a b _ hB rB ha hb).mono ?_
  rintro e w1 ⟨rfl, rfl⟩
  go_wp2_with fail
  go_ret2
  rw [setCell_twice, setCell_twice]
  exact ⟨rfl, h.set _, (Below.refl _ _).setCell (p := ⟨u, 0, none⟩) (Nat.le_refl u) _⟩
end Go.Proofs.YtnacdaodjgdnnaaGreat.Au
namespace Go.Proofs.YtnacdaodjgdnnaaGreat.Au
open Go.RowKit Go.Shelf
set_option maxRecDepth 100000
set_option maxHeartbeats 1000000
set_option linter.unusedVariables false
set_option linter.unusedVariables false
theorem ans_asl (u p cnt mask top a b c x : Nat) (w : World) (h : Uni w u p cnt mask top) (hp : p < 256) (hm : mask < 65536) (ht : top < 65536) (ha : a < 65536) (hb : b < 65536) (hc : p % 2 = c) (hx : (a * 2 % 65536 ||| 0) = x) :
    Calls Tryz.prog 268 #[.pointer (some ⟨u, 0, none⟩), .int .u8 8, .int .u16 a, .int .u16 b] w (Ans u cnt mask top (x &&& mask) (signF (setF p 1 (a &&& top != 0)) mask top x) true w) := by
  have hc2 : c < 2 := by omega
  have h3 := h.c3
  have E1 := Lib.hid (show (bits .and .u16 (a : Int) top != 0) = (a &&& top != 0) by rw [u16_and_nat a top ha ht, bne0])
  have E := Lib.hid (show bits .or .u16 (IntKind.u16.wrap ((a : Int) * 2)) 0 = (x : Nat) by rw [← hx, IntKind.wrap_u16, show (a : Int) * 2 % 65536 = ((a * 2 % 65536 : Nat) : Int) by omega, show (0 : Int) = ((0 : Nat) : Int) from rfl, u16_or_nat _ 0 (Nat.mod_lt _ (by decide)) (by decide)])
  have hx2 : x < 65536 := by rw [← hx]; exact Nat.or_lt_two_pow (n := 16) (Nat.mod_lt _ (by decide)) (by decide)
  have HC := Lib.hid hc
  clear hx hc
  go_enter Tryz.func268, Tryz.ntmps268
  go_upto_if 33 with fail
  refine wp_cond_true rfl ?_
  apply wp_exit
  repeat (first | refine then_exit ?_ | refine block_miss rfl ?_)
  refine block_hit ?_
  go_wp2_with fail
  rw [E1.out]
  refine (set_any u p cnt mask top 1 _ _ h hp (by omega)).mono ?_
  rintro e w1 ⟨rfl, rfl⟩
  have hA := h.set (setF p 1 (a &&& top != 0))
  have rA : setF p 1 (a &&& top != 0) < 256 := setF_lt _ _ _ (by omega)
  go_wp2_with fail
  rw [E.out]
  refine (sign_any u _ cnt mask top x _ hA rA hm ht hx2).mono ?_
  rintro e w1 ⟨rfl, rfl⟩
  go_wp2_with fail
  go_ret2
  rw [setCell_twice]
  exact ⟨rfl, h.set _, (Below.refl _ _).setCell (p := ⟨u, 0, none⟩) (Nat.le_refl u) _⟩
theorem ans_rol (u p cnt mask top a b c x : Nat) (w : World) (h : Uni w u p cnt mask top) (hp : p < 256) (hm : mask < 65536) (ht : top < 65536) (ha : a < 65536) (hb : b < 65536) (hc : p % 2 = c) (hx : (a * 2 % 65536 ||| c) = x) :
    Calls Tryz.prog 268 #[.pointer (some ⟨u, 0, none⟩), .int .u8 9, .int .u16 a, .int .u16 b] w (Ans u cnt mask top (x &&& mask) (signF (setF p 1 (a &&& top != 0)) mask top x) true w) := by
  have hc2 : c < 2 := by omega
  have h3 := h.c3
  have E1 := Lib.hid (show (bits .and .u16 (a : Int) top != 0) = (a &&& top != 0) by rw [u16_and_nat a top ha ht, bne0])
  have E := Lib.hid (show bits .or .u16 (IntKind.u16.wrap ((a : Int) * 2)) (c : Int) = (x : Nat) by rw [← hx, IntKind.wrap_u16, show (a : Int) * 2 % 65536 = ((a * 2 % 65536 : Nat) : Int) by omega, u16_or_nat _ c (Nat.mod_lt _ (by decide)) (by omega)])
  have hx2 : x < 65536 := by rw [← hx]; exact Nat.or_lt_two_pow (n := 16) (Nat.mod_lt _ (by decide)) (by omega)
  have HC := Lib.hid hc
  clear hx hc
  go_enter Tryz.func268, Tryz.ntmps268
  go_upto_if 31 with fail
  refine wp_cond_true rfl ?_
  apply wp_exit
  repeat (first | refine then_exit ?_ | refine block_miss rfl ?_)
  refine block_hit ?_
  go_wp2_with fail
  refine (carry_at u p cnt mask top c _ h hp HC.out).mono ?_
  rintro e w1 ⟨rfl, rfl⟩
  go_wp2_with fail
  rw [E1.out]
  refine (set_any u p cnt mask top 1 _ _ h hp (by omega)).mono ?_
  rintro e w1 ⟨rfl, rfl⟩
  have hA := h.set (setF p 1 (a &&& top != 0))
  have rA : setF p 1 (a &&& top != 0) < 256 := setF_lt _ _ _ (by omega)
  go_wp2_with fail
  rw [E.out]
  refine (sign_any u _ cnt mask top x _ hA rA hm ht hx2).mono ?_
  rintro e w1 ⟨rfl, rfl⟩
  go_wp2_with fail
  go_ret2
  rw [setCell_twice]
  exact ⟨rfl, h.set _, (Below.refl _ _).setCell (p := ⟨u, 0, none⟩) (Nat.le_refl u) _⟩
theorem ans_lsr (u p cnt mask top a b c x : Nat) (w : World) (h : Uni w u p cnt mask top) (hp : p < 256) (hm : mask < 65536) (ht : top < 65536) (ha : a < 65536) (hb : b < 65536) (hc : p % 2 = c) (hx : (a / 2 ||| 0) = x) :
    Calls Tryz.prog 268 #[.pointer (some ⟨u, 0, none⟩), .int .u8 10, .int .u16 a, .int .u16 b] w (Ans u cnt mask top (x &&& mask) (signF (setF p 1 (a % 2 == 1)) mask top x) true w) := by
  have hc2 : c < 2 := by omega
  have h3 := h.c3
  have E1 := Lib.hid (low_bit a ha)
  have E := Lib.hid (show bits .or .u16 ((a : Int) / 2) 0 = (x : Nat) by rw [← hx, show (a : Int) / 2 = ((a / 2 : Nat) : Int) by omega, show (0 : Int) = ((0 : Nat) : Int) from rfl, u16_or_nat _ 0 (by omega) (by decide)])
  have hx2 : x < 65536 := by rw [← hx]; exact Nat.or_lt_two_pow (n := 16) (by omega) (by decide)
  have HC := Lib.hid hc
  clear hx hc
  go_enter Tryz.func268, Tryz.ntmps268
  go_upto_if 37 with fail
  refine wp_cond_true rfl ?_
  apply wp_exit
  repeat (first | refine then_exit ?_ | refine block_miss rfl ?_)
  refine block_hit ?_
  go_wp2_with fail
  rw [E1.out]
  refine (set_any u p cnt mask top 1 _ _ h hp (by omega)).mono ?_
  rintro e w1 ⟨rfl, rfl⟩
  have hA := h.set (setF p 1 (a % 2 == 1))
  have rA : setF p 1 (a % 2 == 1) < 256 := setF_lt _ _ _ (by omega)
  go_wp2_with fail
  rw [E.out]
  refine (sign_any u _ cnt mask top x _ hA rA hm ht hx2).mono ?_
  rintro e w1 ⟨rfl, rfl⟩
  go_wp2_with fail
  go_ret2
  rw [setCell_twice]
  exact ⟨rfl, h.set _, (Below.refl _ _).setCell (p := ⟨u, 0, none⟩) (Nat.le_refl u) _⟩
theorem ans_ror (u p cnt mask top a b c x : Nat) (w : World) (h : Uni w u p cnt mask top) (hp : p < 256) (hm : mask < 65536) (ht : top < 65536) (ha : a < 65536) (hb : b < 65536) (hc : p % 2 = c) (hx : (a / 2 ||| top * c % 65536) = x) :
    Calls Tryz.prog 268 #[.pointer (some ⟨u, 0, none⟩), .int .u8 11, .int .u16 a, .int .u16 b] w (Ans u cnt mask top (x &&& mask) (signF (setF p 1 (a % 2 == 1)) mask top x) true w) := by
  have hc2 : c < 2 := by omega
  have h3 := h.c3
  have E1 := Lib.hid (low_bit a ha)
  have E := Lib.hid (show bits .or .u16 ((a : Int) / 2) (IntKind.u16.wrap ((top : Int) * c)) = (x : Nat) by rw [← hx, IntKind.wrap_u16, show (a : Int) / 2 = ((a / 2 : Nat) : Int) by omega, show (top : Int) * c % 65536 = ((top * c % 65536 : Nat) : Int) by rw [← Int.natCast_mul]; omega, u16_or_nat _ _ (by omega) (Nat.mod_lt _ (by decide))])
  have hx2 : x < 65536 := by rw [← hx]; exact Nat.or_lt_two_pow (n := 16) (by omega) (Nat.mod_lt _ (by decide))
  have HC := Lib.hid hc
  clear hx hc
  go_enter Tryz.func268, Tryz.ntmps268
  go_upto_if 35 with fail
  refine wp_cond_true rfl ?_
  apply wp_exit
  repeat (first | refine then_exit ?_ | refine block_miss rfl ?_)
  refine block_hit ?_
  go_wp2_with fail
  go_quiet ((go_at_call 297; exact Calls.quiet_of_same ((carry_at u p cnt mask top c _ (Uni.drewN h _) hp HC.out).mono fun _ _ ⟨he, hw⟩ => ⟨he, hw.symm⟩)))
  replace h := Uni.drewN h nq
  go_wp2_with fail
  rw [E1.out]
  refine (set_any u p cnt mask top 1 _ _ h hp (by omega)).mono ?_
  rintro e w1 ⟨rfl, rfl⟩
  have hA := h.set (setF p 1 (a % 2 == 1))
  have rA : setF p 1 (a % 2 == 1) < 256 := setF_lt _ _ _ (by omega)
  go_wp2_with fail
  rw [E.out]
  refine (sign_any u _ cnt mask top x _ hA rA hm ht hx2).mono ?_
  rintro e w1 ⟨rfl, rfl⟩
  go_wp2_with fail
  go_ret2
  rw [setCell_twice]
  exact ⟨rfl, h.set _, (below_drewN (Below.refl _ _) nq).setCell (p := ⟨u, 0, none⟩) (Nat.le_refl u) _⟩
end Go.Proofs.YtnacdaodjgdnnaaGreat.Au
namespace Go.Proofs.YtnacdaodjgdnnaaGreat.Au
open Go.RowKit Go.Shelf
set_option maxRecDepth 100000
set_option maxHeartbeats 1000000
set_option linter.unusedVariables false
set_option linter.unusedVariables false
theorem then_normal {K : Act → World → Prop} {Q : Exit → Act → World → Prop} {a : Act} {w : World} (h : K a w) : Exit.then K Q .normal a w := h
/-- Digit by digit: what the corrected digits are. -/
def q0 (cor : Nat → Nat × Nat) (a b c : Nat) : Nat × Nat := cor (a % 16 + b % 16 + c)
def q1 (cor : Nat → Nat × Nat) (a b c : Nat) : Nat × Nat := cor (a / 16 % 16 + b / 16 % 16 + (q0 cor a b c).2)
def q2 (cor : Nat → Nat × Nat) (a b c : Nat) : Nat × Nat := cor (a / 256 % 16 + b / 256 % 16 + (q1 cor a b c).2)
def q3 (cor : Nat → Nat × Nat) (a b c : Nat) : Nat × Nat := cor (a / 4096 % 16 + b / 4096 % 16 + (q2 cor a b c).2)
def dX2 (cor : Nat → Nat × Nat) (a b c : Nat) : Nat := (q0 cor a b c).1 + 16 * (q1 cor a b c).1 + 256 * (a / 256 % 16) + 4096 * (a / 4096 % 16)
def dX4 (cor : Nat → Nat × Nat) (a b c : Nat) : Nat := (q0 cor a b c).1 + 16 * (q1 cor a b c).1 + 256 * (q2 cor a b c).1 + 4096 * (q3 cor a b c).1
def dS2 (cor : Nat → Nat × Nat) (a b c : Nat) : Nat := a / 16 % 16 + b / 16 % 16 + (q0 cor a b c).2
def dS4 (cor : Nat → Nat × Nat) (a b c : Nat) : Nat := a / 4096 % 16 + b / 4096 % 16 + (q2 cor a b c).2
def dF (mask top p a b C S X : Nat) : Nat := signF (overF (setF p 1 (C != 0)) top a b (S &&& 8 != 0)) mask top X
def Cor (cor : Nat → Nat × Nat) : Prop := ∀ s, s < 32 → (cor s).1 < 16 ∧ (cor s).2 < 2
theorem corS_ok : Cor corS := by
  intro s hs
  unfold corS
  split <;> constructor <;> simp <;> omega
theorem corD_ok : Cor corD := by
  intro s hs
  unfold corD
  split <;> constructor <;> simp <;> omega
theorem digs_lt (cor : Nat → Nat × Nat) (h : Cor cor) (a b c : Nat) (hc : c < 2) :
    ((q0 cor a b c).1 < 16 ∧ (q0 cor a b c).2 < 2) ∧ ((q1 cor a b c).1 < 16 ∧ (q1 cor a b c).2 < 2) ∧ ((q2 cor a b c).1 < 16 ∧ (q2 cor a b c).2 < 2) ∧ ((q3 cor a b c).1 < 16 ∧ (q3 cor a b c).2 < 2) := by
  have m : ∀ x, x % 16 < 16 := fun x => Nat.mod_lt _ (by decide)
  have z0 : (q0 cor a b c).1 < 16 ∧ (q0 cor a b c).2 < 2 := h _ (by have := m a; have := m b; omega)
  have z1 : (q1 cor a b c).1 < 16 ∧ (q1 cor a b c).2 < 2 := h _ (by have := m (a / 16); have := m (b / 16); omega)
  have z2 : (q2 cor a b c).1 < 16 ∧ (q2 cor a b c).2 < 2 := h _ (by have := m (a / 256); have := m (b / 256); omega)
  exact ⟨z0, z1, z2, h _ (by have := m (a / 4096); have := m (b / 4096); omega)⟩
theorem digits2_any (g : Nat) (cor : Nat → Nat × Nat) (eg : ∀ args w, (callFunc g args).run Tryz.prog w = .ok (.enter g args) w)
    (hg : ∀ (s : Nat) (w : World), s < 32 → Calls Tryz.prog g #[.int .u16 s] w fun e w' => e = .returned (.tuple #[.int .u16 ((cor s).1 : Nat), .int .u16 ((cor s).2 : Nat)]) ∧ w = w') (hk : Cor cor)
    (u p mask top a b c : Nat) (w : World) (h : Uni w u p 2 mask top) (hp : p < 256) (hm : mask < 65536) (ht : top < 65536) (ha : a < 65536) (hb : b < 65536) (hc : p % 2 = c) :
    Calls Tryz.prog 293 #[.pointer (some ⟨u, 0, none⟩), .int .u16 a, .int .u16 b, .func (.func g) #[] #[]] w fun e w' => e = .returned (.int .u16 (dX2 cor a b c &&& mask : Nat)) ∧ Uni w' u (dF mask top p a b (q1 cor a b c).2 (dS2 cor a b c) (dX2 cor a b c)) 2 mask top ∧ Below u w w' := by
  have z := digs_lt cor hk a b c (by omega)
  exact addDigits2_any g cor eg hg u p mask top a b (dX2 cor a b c) w h hp hm ht ha hb c _ _ _ _ _ _ _ _ _ (q0 cor a b c).1 (q0 cor a b c).2 _ (q1 cor a b c).1 (q1 cor a b c).2 hc rfl rfl rfl rfl rfl rfl rfl rfl rfl rfl rfl rfl z.1.2 z.1.1 z.2.1.1 rfl
theorem digits4_any (g : Nat) (cor : Nat → Nat × Nat) (eg : ∀ args w, (callFunc g args).run Tryz.prog w = .ok (.enter g args) w)
    (hg : ∀ (s : Nat) (w : World), s < 32 → Calls Tryz.prog g #[.int .u16 s] w fun e w' => e = .returned (.tuple #[.int .u16 ((cor s).1 : Nat), .int .u16 ((cor s).2 : Nat)]) ∧ w = w') (hk : Cor cor)
    (u p mask top a b c : Nat) (w : World) (h : Uni w u p 4 mask top) (hp : p < 256) (hm : mask < 65536) (ht : top < 65536) (ha : a < 65536) (hb : b < 65536) (hc : p % 2 = c) :
    Calls Tryz.prog 293 #[.pointer (some ⟨u, 0, none⟩), .int .u16 a, .int .u16 b, .func (.func g) #[] #[]] w fun e w' => e = .returned (.int .u16 (dX4 cor a b c &&& mask : Nat)) ∧ Uni w' u (dF mask top p a b (q3 cor a b c).2 (dS4 cor a b c) (dX4 cor a b c)) 4 mask top ∧ Below u w w' := by
  have z := digs_lt cor hk a b c (by omega)
  exact addDigits4_any g cor eg hg u p mask top a b (dX4 cor a b c) w h hp hm ht ha hb c _ _ _ _ _ _ _ _ _ (q0 cor a b c).1 (q0 cor a b c).2 _ (q1 cor a b c).1 (q1 cor a b c).2 _ (q2 cor a b c).1 (q2 cor a b c).2 _ (q3 cor a b c).1 (q3 cor a b c).2 hc rfl rfl rfl rfl rfl rfl rfl rfl rfl rfl rfl rfl rfl rfl rfl rfl z.1.2 z.1.1 z.2.1.2 z.2.1.1 z.2.2.1.2 z.2.2.1.1 z.2.2.2.1 rfl
theorem ans_add (u p cnt mask top a b c : Nat) (w : World) (h : Uni w u p cnt mask top) (hp : p < 256) (hm : mask < 65536) (ht : top < 65536) (ha : a < 65536) (hb : b < 65536) (hc : p % 2 = c) (hd : (p &&& 8 != 0) = false) :
    Calls Tryz.prog 268 #[.pointer (some ⟨u, 0, none⟩), .int .u8 3, .int .u16 a, .int .u16 b] w (Ans u cnt mask top ((a + b + c) % 65536 &&& mask) (addF p mask top a b c) true w) := by
  have h0 := h.c0
  have HC := Lib.hid hc
  have hq : (bits .and .u8 (p : Int) 8 != 0) = false := by rw [show (8 : Int) = ((8 : Nat) : Int) from rfl, u8_and_nat p 8 hp (by omega), bne0]; exact hd
  clear hc hd
  go_enter Tryz.func268, Tryz.ntmps268
  go_upto_if 21 with fail
  refine wp_cond_true rfl ?_
  apply wp_exit
  repeat (first | refine then_exit ?_ | refine block_miss rfl ?_)
  refine block_hit ?_
  go_wp2_with fail
  refine (add_any u p cnt mask top a b c _ h hp hm ht ha hb HC.out).mono ?_
  rintro e w1 ⟨rfl, rfl⟩
  go_wp2_with fail
  go_ret2
  exact ⟨rfl, h.set _, (Below.refl _ _).setCell (p := ⟨u, 0, none⟩) (Nat.le_refl u) _⟩
theorem ans_addD2 (u p  mask top a b c : Nat) (w : World) (h : Uni w u p 2 mask top) (hp : p < 256) (hm : mask < 65536) (ht : top < 65536) (ha : a < 65536) (hb : b < 65536) (hc : p % 2 = c) (hd : (p &&& 8 != 0) = true) :
    Calls Tryz.prog 268 #[.pointer (some ⟨u, 0, none⟩), .int .u8 3, .int .u16 a, .int .u16 b] w (Ans u 2 mask top (dX2 corS a b c &&& mask) (dF mask top p a b (q1 corS a b c).2 (dS2 corS a b c) (dX2 corS a b c)) true w) := by
  have h0 := h.c0
  have HC := Lib.hid hc
  have hq : (bits .and .u8 (p : Int) 8 != 0) = true := by rw [show (8 : Int) = ((8 : Nat) : Int) from rfl, u8_and_nat p 8 hp (by omega), bne0]; exact hd
  clear hc hd
  go_enter Tryz.func268, Tryz.ntmps268
  go_upto_if 21 with fail
  refine wp_cond_true rfl ?_
  apply wp_exit
  repeat (first | refine then_exit ?_ | refine block_miss rfl ?_)
  refine block_hit ?_
  go_wp2_with fail
  refine (digits2_any 290 corS (enters_of Tryz.func290 (by kernel_rfl) rfl) corS_any corS_ok u p mask top a b c _ h hp hm ht ha hb HC.out).mono ?_
  rintro e w1 ⟨rfl, hU, hB⟩
  go_wp2_with fail
  go_ret2
  exact ⟨rfl, hU, hB⟩
theorem ans_addD4 (u p  mask top a b c : Nat) (w : World) (h : Uni w u p 4 mask top) (hp : p < 256) (hm : mask < 65536) (ht : top < 65536) (ha : a < 65536) (hb : b < 65536) (hc : p % 2 = c) (hd : (p &&& 8 != 0) = true) :
    Calls Tryz.prog 268 #[.pointer (some ⟨u, 0, none⟩), .int .u8 3, .int .u16 a, .int .u16 b] w (Ans u 4 mask top (dX4 corS a b c &&& mask) (dF mask top p a b (q3 corS a b c).2 (dS4 corS a b c) (dX4 corS a b c)) true w) := by
  have h0 := h.c0
  have HC := Lib.hid hc
  have hq : (bits .and .u8 (p : Int) 8 != 0) = true := by rw [show (8 : Int) = ((8 : Nat) : Int) from rfl, u8_and_nat p 8 hp (by omega), bne0]; exact hd
  clear hc hd
  go_enter Tryz.func268, Tryz.ntmps268
  go_upto_if 21 with fail
  refine wp_cond_true rfl ?_
  apply wp_exit
  repeat (first | refine then_exit ?_ | refine block_miss rfl ?_)
  refine block_hit ?_
  go_wp2_with fail
  refine (digits4_any 290 corS (enters_of Tryz.func290 (by kernel_rfl) rfl) corS_any corS_ok u p mask top a b c _ h hp hm ht ha hb HC.out).mono ?_
  rintro e w1 ⟨rfl, hU, hB⟩
  go_wp2_with fail
  go_ret2
  exact ⟨rfl, hU, hB⟩
theorem ans_sub (u p cnt mask top a b c y : Nat) (w : World) (h : Uni w u p cnt mask top) (hp : p < 256) (hm : mask < 65536) (ht : top < 65536) (ha : a < 65536) (hb : b < 65536) (hc : p % 2 = c) (hy : b ^^^ mask = y) (hd : (p &&& 8 != 0) = false) :
    Calls Tryz.prog 268 #[.pointer (some ⟨u, 0, none⟩), .int .u8 4, .int .u16 a, .int .u16 b] w (Ans u cnt mask top ((a + y + c) % 65536 &&& mask) (addF p mask top a y c) true w) := by
  have h0 := h.c0
  have HC := Lib.hid hc
  have hq : (bits .and .u8 (p : Int) 8 != 0) = false := by rw [show (8 : Int) = ((8 : Nat) : Int) from rfl, u8_and_nat p 8 hp (by omega), bne0]; exact hd
  clear hc hd
  have hy2 : y < 65536 := by rw [← hy]; exact Nat.xor_lt_two_pow (n := 16) hb hm
  have EY := Lib.hid (show bits .xor .u16 (b : Int) mask = (y : Nat) by rw [← hy]; exact u16_xor_nat b mask hb hm)
  have h2 := h.c2
  clear hy
  go_enter Tryz.func268, Tryz.ntmps268
  go_upto_if 19 with fail
  refine wp_cond_true rfl ?_
  apply wp_exit
  repeat (first | refine then_exit ?_ | refine block_miss rfl ?_)
  refine block_hit ?_
  go_wp2_with fail
  rw [EY.out]
  refine (add_any u p cnt mask top a y c _ h hp hm ht ha hy2 HC.out).mono ?_
  rintro e w1 ⟨rfl, rfl⟩
  go_wp2_with fail
  go_ret2
  exact ⟨rfl, h.set _, (Below.refl _ _).setCell (p := ⟨u, 0, none⟩) (Nat.le_refl u) _⟩
theorem ans_subD2 (u p  mask top a b c y : Nat) (w : World) (h : Uni w u p 2 mask top) (hp : p < 256) (hm : mask < 65536) (ht : top < 65536) (ha : a < 65536) (hb : b < 65536) (hc : p % 2 = c) (hy : b ^^^ mask = y) (hd : (p &&& 8 != 0) = true) :
    Calls Tryz.prog 268 #[.pointer (some ⟨u, 0, none⟩), .int .u8 4, .int .u16 a, .int .u16 b] w (Ans u 2 mask top (dX2 corD a y c &&& mask) (dF mask top p a y (q1 corD a y c).2 (dS2 corD a y c) (dX2 corD a y c)) true w) := by
  have h0 := h.c0
  have HC := Lib.hid hc
  have hq : (bits .and .u8 (p : Int) 8 != 0) = true := by rw [show (8 : Int) = ((8 : Nat) : Int) from rfl, u8_and_nat p 8 hp (by omega), bne0]; exact hd
  clear hc hd
  have hy2 : y < 65536 := by rw [← hy]; exact Nat.xor_lt_two_pow (n := 16) hb hm
  have EY := Lib.hid (show bits .xor .u16 (b : Int) mask = (y : Nat) by rw [← hy]; exact u16_xor_nat b mask hb hm)
  have h2 := h.c2
  clear hy
  go_enter Tryz.func268, Tryz.ntmps268
  go_upto_if 19 with fail
  refine wp_cond_true rfl ?_
  apply wp_exit
  repeat (first | refine then_exit ?_ | refine block_miss rfl ?_)
  refine block_hit ?_
  go_wp2_with fail
  rw [EY.out]
  refine (digits2_any 292 corD (enters_of Tryz.func292 (by kernel_rfl) rfl) corD_any corD_ok u p mask top a y c _ h hp hm ht ha hy2 HC.out).mono ?_
  rintro e w1 ⟨rfl, hU, hB⟩
  go_wp2_with fail
  go_ret2
  exact ⟨rfl, hU, hB⟩
theorem ans_subD4 (u p  mask top a b c y : Nat) (w : World) (h : Uni w u p 4 mask top) (hp : p < 256) (hm : mask < 65536) (ht : top < 65536) (ha : a < 65536) (hb : b < 65536) (hc : p % 2 = c) (hy : b ^^^ mask = y) (hd : (p &&& 8 != 0) = true) :
    Calls Tryz.prog 268 #[.pointer (some ⟨u, 0, none⟩), .int .u8 4, .int .u16 a, .int .u16 b] w (Ans u 4 mask top (dX4 corD a y c &&& mask) (dF mask top p a y (q3 corD a y c).2 (dS4 corD a y c) (dX4 corD a y c)) true w) := by
  have h0 := h.c0
  have HC := Lib.hid hc
  have hq : (bits .and .u8 (p : Int) 8 != 0) = true := by rw [show (8 : Int) = ((8 : Nat) : Int) from rfl, u8_and_nat p 8 hp (by omega), bne0]; exact hd
  clear hc hd
  have hy2 : y < 65536 := by rw [← hy]; exact Nat.xor_lt_two_pow (n := 16) hb hm
  have EY := Lib.hid (show bits .xor .u16 (b : Int) mask = (y : Nat) by rw [← hy]; exact u16_xor_nat b mask hb hm)
  have h2 := h.c2
  clear hy
  go_enter Tryz.func268, Tryz.ntmps268
  go_upto_if 19 with fail
  refine wp_cond_true rfl ?_
  apply wp_exit
  repeat (first | refine then_exit ?_ | refine block_miss rfl ?_)
  refine block_hit ?_
  go_wp2_with fail
  rw [EY.out]
  refine (digits4_any 292 corD (enters_of Tryz.func292 (by kernel_rfl) rfl) corD_any corD_ok u p mask top a y c _ h hp hm ht ha hy2 HC.out).mono ?_
  rintro e w1 ⟨rfl, hU, hB⟩
  go_wp2_with fail
  go_ret2
  exact ⟨rfl, hU, hB⟩
theorem ans_none (u p cnt mask top a b op : Nat) (w : World) (h : Uni w u p cnt mask top) (hop : 16 < op) :
    Calls Tryz.prog 268 #[.pointer (some ⟨u, 0, none⟩), .int .u8 op, .int .u16 a, .int .u16 b] w (Ans u cnt mask top 0 p false w) := by
  have h0 : ((op : Int) == 0) = false := by rw [beq_eq_false_iff_ne]; omega
  have h1 : ((op : Int) == 1) = false := by rw [beq_eq_false_iff_ne]; omega
  have h2 : ((op : Int) == 2) = false := by rw [beq_eq_false_iff_ne]; omega
  have h3 : ((op : Int) == 3) = false := by rw [beq_eq_false_iff_ne]; omega
  have h4 : ((op : Int) == 4) = false := by rw [beq_eq_false_iff_ne]; omega
  have h5 : ((op : Int) == 5) = false := by rw [beq_eq_false_iff_ne]; omega
  have h6 : ((op : Int) == 6) = false := by rw [beq_eq_false_iff_ne]; omega
  have h7 : ((op : Int) == 7) = false := by rw [beq_eq_false_iff_ne]; omega
  have h8 : ((op : Int) == 8) = false := by rw [beq_eq_false_iff_ne]; omega
  have h9 : ((op : Int) == 9) = false := by rw [beq_eq_false_iff_ne]; omega
  have h10 : ((op : Int) == 10) = false := by rw [beq_eq_false_iff_ne]; omega
  have h11 : ((op : Int) == 11) = false := by rw [beq_eq_false_iff_ne]; omega
  have h12 : ((op : Int) == 12) = false := by rw [beq_eq_false_iff_ne]; omega
  have h13 : ((op : Int) == 13) = false := by rw [beq_eq_false_iff_ne]; omega
  have h14 : ((op : Int) == 14) = false := by rw [beq_eq_false_iff_ne]; omega
  have h15 : ((op : Int) == 15) = false := by rw [beq_eq_false_iff_ne]; omega
  have h16 : ((op : Int) == 16) = false := by rw [beq_eq_false_iff_ne]; omega
  clear hop
  go_enter Tryz.func268, Tryz.ntmps268
  go_upto_if 45 with fail
  refine wp_cond_false rfl ?_
  apply wp_skip
  refine then_normal ?_
  go_step
  apply wp_exit
  repeat (first | refine then_exit ?_ | refine block_miss rfl ?_)
  refine block_hit ?_
  go_wp2_with fail
  go_ret2
  exact ⟨rfl, h, Below.refl _ _⟩
end Go.Proofs.YtnacdaodjgdnnaaGreat.Au
namespace Go.Proofs.YtnacdaodjgdnnaaGreat.Au
open Go.RowKit Go.Shelf
set_option maxRecDepth 100000
set_option maxHeartbeats 1000000
set_option linter.unusedVariables false
def msk (wide : Bool) : Nat := if wide then 65535 else 255
def tp (wide : Bool) : Nat := if wide then 32768 else 128
def cn (wide : Bool) : Nat := if wide then 4 else 2
theorem unitOf_any (p : Nat) (wide : Bool) (w : World) :
    Calls Tryz.prog 267 #[.int .u8 p, .bool wide] w fun e w' => e = .returned (.agg #[.int .u8 p, .int .i64 (cn wide : Nat), .int .u16 (msk wide : Nat), .int .u16 (tp wide : Nat)]) ∧ Below w.heap.size w w' := by
  cases wide
  · go_enter Tryz.func267, Tryz.ntmps267
    go_wp2_with fail
    refine (count_any false _).mono ?_
    rintro e w1 ⟨rfl, rfl⟩
    go_wp2_with fail
    exact bodyPost_ret (v := .agg #[.int .u8 p, .int .i64 2, .int .u16 255, .int .u16 128]) (by simp [results, Tryz.results267, go_sem]) rfl ⟨rfl, (Below.refl _ _).alloc (Nat.le_refl _) _⟩
  · go_enter Tryz.func267, Tryz.ntmps267
    go_wp2_with fail
    refine (count_any true _).mono ?_
    rintro e w1 ⟨rfl, rfl⟩
    go_wp2_with fail
    exact bodyPost_ret (v := .agg #[.int .u8 p, .int .i64 4, .int .u16 65535, .int .u16 32768]) (by simp [results, Tryz.results267, go_sem]) rfl ⟨rfl, (Below.refl _ _).alloc (Nat.le_refl _) _⟩
/-- What Do comes to, once the unit's answer is known. -/
theorem do_of (op a b x y p F X : Nat) (wide ok : Bool) (w : World) (ha : a < 65536) (hb : b < 65536) (hx : a &&& msk wide = x) (hy : b &&& msk wide = y)
    (hans : ∀ (u : Nat) (w : World), Uni w u p (cn wide) (msk wide) (tp wide) → Calls Tryz.prog 268 #[.pointer (some ⟨u, 0, none⟩), .int .u8 op, .int .u16 x, .int .u16 y] w (Ans u (cn wide) (msk wide) (tp wide) X F ok w)) :
    Calls Tryz.prog 247 #[.int .u8 op, .int .u16 a, .int .u16 b, .int .u8 p, .bool wide] w fun e w' => e = .returned (.tuple #[.int .u16 (if ok then X else 0 : Nat), .int .u8 (if ok then F else 0 : Nat), .bool ok]) ∧ Below w.heap.size w w' := by
  obtain ⟨m, hm⟩ : ∃ m, msk wide = m := ⟨_, rfl⟩
  obtain ⟨t, ht⟩ : ∃ t, tp wide = t := ⟨_, rfl⟩
  obtain ⟨n, hn⟩ : ∃ n, cn wide = n := ⟨_, rfl⟩
  have hm2 : m < 65536 := by rw [← hm]; unfold msk; cases wide <;> decide
  rw [hm] at hx hy
  have E1 := Lib.hid (show bits .and .u16 (a : Int) m = (x : Nat) by rw [← hx]; exact u16_and_nat a m ha hm2)
  have E2 := Lib.hid (show bits .and .u16 (b : Int) m = (y : Nat) by rw [← hy]; exact u16_and_nat b m hb hm2)
  have HU := Lib.hid (unitOf_any p wide)
  rw [hm, ht, hn] at hans HU
  have HA := Lib.hid hans
  clear hans hx hy hm ht hn
  cases ok
  all_goals
    go_enter Tryz.func247, Tryz.ntmps247
    go_wp2_with fail
    refine (HU.out _).mono ?_
    rintro e w1 ⟨rfl, hb1⟩
    go_wp2_with fail
    rw [E1.out, E2.out]
    refine (HA.out w1.heap.size _ (Whole.fresh w1 244 _)).mono ?_
    intro e w2 hr
    obtain ⟨rfl, hU, hB⟩ := hr
    have hall := (hb1.alloc hb1.size (.cells #[.int .u8 p, .int .i64 n, .int .u16 m, .int .u16 t] 244)).trans (hB.mono hb1.size)
    have h0 := hU.c0
    clear hB hb1 hU
  · go_wp2_with fail
    go_ret3
    exact ⟨rfl, hall⟩
  · go_wp2_with fail
    go_quiet (fail)
    go_wp2_with fail
    go_ret3
    exact ⟨rfl, below_drewN hall _⟩
end Go.Proofs.YtnacdaodjgdnnaaGreat.Au
namespace Go.Proofs.YtnacdaodjgdnnaaGreat.Au
open Go.RowKit Go.Shelf
set_option maxRecDepth 100000
set_option maxHeartbeats 1000000
set_option linter.unusedVariables false

def aluX (op x y p : Nat) (wide : Bool) : Nat × Nat :=
  if op = 0 then ((x ||| y) &&& msk wide, signF p (msk wide) (tp wide) (x ||| y)) else
  if op = 1 then ((x &&& y) &&& msk wide, signF p (msk wide) (tp wide) (x &&& y)) else
  if op = 2 then ((x ^^^ y) &&& msk wide, signF p (msk wide) (tp wide) (x ^^^ y)) else
  if op = 3 then (if (p &&& 8 != 0) = true then
      (if wide = true then (dX4 corS x y (p % 2) &&& msk wide, dF (msk wide) (tp wide) p x y (q3 corS x y (p % 2)).2 (dS4 corS x y (p % 2)) (dX4 corS x y (p % 2)))
        else (dX2 corS x y (p % 2) &&& msk wide, dF (msk wide) (tp wide) p x y (q1 corS x y (p % 2)).2 (dS2 corS x y (p % 2)) (dX2 corS x y (p % 2))))
      else ((x + y + p % 2) % 65536 &&& msk wide, addF p (msk wide) (tp wide) x y (p % 2))) else
  if op = 4 then (if (p &&& 8 != 0) = true then
      (if wide = true then (dX4 corD x (y ^^^ msk wide) (p % 2) &&& msk wide, dF (msk wide) (tp wide) p x (y ^^^ msk wide) (q3 corD x (y ^^^ msk wide) (p % 2)).2 (dS4 corD x (y ^^^ msk wide) (p % 2)) (dX4 corD x (y ^^^ msk wide) (p % 2)))
        else (dX2 corD x (y ^^^ msk wide) (p % 2) &&& msk wide, dF (msk wide) (tp wide) p x (y ^^^ msk wide) (q1 corD x (y ^^^ msk wide) (p % 2)).2 (dS2 corD x (y ^^^ msk wide) (p % 2)) (dX2 corD x (y ^^^ msk wide) (p % 2))))
      else ((x + (y ^^^ msk wide) + p % 2) % 65536 &&& msk wide, addF p (msk wide) (tp wide) x (y ^^^ msk wide) (p % 2))) else
  if op = 5 then (x, signF (setF p 1 (decide (y ≤ x))) (msk wide) (tp wide) ((x + 65536 - y) % 65536)) else
  if op = 6 then (x, setF (setF (setF p 128 (y &&& tp wide != 0)) 64 (y &&& tp wide / 2 != 0)) 2 (x &&& y == 0)) else
  if op = 7 then (y &&& msk wide, signF p (msk wide) (tp wide) y) else
  if op = 8 then ((x * 2 % 65536 ||| 0) &&& msk wide, signF (setF p 1 (x &&& tp wide != 0)) (msk wide) (tp wide) (x * 2 % 65536 ||| 0)) else
  if op = 9 then ((x * 2 % 65536 ||| p % 2) &&& msk wide, signF (setF p 1 (x &&& tp wide != 0)) (msk wide) (tp wide) (x * 2 % 65536 ||| p % 2)) else
  if op = 10 then ((x / 2 ||| 0) &&& msk wide, signF (setF p 1 (x % 2 == 1)) (msk wide) (tp wide) (x / 2 ||| 0)) else
  if op = 11 then ((x / 2 ||| tp wide * (p % 2) % 65536) &&& msk wide, signF (setF p 1 (x % 2 == 1)) (msk wide) (tp wide) (x / 2 ||| tp wide * (p % 2) % 65536)) else
  if op = 12 then ((x + 1) % 65536 &&& msk wide, signF p (msk wide) (tp wide) ((x + 1) % 65536)) else
  if op = 13 then ((x + 65535) % 65536 &&& msk wide, signF p (msk wide) (tp wide) ((x + 65535) % 65536)) else
  if op = 14 then (y ||| x, setF p 2 (x &&& y == 0)) else
  if op = 15 then (y &&& (65535 - x), setF p 2 (x &&& y == 0)) else (x, setF p 2 (x &&& y == 0))
def aluF (op a b p : Nat) (wide : Bool) : Nat × Nat := aluX op (a &&& msk wide) (b &&& msk wide) p wide
theorem msk_lt (wide : Bool) : msk wide < 65536 := by cases wide <;> decide
theorem tp_lt (wide : Bool) : tp wide < 65536 := by cases wide <;> decide
theorem and_lt16 (a b : Nat) (h : a < 65536) : a &&& b < 65536 := Nat.lt_of_le_of_lt Nat.and_le_left h
theorem and_ltR (a b : Nat) (h : b < 65536) : a &&& b < 65536 := Nat.lt_of_le_of_lt Nat.and_le_right h
theorem signF_lt (p m t x : Nat) : signF p m t x < 256 := setF_lt _ 2 _ (by decide)
def Small (z : Nat × Nat) : Prop := z.1 < 65536 ∧ z.2 < 256
theorem Small.ite {c : Prop} [Decidable c] {a b : Nat × Nat} (ha : Small a) (hb : Small b) : Small (if c then a else b) := by
  split
  · exact ha
  · exact hb
theorem aluX_lt (op x y p : Nat) (wide : Bool) (hx : x < 65536) (hy : y < 65536) : (aluX op x y p wide).1 < 65536 ∧ (aluX op x y p wide).2 < 256 := by
  have hm := msk_lt wide
  have h0 : ∀ z q, (z &&& msk wide, signF q (msk wide) (tp wide) z).1 < 65536 ∧ (z &&& msk wide, signF q (msk wide) (tp wide) z).2 < 256 := fun z q => ⟨and_ltR _ _ hm, signF_lt _ _ _ _⟩
  change Small (aluX op x y p wide)
  unfold aluX
  repeat' refine Small.ite ?_ ?_
  all_goals first
    | exact h0 _ _
    | exact ⟨and_ltR _ _ hm, signF_lt _ _ _ _⟩
    | exact ⟨hx, signF_lt _ _ _ _⟩
    | exact ⟨hx, setF_lt _ 2 _ (by decide)⟩
    | exact ⟨Nat.or_lt_two_pow (n := 16) hy hx, setF_lt _ 2 _ (by decide)⟩
    | exact ⟨and_lt16 _ _ hy, setF_lt _ 2 _ (by decide)⟩
theorem aluF_lt (op a b p : Nat) (wide : Bool) : (aluF op a b p wide).1 < 65536 ∧ (aluF op a b p wide).2 < 256 := aluX_lt _ _ _ _ _ (and_ltR _ _ (msk_lt wide)) (and_ltR _ _ (msk_lt wide))
theorem do_any (op a b p : Nat) (wide : Bool) (w : World) (hop : op ≤ 16) (ha : a < 65536) (hb : b < 65536) (hp : p < 256) :
    Calls Tryz.prog 247 #[.int .u8 (op : Nat), .int .u16 (a : Nat), .int .u16 (b : Nat), .int .u8 (p : Nat), .bool wide] w fun e w' => e = .returned (.tuple #[.int .u16 ((aluF op a b p wide).1 : Nat), .int .u8 ((aluF op a b p wide).2 : Nat), .bool true]) ∧ Below w.heap.size w w' := by
  have hm := msk_lt wide
  have ht := tp_lt wide
  have hx := and_ltR a _ hm
  have hy := and_ltR b _ hm
  unfold aluF
  have go : ∀ X F, (∀ (u : Nat) (w : World), Uni w u p (cn wide) (msk wide) (tp wide) → Calls Tryz.prog 268 #[.pointer (some ⟨u, 0, none⟩), .int .u8 op, .int .u16 (a &&& msk wide : Nat), .int .u16 (b &&& msk wide : Nat)] w (Ans u (cn wide) (msk wide) (tp wide) X F true w)) → aluX op (a &&& msk wide) (b &&& msk wide) p wide = (X, F) →
      Calls Tryz.prog 247 #[.int .u8 (op : Nat), .int .u16 (a : Nat), .int .u16 (b : Nat), .int .u8 (p : Nat), .bool wide] w fun e w' => e = .returned (.tuple #[.int .u16 ((aluX op (a &&& msk wide) (b &&& msk wide) p wide).1 : Nat), .int .u8 ((aluX op (a &&& msk wide) (b &&& msk wide) p wide).2 : Nat), .bool true]) ∧ Below w.heap.size w w' := fun X F hans he => by
    rw [he]
    exact do_of op a b _ _ p F X wide true w ha hb rfl rfl hans
  generalize a &&& msk wide = x at *
  generalize b &&& msk wide = y at *
  have hyx := Nat.xor_lt_two_pow (n := 16) hy hm
  rcases (show op = 0 ∨ op = 1 ∨ op = 2 ∨ op = 3 ∨ op = 4 ∨ op = 5 ∨ op = 6 ∨ op = 7 ∨ op = 8 ∨ op = 9 ∨ op = 10 ∨ op = 11 ∨ op = 12 ∨ op = 13 ∨ op = 14 ∨ op = 15 ∨ op = 16 by omega) with rfl | rfl | rfl | rfl | rfl | rfl | rfl | rfl | rfl | rfl | rfl | rfl | rfl | rfl | rfl | rfl | rfl
  · exact go _ _ (fun u w h => ans_or u p _ _ _ x y _ w h hp hm ht hx hy rfl) rfl
  · exact go _ _ (fun u w h => ans_and u p _ _ _ x y _ w h hp hm ht hx hy rfl) rfl
  · exact go _ _ (fun u w h => ans_xor u p _ _ _ x y _ w h hp hm ht hx hy rfl) rfl
  · cases hd : (p &&& 8 != 0) with
    | false => exact go _ _ (fun u w h => ans_add u p _ _ _ x y (p % 2) w h hp hm ht hx hy rfl hd) (by unfold aluX; rw [if_neg (by decide), if_neg (by decide), if_neg (by decide), if_pos rfl, if_neg (by rw [hd]; decide)])
    | true =>
      cases wide with
      | false => exact go _ _ (fun u w h => ans_addD2 u p _ _ x y (p % 2) w h hp hm ht hx hy rfl hd) (by unfold aluX; rw [if_neg (by decide), if_neg (by decide), if_neg (by decide), if_pos rfl, if_pos hd, if_neg (by decide)])
      | true => exact go _ _ (fun u w h => ans_addD4 u p _ _ x y (p % 2) w h hp hm ht hx hy rfl hd) (by unfold aluX; rw [if_neg (by decide), if_neg (by decide), if_neg (by decide), if_pos rfl, if_pos hd, if_pos rfl])
  · cases hd : (p &&& 8 != 0) with
    | false => exact go _ _ (fun u w h => ans_sub u p _ _ _ x y (p % 2) _ w h hp hm ht hx hy rfl rfl hd) (by unfold aluX; rw [if_neg (by decide), if_neg (by decide), if_neg (by decide), if_neg (by decide), if_pos rfl, if_neg (by rw [hd]; decide)])
    | true =>
      cases wide with
      | false => exact go _ _ (fun u w h => ans_subD2 u p _ _ x y (p % 2) _ w h hp hm ht hx hy rfl rfl hd) (by unfold aluX; rw [if_neg (by decide), if_neg (by decide), if_neg (by decide), if_neg (by decide), if_pos rfl, if_pos hd, if_neg (by decide)])
      | true => exact go _ _ (fun u w h => ans_subD4 u p _ _ x y (p % 2) _ w h hp hm ht hx hy rfl rfl hd) (by unfold aluX; rw [if_neg (by decide), if_neg (by decide), if_neg (by decide), if_neg (by decide), if_pos rfl, if_pos hd, if_pos rfl])
  · exact go _ _ (fun u w h => ans_cmp u p _ _ _ x y _ w h hp hm ht hx hy rfl) rfl
  · exact go _ _ (fun u w h => ans_bit u p _ _ _ x y _ w h hp hm ht hx hy rfl) rfl
  · exact go _ _ (fun u w h => ans_load u p _ _ _ x y _ w h hp hm ht hx hy rfl) rfl
  · exact go _ _ (fun u w h => ans_asl u p _ _ _ x y (p % 2) _ w h hp hm ht hx hy rfl rfl) rfl
  · exact go _ _ (fun u w h => ans_rol u p _ _ _ x y (p % 2) _ w h hp hm ht hx hy rfl rfl) rfl
  · exact go _ _ (fun u w h => ans_lsr u p _ _ _ x y (p % 2) _ w h hp hm ht hx hy rfl rfl) rfl
  · exact go _ _ (fun u w h => ans_ror u p _ _ _ x y (p % 2) _ w h hp hm ht hx hy rfl rfl) rfl
  · exact go _ _ (fun u w h => ans_inc u p _ _ _ x y _ w h hp hm ht hx hy rfl) rfl
  · exact go _ _ (fun u w h => ans_dec u p _ _ _ x y _ w h hp hm ht hx hy rfl) rfl
  · exact go _ _ (fun u w h => ans_tsb u p _ _ _ x y _ w h hp hm ht hx hy rfl) rfl
  · exact go _ _ (fun u w h => ans_trb u p _ _ _ x y _ w h hp hm ht hx hy rfl) rfl
  · exact go _ _ (fun u w h => ans_biti u p _ _ _ x y _ w h hp hm ht hx hy rfl) rfl
end Go.Proofs.YtnacdaodjgdnnaaGreat.Au
