/-
  The small calls of the arithmetic unit: set, carry, sign, common, overflow.
-/
import Derived.Test.YtnjbgnkbncjnlaaMem
import Derived.Outline
import Derived.Shelf.Abstract
namespace Go.Proofs.Ytnjbgnkbncjnlaa
open Go.RowKit Go.Shelf
set_option maxRecDepth 100000
set_option maxHeartbeats 1000000

theorem bne0 (n : Nat) : ((n : Int) != 0) = (n != 0) := by
  cases n <;> simp [bne] <;> omega
theorem beq0 (n : Nat) : ((n : Int) == 0) = (n == 0) := by
  cases n <;> simp <;> omega
theorem wrap16 (n : Nat) (h : n < 65536) : IntKind.u16.wrap (n : Int) = n := by rw [IntKind.wrap_u16]; omega
theorem set_num (p flag : Nat) (hp : p < 256) (hf : flag < 256) : bits .or .u8 (bits .andNot .u8 p flag) flag = (setF p flag true : Nat) := by
  rw [u8_andNot_nat p flag hp hf, u8_or_nat _ flag (Nat.and_lt_two_pow (n := 8) _ (by omega)) hf]
  rfl
theorem clr_num (p flag : Nat) (hp : p < 256) (hf : flag < 256) : bits .andNot .u8 p flag = (setF p flag false : Nat) := by
  rw [u8_andNot_nat p flag hp hf]
  simp [setF]
theorem set_any (u p cnt mask top flag : Nat) (on : Bool) (w : World) (h : Uni w u p cnt mask top) (hp : p < 256) (hf : flag < 256) :
    Calls Try.prog 43 #[.pointer (some ⟨u, 0, none⟩), .int .u8 flag, .bool on] w fun e w' => e = .returned (.tuple #[]) ∧ w.setCell ⟨u, 0, none⟩ (.int .u8 (setF p flag on : Nat)) = w' := by
  have h0 := h.c0
  have h1 := h.f0
  clear h
  have H1 := Lib.hid (set_num p flag hp hf)
  have H2 := Lib.hid (clr_num p flag hp hf)
  cases on
  · go_enter Try.func43, Try.ntmps43
    go_wp2
    go_end0
    exact ⟨rfl, by rw [H2.out]⟩
  · go_enter Try.func43, Try.ntmps43
    go_wp2
    go_end0
    exact ⟨rfl, by rw [setCell_twice, H1.out]⟩
theorem carry_any (u p cnt mask top : Nat) (w : World) (h : Uni w u p cnt mask top) (hp : p < 256) :
    Calls Try.prog 45 #[.pointer (some ⟨u, 0, none⟩)] w fun e w' => e = .returned (.int .u16 (p % 2 : Nat)) ∧ w = w' := by
  have h0 := h.c0
  clear h
  have H : Hid (IntKind.u16.wrap (bits BinOp.and IntKind.u8 (↑p) 1) = (p % 2 : Nat)) := Lib.hid (by
    rw [show (1 : Int) = ((1 : Nat) : Int) from rfl, u8_and_nat p 1 hp (by omega), nat_mask1, wrap16 _ (by omega)])
  go_enter Try.func45, Try.ntmps45
  go_wp2
  go_ret
  exact ⟨congrArg Ending.returned (congrArg (Value.int .u16) H.out), rfl⟩

/-- N and Z of a number, that is cut to the unit's width. -/
def signF (p mask top x : Nat) : Nat := setF (setF p 128 (x &&& mask &&& top != 0)) 2 (x &&& mask == 0)
theorem sign_any (u p cnt mask top x : Nat) (w : World) (h : Uni w u p cnt mask top) (hp : p < 256) (hm : mask < 65536) (ht : top < 65536) (hx : x < 65536) :
    Calls Try.prog 39 #[.pointer (some ⟨u, 0, none⟩), .int .u16 x] w fun e w' => e = .returned (.int .u16 (x &&& mask : Nat)) ∧ w.setCell ⟨u, 0, none⟩ (.int .u8 (signF p mask top x : Nat)) = w' := by
  have h2 := h.c2
  have h3 := h.c3
  have E1 := Lib.hid (u16_and_nat x mask hx hm)
  have E2 := Lib.hid (u16_and_nat (x &&& mask) top (Nat.and_lt_two_pow (n := 16) _ hm) ht)
  have hq := setF_lt p 128
  go_enter Try.func39, Try.ntmps39
  go_wp2_with fail
  refine (set_any u p cnt mask top 128 _ _ h hp (by omega)).mono ?_
  rintro e w1 ⟨rfl, rfl⟩
  have h' := h.set (setF p 128 (bits BinOp.and IntKind.u16 (bits BinOp.and IntKind.u16 ↑x ↑mask) ↑top != 0))
  go_wp2_with fail
  refine (set_any u _ cnt mask top 2 _ _ h' (hq _ (by omega)) (by omega)).mono ?_
  rintro e w1 ⟨rfl, rfl⟩
  go_wp2_with fail
  go_ret
  refine ⟨congrArg Ending.returned (congrArg (Value.int .u16) E1.out), ?_⟩
  rw [setCell_twice, E1.out, E2.out, bne0, beq0]
  rfl
theorem common_any (u p cnt mask top a b : Nat) (w : World) (h : Uni w u p cnt mask top) (hp : p < 256) (ha : a < 65536) (hb : b < 65536) :
    Calls Try.prog 44 #[.pointer (some ⟨u, 0, none⟩), .int .u16 a, .int .u16 b] w fun e w' => e = .returned (.tuple #[]) ∧ w.setCell ⟨u, 0, none⟩ (.int .u8 (setF p 2 (a &&& b == 0) : Nat)) = w' := by
  have E1 := Lib.hid (u16_and_nat a b ha hb)
  go_enter Try.func44, Try.ntmps44
  go_wp2_with fail
  refine (set_any u p cnt mask top 2 _ _ h hp (by omega)).mono ?_
  rintro e w1 ⟨rfl, rfl⟩
  go_wp2_with fail
  go_end0
  exact ⟨rfl, by rw [E1.out, beq0]⟩
def overF (p top a b : Nat) (neg : Bool) : Nat := setF p 64 ((a ^^^ b) &&& top == 0 && ((a &&& top != 0) != neg))
theorem overflow_any (u p cnt mask top a b : Nat) (neg : Bool) (w : World) (h : Uni w u p cnt mask top) (hp : p < 256) (ht : top < 65536) (ha : a < 65536) (hb : b < 65536) :
    Calls Try.prog 46 #[.pointer (some ⟨u, 0, none⟩), .int .u16 a, .int .u16 b, .bool neg] w fun e w' => e = .returned (.tuple #[]) ∧ w.setCell ⟨u, 0, none⟩ (.int .u8 (overF p top a b neg : Nat)) = w' := by
  have h3 := h.c3
  have E1 := Lib.hid (u16_and_nat a top ha ht)
  have E2 := Lib.hid (u16_xor_nat a b ha hb)
  have E3 := Lib.hid (u16_and_nat (a ^^^ b) top (Nat.xor_lt_two_pow (n := 16) ha hb) ht)
  cases hz : ((a ^^^ b) &&& top == 0)
  · have hq : (bits .and .u16 (bits .xor .u16 ↑a ↑b) ↑top == 0) = false := by rw [E2.out, E3.out, beq0]; exact hz
    go_enter Try.func46, Try.ntmps46
    go_wp2_with fail
    refine (set_any u p cnt mask top 64 _ _ h hp (by omega)).mono ?_
    rintro e w1 ⟨rfl, rfl⟩
    go_wp2_with fail
    go_end0
    exact ⟨rfl, by unfold overF; rw [hz]; rfl⟩
  · have hq : (bits .and .u16 (bits .xor .u16 ↑a ↑b) ↑top == 0) = true := by rw [E2.out, E3.out, beq0]; exact hz
    go_enter Try.func46, Try.ntmps46
    go_wp2_with fail
    refine (set_any u p cnt mask top 64 _ _ h hp (by omega)).mono ?_
    rintro e w1 ⟨rfl, rfl⟩
    go_wp2_with fail
    go_end0
    refine ⟨rfl, ?_⟩
    unfold overF
    rw [hz, E1.out, bne0]
    cases (a &&& top != 0) <;> cases neg <;> rfl
end Go.Proofs.Ytnjbgnkbncjnlaa
