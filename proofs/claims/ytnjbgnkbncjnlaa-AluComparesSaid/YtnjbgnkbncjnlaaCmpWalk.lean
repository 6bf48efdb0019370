/-
  AluCompares: the walk.
-/
import Derived.Test.YtnjbgnkbncjnlaaAwake
import Derived.OpenShut
namespace Go.Proofs.Ytnjbgnkbncjnlaa
open Go.RowKit Go.Shelf
set_option maxRecDepth 100000
set_option maxHeartbeats 1000000
theorem nat16 {a : Int} (h : (Lit.int .u16 a).wf = true) : ∃ n : Nat, a = n ∧ n < 65536 := by
  have := Go.bounds_u16 h
  exact ⟨a.toNat, by omega, by omega⟩
theorem nat8 {a : Int} (h : (Lit.int .u8 a).wf = true) : ∃ n : Nat, a = n ∧ n < 256 := by
  have := Go.bounds_u8 h
  exact ⟨a.toNat, by omega, by omega⟩
def cmpF (a b p : Nat) : Nat := signF (setF p 1 (decide (b ≤ a))) 65535 32768 ((a + 65536 - b) % 65536)
theorem do_cmp (a b p q : Nat) (w : World) (ha : a < 65536) (hb : b < 65536) (hp : p < 256) (hq : cmpF a b p = q) :
    Calls Try.prog 10 #[.int .u8 5, .int .u16 a, .int .u16 b, .int .u8 p, .bool true] w fun e w' => e = .returned (.tuple #[.int .u16 a, .int .u8 q, .bool true]) ∧ Below w.heap.size w w' := by
  subst hq
  exact do_of 5 a b a b p (cmpF a b p) a true true w ha hb (by rw [and_msk]; exact Nat.mod_eq_of_lt ha) (by rw [and_msk]; exact Nat.mod_eq_of_lt hb)
    (fun u w h => ans_cmp u p 4 65535 32768 a b _ w h hp (by decide) (by decide) ha hb rfl)
theorem cmp_num (a b p q : Nat) (ha : a < 65536) (hb : b < 65536) (hp : p < 256) (hq : cmpF a b p = q) :
    q < 256 ∧ (bits .and .u8 (q : Int) 2 != 0) = decide (a = b) ∧ (bits .and .u8 (q : Int) 1 != 0) = decide (b ≤ a) ∧ (bits .andNot .u8 (bits .xor .u8 (q : Int) p) 131 == 0) = true := by
  obtain ⟨h1, h2, h3, h4⟩ := flags3 p hp (decide (b ≤ a)) (((a + 65536 - b) % 65536) &&& 65535 &&& 32768 != 0) (((a + 65536 - b) % 65536) &&& 65535 == 0)
  have hl : q < 256 := by rw [← hq]; exact setF_lt _ _ _ (by omega)
  have hz : (((a + 65536 - b) % 65536) &&& 65535 == 0) = decide (a = b) := by
    rw [nat_mask16, Bool.eq_iff_iff, beq_iff_eq, decide_eq_true_iff]
    omega
  rw [show setF (setF (setF p 1 (decide (b ≤ a))) 128 (((a + 65536 - b) % 65536) &&& 65535 &&& 32768 != 0)) 2 (((a + 65536 - b) % 65536) &&& 65535 == 0) = q from hq] at h1 h2 h4
  have hx : q ^^^ p < 256 := Nat.xor_lt_two_pow (n := 8) hl hp
  refine ⟨hl, ?_, ?_, ?_⟩
  · rw [show (2 : Int) = ((2 : Nat) : Int) from rfl, u8_and_nat q 2 hl (by omega), bne0, h1, hz]
  · rw [show (1 : Int) = ((1 : Nat) : Int) from rfl, u8_and_nat q 1 hl (by omega), bne0, h2]
  · rw [u8_xor_nat q p hl hp, show (131 : Int) = ((131 : Nat) : Int) from rfl, u8_andNot_nat _ 131 hx (by omega), beq0]
    exact h4
namespace aluCompares
theorem walkN (a b p : Nat) (ha : a < 65536) (hb : b < 65536) (hp : p < 256) (w : World) :
    Calls Try.prog 8 #[.int .u16 a, .int .u16 b, .int .u8 p] w fun e w' => e = .returned (.bool true) ∧ Below w.heap.size w w' := by
  obtain ⟨q, hq⟩ : ∃ q, cmpF a b p = q := ⟨_, rfl⟩
  obtain ⟨r, hr⟩ : ∃ r, cmpF b a p = r := ⟨_, rfl⟩
  obtain ⟨ql, q2, q1, q0⟩ := cmp_num a b p q ha hb hp hq
  obtain ⟨rl, r2, r1, r0⟩ := cmp_num b a p r hb ha hp hr
  have HQ := Lib.hid hq
  have HR := Lib.hid hr
  clear hq hr r2 r0
  have T1 : ((a : Int) == b) = decide (a = b) := by rw [Bool.eq_iff_iff, beq_iff_eq, decide_eq_true_iff]; omega
  rcases Nat.lt_trichotomy a b with h | h | h
  · have N1 : decide (a = b) = false := decide_eq_false (show ¬ (a = b) by omega)
    have N2 : decide (b ≤ a) = false := decide_eq_false (show ¬ (b ≤ a) by omega)
    have N3 : decide (a ≤ b) = true := decide_eq_true (show a ≤ b by omega)
    rw [N1] at q2 T1
    rw [N2] at q1
    rw [N3] at r1
    go_enter Try.func8, Try.ntmps8
    go_wp2_with fail
    refine (do_cmp a b p q _ ha hb hp HQ.out).mono ?_
    rintro e w1 ⟨rfl, hb1⟩
    go_wp2_with fail
    refine (do_cmp b a p r _ hb ha hp HR.out).mono ?_
    rintro e w2 ⟨rfl, hb2⟩
    go_wp2_with fail
    refine (awake_any _).mono ?_
    rintro e w3 ⟨rfl, hb3⟩
    go_wp2_with fail
    go_ret
    exact ⟨rfl, (hb1.trans (hb2.mono hb1.size)).trans (hb3.mono (Nat.le_trans hb1.size hb2.size))⟩
  · subst h
    have N1 : decide (a = a) = true := by simp
    have N2 : decide (a ≤ a) = true := by simp
    rw [N1] at q2
    rw [N2] at q1 r1
    clear N1 N2 T1
    go_enter Try.func8, Try.ntmps8
    go_wp2_with fail
    refine (do_cmp a a p q _ ha ha hp HQ.out).mono ?_
    rintro e w1 ⟨rfl, hb1⟩
    go_wp2_with fail
    refine (do_cmp a a p r _ ha ha hp HR.out).mono ?_
    rintro e w2 ⟨rfl, hb2⟩
    go_wp2_with fail
    refine (awake_any _).mono ?_
    rintro e w3 ⟨rfl, hb3⟩
    go_wp2_with fail
    go_ret
    exact ⟨rfl, (hb1.trans (hb2.mono hb1.size)).trans (hb3.mono (Nat.le_trans hb1.size hb2.size))⟩
  · have N1 : decide (a = b) = false := decide_eq_false (show ¬ (a = b) by omega)
    have N2 : decide (b ≤ a) = true := decide_eq_true (show b ≤ a by omega)
    have N3 : decide (a ≤ b) = false := decide_eq_false (show ¬ (a ≤ b) by omega)
    rw [N1] at q2 T1
    rw [N2] at q1
    rw [N3] at r1
    go_enter Try.func8, Try.ntmps8
    go_wp2_with fail
    refine (do_cmp a b p q _ ha hb hp HQ.out).mono ?_
    rintro e w1 ⟨rfl, hb1⟩
    go_wp2_with fail
    refine (do_cmp b a p r _ hb ha hp HR.out).mono ?_
    rintro e w2 ⟨rfl, hb2⟩
    go_wp2_with fail
    refine (awake_any _).mono ?_
    rintro e w3 ⟨rfl, hb3⟩
    go_wp2_with fail
    go_ret
    exact ⟨rfl, (hb1.trans (hb2.mono hb1.size)).trans (hb3.mono (Nat.le_trans hb1.size hb2.size))⟩
theorem walk (a0 : Int) (a1 : Int) (a2 : Int) (w0 : (Lit.int .u16 a0).wf = true) (w1 : (Lit.int .u16 a1).wf = true) (w2 : (Lit.int .u8 a2).wf = true) (w : World) :
    Calls Try.prog 8 #[.int .u16 a0, .int .u16 a1, .int .u8 a2] w fun e w' => e = .returned (.bool true) ∧ Below w.heap.size w w' := by
  obtain ⟨a, rfl, ha⟩ := nat16 w0
  obtain ⟨b, rfl, hb⟩ := nat16 w1
  obtain ⟨p, rfl, hp⟩ := nat8 w2
  exact walkN a b p ha hb hp w
end aluCompares
end Go.Proofs.Ytnjbgnkbncjnlaa
