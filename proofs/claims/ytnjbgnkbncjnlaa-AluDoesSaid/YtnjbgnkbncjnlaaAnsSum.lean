/-
  The unit's sums and differences, digits or not, and what is no operation.
-/
import Derived.Test.YtnjbgnkbncjnlaaAnsTwo
namespace Go.Proofs.Ytnjbgnkbncjnlaa
open Go.RowKit Go.Shelf
set_option maxRecDepth 100000
set_option maxHeartbeats 1000000
set_option linter.unusedVariables false
theorem then_normal {K : Act → World → Prop} {Q : Exit → Act → World → Prop} {a : Act} {w : World} (h : K a w) : Exit.then K Q .normal a w := h
/-- Digit by digit: what the corrected digits are. -/
def q0 (cor : Nat → Nat × Nat) (a b c : Nat) : Nat × Nat := cor (a % 16 + b % 16 + c)
def q1 (cor : Nat → Nat × Nat) (a b c : Nat) : Nat × Nat := cor (a / 16 % 16 + b / 16 % 16 + (q0 cor a b c).2)
def q2 (cor : Nat → Nat × Nat) (a b c : Nat) : Nat × Nat := cor (a / 256 % 16 + b / 256 % 16 + (q1 cor a b c).2)
def q3 (cor : Nat → Nat × Nat) (a b c : Nat) : Nat × Nat := cor (a / 4096 % 16 + b / 4096 % 16 + (q2 cor a b c).2)
def dX2 (cor : Nat → Nat × Nat) (a b c : Nat) : Nat := (q0 cor a b c).1 + 16 * (q1 cor a b c).1 + 256 * (a / 256 % 16) + 4096 * (a / 4096 % 16)
def dX4 (cor : Nat → Nat × Nat) (a b c : Nat) : Nat := (q0 cor a b c).1 + 16 * (q1 cor a b c).1 + 256 * (q2 cor a b c).1 + 4096 * (q3 cor a b c).1
def dS2 (cor : Nat → Nat × Nat) (a b c : Nat) : Nat := a / 16 % 16 + b / 16 % 16 + (q0 cor a b c).2
def dS4 (cor : Nat → Nat × Nat) (a b c : Nat) : Nat := a / 4096 % 16 + b / 4096 % 16 + (q2 cor a b c).2
def dF (mask top p a b C S X : Nat) : Nat := signF (overF (setF p 1 (C != 0)) top a b (S &&& 8 != 0)) mask top X
def Cor (cor : Nat → Nat × Nat) : Prop := ∀ s, s < 32 → (cor s).1 < 16 ∧ (cor s).2 < 2
theorem corS_ok : Cor corS := by
  intro s hs
  unfold corS
  split <;> constructor <;> simp <;> omega
theorem corD_ok : Cor corD := by
  intro s hs
  unfold corD
  split <;> constructor <;> simp <;> omega
theorem digs_lt (cor : Nat → Nat × Nat) (h : Cor cor) (a b c : Nat) (hc : c < 2) :
    ((q0 cor a b c).1 < 16 ∧ (q0 cor a b c).2 < 2) ∧ ((q1 cor a b c).1 < 16 ∧ (q1 cor a b c).2 < 2) ∧ ((q2 cor a b c).1 < 16 ∧ (q2 cor a b c).2 < 2) ∧ ((q3 cor a b c).1 < 16 ∧ (q3 cor a b c).2 < 2) := by
  have m : ∀ x, x % 16 < 16 := fun x => Nat.mod_lt _ (by decide)
  have z0 : (q0 cor a b c).1 < 16 ∧ (q0 cor a b c).2 < 2 := h _ (by have := m a; have := m b; omega)
  have z1 : (q1 cor a b c).1 < 16 ∧ (q1 cor a b c).2 < 2 := h _ (by have := m (a / 16); have := m (b / 16); omega)
  have z2 : (q2 cor a b c).1 < 16 ∧ (q2 cor a b c).2 < 2 := h _ (by have := m (a / 256); have := m (b / 256); omega)
  exact ⟨z0, z1, z2, h _ (by have := m (a / 4096); have := m (b / 4096); omega)⟩
theorem digits2_any (g : Nat) (cor : Nat → Nat × Nat) (eg : ∀ args w, (callFunc g args).run Try.prog w = .ok (.enter g args) w)
    (hg : ∀ (s : Nat) (w : World), s < 32 → Calls Try.prog g #[.int .u16 s] w fun e w' => e = .returned (.tuple #[.int .u16 ((cor s).1 : Nat), .int .u16 ((cor s).2 : Nat)]) ∧ w = w') (hk : Cor cor)
    (u p mask top a b c : Nat) (w : World) (h : Uni w u p 2 mask top) (hp : p < 256) (hm : mask < 65536) (ht : top < 65536) (ha : a < 65536) (hb : b < 65536) (hc : p % 2 = c) :
    Calls Try.prog 41 #[.pointer (some ⟨u, 0, none⟩), .int .u16 a, .int .u16 b, .func (.func g) #[] #[]] w fun e w' => e = .returned (.int .u16 (dX2 cor a b c &&& mask : Nat)) ∧ Uni w' u (dF mask top p a b (q1 cor a b c).2 (dS2 cor a b c) (dX2 cor a b c)) 2 mask top ∧ Below u w w' := by
  have z := digs_lt cor hk a b c (by omega)
  exact addDigits2_any g cor eg hg u p mask top a b (dX2 cor a b c) w h hp hm ht ha hb c _ _ _ _ _ _ _ _ _ (q0 cor a b c).1 (q0 cor a b c).2 _ (q1 cor a b c).1 (q1 cor a b c).2 hc rfl rfl rfl rfl rfl rfl rfl rfl rfl rfl rfl rfl z.1.2 z.1.1 z.2.1.1 rfl
theorem digits4_any (g : Nat) (cor : Nat → Nat × Nat) (eg : ∀ args w, (callFunc g args).run Try.prog w = .ok (.enter g args) w)
    (hg : ∀ (s : Nat) (w : World), s < 32 → Calls Try.prog g #[.int .u16 s] w fun e w' => e = .returned (.tuple #[.int .u16 ((cor s).1 : Nat), .int .u16 ((cor s).2 : Nat)]) ∧ w = w') (hk : Cor cor)
    (u p mask top a b c : Nat) (w : World) (h : Uni w u p 4 mask top) (hp : p < 256) (hm : mask < 65536) (ht : top < 65536) (ha : a < 65536) (hb : b < 65536) (hc : p % 2 = c) :
    Calls Try.prog 41 #[.pointer (some ⟨u, 0, none⟩), .int .u16 a, .int .u16 b, .func (.func g) #[] #[]] w fun e w' => e = .returned (.int .u16 (dX4 cor a b c &&& mask : Nat)) ∧ Uni w' u (dF mask top p a b (q3 cor a b c).2 (dS4 cor a b c) (dX4 cor a b c)) 4 mask top ∧ Below u w w' := by
  have z := digs_lt cor hk a b c (by omega)
  exact addDigits4_any g cor eg hg u p mask top a b (dX4 cor a b c) w h hp hm ht ha hb c _ _ _ _ _ _ _ _ _ (q0 cor a b c).1 (q0 cor a b c).2 _ (q1 cor a b c).1 (q1 cor a b c).2 _ (q2 cor a b c).1 (q2 cor a b c).2 _ (q3 cor a b c).1 (q3 cor a b c).2 hc rfl rfl rfl rfl rfl rfl rfl rfl rfl rfl rfl rfl rfl rfl rfl rfl z.1.2 z.1.1 z.2.1.2 z.2.1.1 z.2.2.1.2 z.2.2.1.1 z.2.2.2.1 rfl
theorem ans_add (u p cnt mask top a b c : Nat) (w : World) (h : Uni w u p cnt mask top) (hp : p < 256) (hm : mask < 65536) (ht : top < 65536) (ha : a < 65536) (hb : b < 65536) (hc : p % 2 = c) (hd : (p &&& 8 != 0) = false) :
    Calls Try.prog 29 #[.pointer (some ⟨u, 0, none⟩), .int .u8 3, .int .u16 a, .int .u16 b] w (Ans u cnt mask top ((a + b + c) % 65536 &&& mask) (addF p mask top a b c) true w) := by
  have h0 := h.c0
  have HC := Lib.hid hc
  have hq : (bits .and .u8 (p : Int) 8 != 0) = false := by rw [show (8 : Int) = ((8 : Nat) : Int) from rfl, u8_and_nat p 8 hp (by omega), bne0]; exact hd
  clear hc hd
  go_enter Try.func29, Try.ntmps29
  go_upto_if 21 with fail
  refine wp_cond_true rfl ?_
  apply wp_exit
  repeat (first | refine then_exit ?_ | refine block_miss rfl ?_)
  refine block_hit ?_
  go_wp2_with fail
  refine (add_any u p cnt mask top a b c _ h hp hm ht ha hb HC.out).mono ?_
  rintro e w1 ⟨rfl, rfl⟩
  go_wp2_with fail
  go_ret2
  exact ⟨rfl, h.set _, (Below.refl _ _).setCell (p := ⟨u, 0, none⟩) (Nat.le_refl u) _⟩
theorem ans_addD2 (u p  mask top a b c : Nat) (w : World) (h : Uni w u p 2 mask top) (hp : p < 256) (hm : mask < 65536) (ht : top < 65536) (ha : a < 65536) (hb : b < 65536) (hc : p % 2 = c) (hd : (p &&& 8 != 0) = true) :
    Calls Try.prog 29 #[.pointer (some ⟨u, 0, none⟩), .int .u8 3, .int .u16 a, .int .u16 b] w (Ans u 2 mask top (dX2 corS a b c &&& mask) (dF mask top p a b (q1 corS a b c).2 (dS2 corS a b c) (dX2 corS a b c)) true w) := by
  have h0 := h.c0
  have HC := Lib.hid hc
  have hq : (bits .and .u8 (p : Int) 8 != 0) = true := by rw [show (8 : Int) = ((8 : Nat) : Int) from rfl, u8_and_nat p 8 hp (by omega), bne0]; exact hd
  clear hc hd
  go_enter Try.func29, Try.ntmps29
  go_upto_if 21 with fail
  refine wp_cond_true rfl ?_
  apply wp_exit
  repeat (first | refine then_exit ?_ | refine block_miss rfl ?_)
  refine block_hit ?_
  go_wp2_with fail
  refine (digits2_any 38 corS (enters_of Try.func38 (by kernel_rfl) rfl) corS_any corS_ok u p mask top a b c _ h hp hm ht ha hb HC.out).mono ?_
  rintro e w1 ⟨rfl, hU, hB⟩
  go_wp2_with fail
  go_ret2
  exact ⟨rfl, hU, hB⟩
theorem ans_addD4 (u p  mask top a b c : Nat) (w : World) (h : Uni w u p 4 mask top) (hp : p < 256) (hm : mask < 65536) (ht : top < 65536) (ha : a < 65536) (hb : b < 65536) (hc : p % 2 = c) (hd : (p &&& 8 != 0) = true) :
    Calls Try.prog 29 #[.pointer (some ⟨u, 0, none⟩), .int .u8 3, .int .u16 a, .int .u16 b] w (Ans u 4 mask top (dX4 corS a b c &&& mask) (dF mask top p a b (q3 corS a b c).2 (dS4 corS a b c) (dX4 corS a b c)) true w) := by
  have h0 := h.c0
  have HC := Lib.hid hc
  have hq : (bits .and .u8 (p : Int) 8 != 0) = true := by rw [show (8 : Int) = ((8 : Nat) : Int) from rfl, u8_and_nat p 8 hp (by omega), bne0]; exact hd
  clear hc hd
  go_enter Try.func29, Try.ntmps29
  go_upto_if 21 with fail
  refine wp_cond_true rfl ?_
  apply wp_exit
  repeat (first | refine then_exit ?_ | refine block_miss rfl ?_)
  refine block_hit ?_
  go_wp2_with fail
  refine (digits4_any 38 corS (enters_of Try.func38 (by kernel_rfl) rfl) corS_any corS_ok u p mask top a b c _ h hp hm ht ha hb HC.out).mono ?_
  rintro e w1 ⟨rfl, hU, hB⟩
  go_wp2_with fail
  go_ret2
  exact ⟨rfl, hU, hB⟩
theorem ans_sub (u p cnt mask top a b c y : Nat) (w : World) (h : Uni w u p cnt mask top) (hp : p < 256) (hm : mask < 65536) (ht : top < 65536) (ha : a < 65536) (hb : b < 65536) (hc : p % 2 = c) (hy : b ^^^ mask = y) (hd : (p &&& 8 != 0) = false) :
    Calls Try.prog 29 #[.pointer (some ⟨u, 0, none⟩), .int .u8 4, .int .u16 a, .int .u16 b] w (Ans u cnt mask top ((a + y + c) % 65536 &&& mask) (addF p mask top a y c) true w) := by
  have h0 := h.c0
  have HC := Lib.hid hc
  have hq : (bits .and .u8 (p : Int) 8 != 0) = false := by rw [show (8 : Int) = ((8 : Nat) : Int) from rfl, u8_and_nat p 8 hp (by omega), bne0]; exact hd
  clear hc hd
  have hy2 : y < 65536 := by rw [← hy]; exact Nat.xor_lt_two_pow (n := 16) hb hm
  have EY := Lib.hid (show bits .xor .u16 (b : Int) mask = (y : Nat) by rw [← hy]; exact u16_xor_nat b mask hb hm)
  have h2 := h.c2
  clear hy
  go_enter Try.func29, Try.ntmps29
  go_upto_if 19 with fail
  refine wp_cond_true rfl ?_
  apply wp_exit
  repeat (first | refine then_exit ?_ | refine block_miss rfl ?_)
  refine block_hit ?_
  go_wp2_with fail
  rw [EY.out]
  refine (add_any u p cnt mask top a y c _ h hp hm ht ha hy2 HC.out).mono ?_
  rintro e w1 ⟨rfl, rfl⟩
  go_wp2_with fail
  go_ret2
  exact ⟨rfl, h.set _, (Below.refl _ _).setCell (p := ⟨u, 0, none⟩) (Nat.le_refl u) _⟩
theorem ans_subD2 (u p  mask top a b c y : Nat) (w : World) (h : Uni w u p 2 mask top) (hp : p < 256) (hm : mask < 65536) (ht : top < 65536) (ha : a < 65536) (hb : b < 65536) (hc : p % 2 = c) (hy : b ^^^ mask = y) (hd : (p &&& 8 != 0) = true) :
    Calls Try.prog 29 #[.pointer (some ⟨u, 0, none⟩), .int .u8 4, .int .u16 a, .int .u16 b] w (Ans u 2 mask top (dX2 corD a y c &&& mask) (dF mask top p a y (q1 corD a y c).2 (dS2 corD a y c) (dX2 corD a y c)) true w) := by
  have h0 := h.c0
  have HC := Lib.hid hc
  have hq : (bits .and .u8 (p : Int) 8 != 0) = true := by rw [show (8 : Int) = ((8 : Nat) : Int) from rfl, u8_and_nat p 8 hp (by omega), bne0]; exact hd
  clear hc hd
  have hy2 : y < 65536 := by rw [← hy]; exact Nat.xor_lt_two_pow (n := 16) hb hm
  have EY := Lib.hid (show bits .xor .u16 (b : Int) mask = (y : Nat) by rw [← hy]; exact u16_xor_nat b mask hb hm)
  have h2 := h.c2
  clear hy
  go_enter Try.func29, Try.ntmps29
  go_upto_if 19 with fail
  refine wp_cond_true rfl ?_
  apply wp_exit
  repeat (first | refine then_exit ?_ | refine block_miss rfl ?_)
  refine block_hit ?_
  go_wp2_with fail
  rw [EY.out]
  refine (digits2_any 40 corD (enters_of Try.func40 (by kernel_rfl) rfl) corD_any corD_ok u p mask top a y c _ h hp hm ht ha hy2 HC.out).mono ?_
  rintro e w1 ⟨rfl, hU, hB⟩
  go_wp2_with fail
  go_ret2
  exact ⟨rfl, hU, hB⟩
theorem ans_subD4 (u p  mask top a b c y : Nat) (w : World) (h : Uni w u p 4 mask top) (hp : p < 256) (hm : mask < 65536) (ht : top < 65536) (ha : a < 65536) (hb : b < 65536) (hc : p % 2 = c) (hy : b ^^^ mask = y) (hd : (p &&& 8 != 0) = true) :
    Calls Try.prog 29 #[.pointer (some ⟨u, 0, none⟩), .int .u8 4, .int .u16 a, .int .u16 b] w (Ans u 4 mask top (dX4 corD a y c &&& mask) (dF mask top p a y (q3 corD a y c).2 (dS4 corD a y c) (dX4 corD a y c)) true w) := by
  have h0 := h.c0
  have HC := Lib.hid hc
  have hq : (bits .and .u8 (p : Int) 8 != 0) = true := by rw [show (8 : Int) = ((8 : Nat) : Int) from rfl, u8_and_nat p 8 hp (by omega), bne0]; exact hd
  clear hc hd
  have hy2 : y < 65536 := by rw [← hy]; exact Nat.xor_lt_two_pow (n := 16) hb hm
  have EY := Lib.hid (show bits .xor .u16 (b : Int) mask = (y : Nat) by rw [← hy]; exact u16_xor_nat b mask hb hm)
  have h2 := h.c2
  clear hy
  go_enter Try.func29, Try.ntmps29
  go_upto_if 19 with fail
  refine wp_cond_true rfl ?_
  apply wp_exit
  repeat (first | refine then_exit ?_ | refine block_miss rfl ?_)
  refine block_hit ?_
  go_wp2_with fail
  rw [EY.out]
  refine (digits4_any 40 corD (enters_of Try.func40 (by kernel_rfl) rfl) corD_any corD_ok u p mask top a y c _ h hp hm ht ha hy2 HC.out).mono ?_
  rintro e w1 ⟨rfl, hU, hB⟩
  go_wp2_with fail
  go_ret2
  exact ⟨rfl, hU, hB⟩
theorem ans_none (u p cnt mask top a b op : Nat) (w : World) (h : Uni w u p cnt mask top) (hop : 16 < op) :
    Calls Try.prog 29 #[.pointer (some ⟨u, 0, none⟩), .int .u8 op, .int .u16 a, .int .u16 b] w (Ans u cnt mask top 0 p false w) := by
  have h0 : ((op : Int) == 0) = false := by rw [beq_eq_false_iff_ne]; omega
  have h1 : ((op : Int) == 1) = false := by rw [beq_eq_false_iff_ne]; omega
  have h2 : ((op : Int) == 2) = false := by rw [beq_eq_false_iff_ne]; omega
  have h3 : ((op : Int) == 3) = false := by rw [beq_eq_false_iff_ne]; omega
  have h4 : ((op : Int) == 4) = false := by rw [beq_eq_false_iff_ne]; omega
  have h5 : ((op : Int) == 5) = false := by rw [beq_eq_false_iff_ne]; omega
  have h6 : ((op : Int) == 6) = false := by rw [beq_eq_false_iff_ne]; omega
  have h7 : ((op : Int) == 7) = false := by rw [beq_eq_false_iff_ne]; omega
  have h8 : ((op : Int) == 8) = false := by rw [beq_eq_false_iff_ne]; omega
  have h9 : ((op : Int) == 9) = false := by rw [beq_eq_false_iff_ne]; omega
  have h10 : ((op : Int) == 10) = false := by rw [beq_eq_false_iff_ne]; omega
  have h11 : ((op : Int) == 11) = false := by rw [beq_eq_false_iff_ne]; omega
  have h12 : ((op : Int) == 12) = false := by rw [beq_eq_false_iff_ne]; omega
  have h13 : ((op : Int) == 13) = false := by rw [beq_eq_false_iff_ne]; omega
  have h14 : ((op : Int) == 14) = false := by rw [beq_eq_false_iff_ne]; omega
  have h15 : ((op : Int) == 15) = false := by rw [beq_eq_false_iff_ne]; omega
  have h16 : ((op : Int) == 16) = false := by rw [beq_eq_false_iff_ne]; omega
  clear hop
  go_enter Try.func29, Try.ntmps29
  go_upto_if 45 with fail
  refine wp_cond_false rfl ?_
  apply wp_skip
  refine then_normal ?_
  go_step
  apply wp_exit
  repeat (first | refine then_exit ?_ | refine block_miss rfl ?_)
  refine block_hit ?_
  go_wp2_with fail
  go_ret2
  exact ⟨rfl, h, Below.refl _ _⟩
end Go.Proofs.Ytnjbgnkbncjnlaa
