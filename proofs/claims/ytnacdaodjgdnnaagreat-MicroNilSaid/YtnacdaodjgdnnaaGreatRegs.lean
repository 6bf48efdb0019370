/-
  Registers and places as numbers; the small calls: settle, direct, next, cut, address, crossed, by the code and by the document.
-/
import Derived.Test.YtnacdaodjgdnnaaGreatMem
namespace Go.Proofs.YtnacdaodjgdnnaaGreat
open Go.RowKit Go.Shelf
set_option maxRecDepth 100000
set_option maxHeartbeats 1000000

structure Rg where
  A : Nat
  X : Nat
  Y : Nat
  S : Nat
  D : Nat
  PC : Nat
  B : Nat
  K : Nat
  P : Nat
  E : Bool
structure Rg.Ok (r : Rg) : Prop where
  A : r.A < 65536
  X : r.X < 65536
  Y : r.Y < 65536
  S : r.S < 65536
  D : r.D < 65536
  PC : r.PC < 65536
  B : r.B < 256
  K : r.K < 256
  P : r.P < 256
/-- Registers as cells. -/
def rgC (A X Y S D PC B K P : Nat) (E : Bool) : Array Value :=
  #[.int .u16 A, .int .u16 X, .int .u16 Y, .int .u16 S, .int .u16 D, .int .u16 PC, .int .u8 B, .int .u8 K, .int .u8 P, .bool E]
def Rg.v (r : Rg) : Value := .agg (rgC r.A r.X r.Y r.S r.D r.PC r.B r.K r.P r.E)
def settleP (P : Nat) (E : Bool) : Nat := if E then P ||| 48 else P
def settleS (S : Nat) (E : Bool) : Nat := if E then 256 + S % 256 else S
def settleX (x P : Nat) : Nat := if P / 16 % 2 = 1 then x % 256 else x
def Rg.settle (r : Rg) : Rg := { r with P := settleP r.P r.E, S := settleS r.S r.E, X := settleX r.X (settleP r.P r.E), Y := settleX r.Y (settleP r.P r.E) }
theorem p48 : ∀ P, P < 256 → (P ||| 48) / 16 % 2 = 1 ∧ (P ||| 48) < 256 ∧ (P ||| 48) ||| 48 = P ||| 48 := by decide +kernel
theorem settleP_lt (P : Nat) (E : Bool) (h : P < 256) : settleP P E < 256 := by
  unfold settleP
  split
  · exact (p48 P h).2.1
  · exact h
theorem settleX_lt {x P n : Nat} (h : x < n) : settleX x P < n := by
  unfold settleX
  split
  · exact Nat.lt_of_le_of_lt (Nat.mod_le _ _) h
  · exact h
theorem settleS_lt {S : Nat} {E : Bool} (h : S < 65536) : settleS S E < 65536 := by
  unfold settleS
  split
  · omega
  · exact h
theorem Rg.Ok.settle {r : Rg} (h : r.Ok) : r.settle.Ok :=
  ⟨h.A, settleX_lt h.X, settleX_lt h.Y, settleS_lt h.S, h.D, h.PC, h.B, h.K, settleP_lt _ _ h.P⟩
theorem settle_twice {r : Rg} (h : r.Ok) : r.settle.settle = r.settle := by
  obtain ⟨A, X, Y, S, D, PC, B, K, P, E⟩ := r
  have hP : P < 256 := h.P
  have e1 : settleP (settleP P E) E = settleP P E := by
    unfold settleP
    cases E
    · rfl
    · exact (p48 P hP).2.2
  have e2 : settleS (settleS S E) E = settleS S E := by
    unfold settleS
    cases E
    · rfl
    · show 256 + (256 + S % 256) % 256 = _
      simp only [if_true]
      omega
  have e3 : ∀ x q, settleX (settleX x q) q = settleX x q := fun x q => by
    unfold settleX
    split
    · omega
    · rfl
  simp only [Rg.settle, e1, e2, e3]
/-- The address of a direct place. -/
def directF (D n : Nat) (E : Bool) : Nat := if E = true ∧ D % 256 = 0 then D + n % 256 else (D + n) % 65536
def nextF (a : Nat) (bank : Bool) : Nat := if bank then a / 65536 % 256 * 65536 + (a + 1) % 65536 else (a + 1) % 16777216
theorem or16 (b n : Nat) (hb : b < 256) (hn : n < 65536) : bits .or .u32 ((b * 65536 : Nat) : Int) (n : Int) = ((b * 65536 + n : Nat) : Int) := by
  rw [u32_or_nat _ _ (by omega) (by omega)]
  congr 1
  rw [show b * 65536 = b <<< 16 by rw [Nat.shiftLeft_eq], Nat.shiftLeft_add_eq_or_of_lt (by omega)]
theorem and16 (n : Nat) (hn : n < 4294967296) : bits .and .u32 (n : Int) 65535 = ((n % 65536 : Nat) : Int) := by
  rw [show (65535 : Int) = ((65535 : Nat) : Int) from rfl, u32_and_nat _ _ hn (by omega)]
  congr 1
  exact Nat.and_two_pow_sub_one_eq_mod n 16
theorem and24 (n : Nat) (hn : n < 4294967296) : bits .and .u32 (n : Int) 16777215 = ((n % 16777216 : Nat) : Int) := by
  rw [show (16777215 : Int) = ((16777215 : Nat) : Int) from rfl, u32_and_nat _ _ hn (by omega)]
  congr 1
  exact Nat.and_two_pow_sub_one_eq_mod n 24
theorem and8u32 (n : Nat) (hn : n < 4294967296) : bits .and .u32 (n : Int) 255 = ((n % 256 : Nat) : Int) := by
  rw [show (255 : Int) = ((255 : Nat) : Int) from rfl, u32_and_nat _ _ hn (by omega)]
  congr 1
  exact Nat.and_two_pow_sub_one_eq_mod n 8
theorem and8u16 (n : Nat) (hn : n < 65536) : bits .and .u16 (n : Int) 255 = ((n % 256 : Nat) : Int) := by
  rw [show (255 : Int) = ((255 : Nat) : Int) from rfl, u16_and_nat _ _ hn (by omega)]
  congr 1
  exact Nat.and_two_pow_sub_one_eq_mod n 8
theorem cut_any (n : Nat) (w : World) (hn : n < 4294967296) : Calls Tryz.prog 249 #[.int .u32 (n : Nat)] w fun e w' => e = .returned (.int .u32 (n % 16777216 : Nat)) ∧ w = w' := by
  have h := and24 n hn
  go_enter Tryz.func249, Tryz.ntmps249
  go_wp2_with fail
  go_ret
  exact ⟨by first | rfl | rw [h], rfl⟩
theorem address_any (b n : Nat) (w : World) (hb : b < 256) (hn : n < 4294967296) : Calls Tryz.prog 111 #[.int .u8 (b : Nat), .int .u32 (n : Nat)] w fun e w' => e = .returned (.int .u32 (b * 65536 + n % 65536 : Nat)) ∧ w = w' := by
  obtain ⟨m, hm⟩ : ∃ m, n % 65536 = m := ⟨_, rfl⟩
  obtain ⟨c, hc⟩ : ∃ c, b * 65536 = c := ⟨_, rfl⟩
  have h2 := or16 b m hb (by omega)
  have h1 := and16 n hn
  rw [hm] at h1 ⊢
  rw [hc] at h2 ⊢
  have h3 : (n : Int) % 65536 = (m : Int) := by omega
  have h4 : (b : Int) * 65536 = (c : Int) := by omega
  generalize c + m = q at *
  clear hm hc
  go_enter Tryz.func111, Tryz.ntmps111
  go_wp2_with fail
  go_ret
  exact ⟨rfl, rfl⟩
/-- Behind the flags, where the index registers are narrow. -/
theorem bit16 (Q : Nat) (h : Q < 256) : (bits .and .u8 (Q : Int) 16 != 0) = decide (Q / 16 % 2 = 1) := by
  have : ∀ Q : Nat, Q < 256 → (Q &&& 16 != 0) = decide (Q / 16 % 2 = 1) := by decide +kernel
  rw [show (16 : Int) = ((16 : Nat) : Int) from rfl, u8_and_nat Q 16 h (by omega), ← this Q h]
  cases (Q &&& 16) <;> simp [bne] <;> omega
theorem or256 (S : Nat) : bits .or .u16 256 ((S % 256 : Nat) : Int) = ((256 + S % 256 : Nat) : Int) := by
  have h : S % 256 < 256 := Nat.mod_lt _ (by decide)
  rw [show (256 : Int) = ((256 : Nat) : Int) from rfl, u16_or_nat _ _ (by omega) (by omega)]
  congr 1
  rw [show 256 ||| S % 256 = 1 <<< 8 ||| S % 256 from rfl, ← Nat.shiftLeft_add_eq_or_of_lt (by omega)]
  rfl
theorem sset_tt (A X Y S D PC B K P : Nat) (w : World) (h : (Rg.mk A X Y S D PC B K P true).Ok) :
    Calls Tryz.prog 28 #[(Rg.mk A X Y S D PC B K P true).v] w fun e w' => e = .returned (Rg.mk A X Y S D PC B K P true).settle.v ∧ Below w.heap.size w w' := by
  obtain ⟨hA, hX, hY, hS, hD, hPC, hB, hK, hP⟩ := h
  dsimp only at *
  unfold Rg.v rgC Rg.settle settleP settleS settleX
  dsimp only
  have q := p48 P hP
  have q1 : bits .or .u8 (P : Int) 48 = ((P ||| 48 : Nat) : Int) := u8_or_nat P 48 hP (by omega)
  have q2 := bit16 (P ||| 48) q.2.1
  rw [decide_eq_true q.1] at q2
  rw [if_pos rfl, if_pos rfl, if_pos q.1, if_pos q.1]
  have q3 := and8u16 S hS
  have q4 := or256 S
  have q5 := and8u16 X hX
  have q6 := and8u16 Y hY
  generalize P ||| 48 = Q at *
  generalize X % 256 = x at *
  generalize Y % 256 = y at *
  generalize 256 + S % 256 = T at *
  generalize S % 256 = U at *
  clear q hA hX hY hS hD hPC hB hK hP
  go_enter Tryz.func28, Tryz.ntmps28
  go_wp2_with fail
  exact bodyPost_ret (v := .agg #[.int .u16 A, .int .u16 x, .int .u16 y, .int .u16 T, .int .u16 D, .int .u16 PC, .int .u8 B, .int .u8 K, .int .u8 Q, .bool true]) (by simp [results, Tryz.results28, go_sem]) rfl ⟨rfl, ((Below.refl _ _).alloc (Nat.le_refl _) _).alloc (by simp) _⟩
theorem sset_ft (A X Y S D PC B K P : Nat) (w : World) (h : (Rg.mk A X Y S D PC B K P false).Ok) (hx : P / 16 % 2 = 1) :
    Calls Tryz.prog 28 #[(Rg.mk A X Y S D PC B K P false).v] w fun e w' => e = .returned (Rg.mk A X Y S D PC B K P false).settle.v ∧ Below w.heap.size w w' := by
  obtain ⟨hA, hX, hY, hS, hD, hPC, hB, hK, hP⟩ := h
  dsimp only at *
  unfold Rg.v rgC Rg.settle settleP settleS settleX
  dsimp only
  simp only [Bool.false_eq_true, if_false]
  have q2 := bit16 P hP
  rw [decide_eq_true hx] at q2
  rw [if_pos hx, if_pos hx]
  have q5 := and8u16 X hX
  have q6 := and8u16 Y hY
  generalize X % 256 = x at *
  generalize Y % 256 = y at *
  clear hx hA hX hY hS hD hPC hB hK hP
  go_enter Tryz.func28, Tryz.ntmps28
  go_wp2_with fail
  exact bodyPost_ret (v := .agg #[.int .u16 A, .int .u16 x, .int .u16 y, .int .u16 S, .int .u16 D, .int .u16 PC, .int .u8 B, .int .u8 K, .int .u8 P, .bool false]) (by simp [results, Tryz.results28, go_sem]) rfl ⟨rfl, ((Below.refl _ _).alloc (Nat.le_refl _) _).alloc (by simp) _⟩
theorem sset_ff (A X Y S D PC B K P : Nat) (w : World) (h : (Rg.mk A X Y S D PC B K P false).Ok) (hx : ¬ P / 16 % 2 = 1) :
    Calls Tryz.prog 28 #[(Rg.mk A X Y S D PC B K P false).v] w fun e w' => e = .returned (Rg.mk A X Y S D PC B K P false).settle.v ∧ Below w.heap.size w w' := by
  obtain ⟨hA, hX, hY, hS, hD, hPC, hB, hK, hP⟩ := h
  dsimp only at *
  unfold Rg.v rgC Rg.settle settleP settleS settleX
  dsimp only
  simp only [Bool.false_eq_true, if_false]
  have q2 := bit16 P hP
  rw [decide_eq_false hx] at q2
  rw [if_neg hx, if_neg hx]
  clear hx hA hX hY hS hD hPC hB hK hP
  go_enter Tryz.func28, Tryz.ntmps28
  go_wp2_with fail
  exact bodyPost_ret (v := .agg #[.int .u16 A, .int .u16 X, .int .u16 Y, .int .u16 S, .int .u16 D, .int .u16 PC, .int .u8 B, .int .u8 K, .int .u8 P, .bool false]) (by simp [results, Tryz.results28, go_sem]) rfl ⟨rfl, ((Below.refl _ _).alloc (Nat.le_refl _) _).alloc (by simp) _⟩
theorem settle_any (r : Rg) (w : World) (h : r.Ok) : Calls Tryz.prog 28 #[r.v] w fun e w' => e = .returned r.settle.v ∧ Below w.heap.size w w' := by
  obtain ⟨A, X, Y, S, D, PC, B, K, P, E⟩ := r
  cases E
  · by_cases hx : P / 16 % 2 = 1
    · exact sset_ft A X Y S D PC B K P w h hx
    · exact sset_ff A X Y S D PC B K P w h hx
  · exact sset_tt A X Y S D PC B K P w h
theorem rsset_tt (A X Y S D PC B K P : Nat) (w : World) (h : (Rg.mk A X Y S D PC B K P true).Ok) :
    Calls Tryz.prog 62 #[(Rg.mk A X Y S D PC B K P true).v] w fun e w' => e = .returned (Rg.mk A X Y S D PC B K P true).settle.v ∧ Below w.heap.size w w' := by
  obtain ⟨hA, hX, hY, hS, hD, hPC, hB, hK, hP⟩ := h
  dsimp only at *
  unfold Rg.v rgC Rg.settle settleP settleS settleX
  dsimp only
  have q := p48 P hP
  have q1 : bits .or .u8 (P : Int) 48 = ((P ||| 48 : Nat) : Int) := u8_or_nat P 48 hP (by omega)
  have q2 := bit16 (P ||| 48) q.2.1
  rw [decide_eq_true q.1] at q2
  rw [if_pos rfl, if_pos rfl, if_pos q.1, if_pos q.1]
  have q3 := and8u16 S hS
  have q4 := or256 S
  have q5 := and8u16 X hX
  have q6 := and8u16 Y hY
  have r1 : (((P ||| 48 : Nat) : Int) / 16 % 2 == 1) = true := by rw [beq_iff_eq]; have := q.1; omega
  have r2 : (S : Int) % 256 = ((S % 256 : Nat) : Int) := by omega
  have r3 : (256 : Int) + ((S % 256 : Nat) : Int) = ((256 + S % 256 : Nat) : Int) := by omega
  have r4 : (X : Int) % 256 = ((X % 256 : Nat) : Int) := by omega
  have r5 : (Y : Int) % 256 = ((Y % 256 : Nat) : Int) := by omega
  generalize P ||| 48 = Q at *
  generalize X % 256 = x at *
  generalize Y % 256 = y at *
  generalize 256 + S % 256 = T at *
  generalize S % 256 = U at *
  clear q hA hX hY hS hD hPC hB hK hP
  go_enter Tryz.func62, Tryz.ntmps62
  go_wp2_with fail
  exact bodyPost_ret (v := .agg #[.int .u16 A, .int .u16 x, .int .u16 y, .int .u16 T, .int .u16 D, .int .u16 PC, .int .u8 B, .int .u8 K, .int .u8 Q, .bool true]) (by simp [results, Tryz.results62, go_sem]) rfl ⟨rfl, ((Below.refl _ _).alloc (Nat.le_refl _) _).alloc (by simp) _⟩
theorem rsset_ft (A X Y S D PC B K P : Nat) (w : World) (h : (Rg.mk A X Y S D PC B K P false).Ok) (hx : P / 16 % 2 = 1) :
    Calls Tryz.prog 62 #[(Rg.mk A X Y S D PC B K P false).v] w fun e w' => e = .returned (Rg.mk A X Y S D PC B K P false).settle.v ∧ Below w.heap.size w w' := by
  obtain ⟨hA, hX, hY, hS, hD, hPC, hB, hK, hP⟩ := h
  dsimp only at *
  unfold Rg.v rgC Rg.settle settleP settleS settleX
  dsimp only
  simp only [Bool.false_eq_true, if_false]
  have q2 := bit16 P hP
  rw [decide_eq_true hx] at q2
  rw [if_pos hx, if_pos hx]
  have q5 := and8u16 X hX
  have q6 := and8u16 Y hY
  have r1 : ((P : Int) / 16 % 2 == 1) = true := by rw [beq_iff_eq]; omega
  have r4 : (X : Int) % 256 = ((X % 256 : Nat) : Int) := by omega
  have r5 : (Y : Int) % 256 = ((Y % 256 : Nat) : Int) := by omega
  generalize X % 256 = x at *
  generalize Y % 256 = y at *
  clear hx hA hX hY hS hD hPC hB hK hP
  go_enter Tryz.func62, Tryz.ntmps62
  go_wp2_with fail
  exact bodyPost_ret (v := .agg #[.int .u16 A, .int .u16 x, .int .u16 y, .int .u16 S, .int .u16 D, .int .u16 PC, .int .u8 B, .int .u8 K, .int .u8 P, .bool false]) (by simp [results, Tryz.results62, go_sem]) rfl ⟨rfl, ((Below.refl _ _).alloc (Nat.le_refl _) _).alloc (by simp) _⟩
theorem rsset_ff (A X Y S D PC B K P : Nat) (w : World) (h : (Rg.mk A X Y S D PC B K P false).Ok) (hx : ¬ P / 16 % 2 = 1) :
    Calls Tryz.prog 62 #[(Rg.mk A X Y S D PC B K P false).v] w fun e w' => e = .returned (Rg.mk A X Y S D PC B K P false).settle.v ∧ Below w.heap.size w w' := by
  obtain ⟨hA, hX, hY, hS, hD, hPC, hB, hK, hP⟩ := h
  dsimp only at *
  unfold Rg.v rgC Rg.settle settleP settleS settleX
  dsimp only
  simp only [Bool.false_eq_true, if_false]
  have q2 := bit16 P hP
  rw [decide_eq_false hx] at q2
  rw [if_neg hx, if_neg hx]
  have r1 : ((P : Int) / 16 % 2 == 1) = false := by rw [beq_eq_false_iff_ne]; omega
  clear hx hA hX hY hS hD hPC hB hK hP
  go_enter Tryz.func62, Tryz.ntmps62
  go_wp2_with fail
  exact bodyPost_ret (v := .agg #[.int .u16 A, .int .u16 X, .int .u16 Y, .int .u16 S, .int .u16 D, .int .u16 PC, .int .u8 B, .int .u8 K, .int .u8 P, .bool false]) (by simp [results, Tryz.results62, go_sem]) rfl ⟨rfl, ((Below.refl _ _).alloc (Nat.le_refl _) _).alloc (by simp) _⟩
theorem rsettle_any (r : Rg) (w : World) (h : r.Ok) : Calls Tryz.prog 62 #[r.v] w fun e w' => e = .returned r.settle.v ∧ Below w.heap.size w w' := by
  obtain ⟨A, X, Y, S, D, PC, B, K, P, E⟩ := r
  cases E
  · by_cases hx : P / 16 % 2 = 1
    · exact rsset_ft A X Y S D PC B K P w h hx
    · exact rsset_ff A X Y S D PC B K P w h hx
  · exact rsset_tt A X Y S D PC B K P w h
end Go.Proofs.YtnacdaodjgdnnaaGreat
