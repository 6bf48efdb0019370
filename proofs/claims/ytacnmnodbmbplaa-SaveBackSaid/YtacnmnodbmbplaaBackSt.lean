/-
  SaveBack: small facts for its walk.
-/
import Derived.Test.YtacnmnodbmbplaaBackPure
namespace Go.Proofs.Ytacnmnodbmbplaa
open Go.RowKit Go.Shelf
set_option maxRecDepth 100000
set_option maxHeartbeats 2000000
set_option linter.unusedVariables false

/-- The writer behind k calls: nothing has gone wrong. -/
structure Ran (sf : Nat → Pt) (k op sz : Nat) : Prop where
  fe : ∀ j, j ≤ k → (runS sf j).e = 0
  fo : (runS sf k).op = op
  fn : (runS sf k).n ≤ sz
  lo : op ≤ 16
  ls : sz ≤ 16777216
theorem Ran.next {sf : Nat → Pt} {k op sz op' : Nat} (h : Ran sf k op sz) (h1 : openI (sf k).what op = op') (h2 : op' ≤ 16) (h3 : sz + (13 + (sf k).len) ≤ 16777216) : Ran sf (k + 1) op' (sz + (13 + (sf k).len)) := by
  have hop := h.fo
  have := step_ok (s := runS sf k) (what := (sf k).what) (n := (sf k).n) (len := (sf k).len) (f := (sf k).f) (h.fe k (Nat.le_refl _)) (by rw [hop, h1]; omega) (by rw [hop, h1]; omega) (by have := h.fn; omega)
  obtain ⟨a, b, c⟩ := this
  refine ⟨fun j hj => ?_, ?_, ?_, h2, h3⟩
  · by_cases e : j = k + 1
    · rw [e]; exact a
    · exact h.fe j (by omega)
  · have : ((runS sf (k + 1)).op : Int) = op' := by rw [← h1, ← hop]; exact b
    omega
  · have := h.fn
    show ((runS sf k).step _ _ _ _).n ≤ _
    omega
theorem ran_zero (sf : Nat → Pt) : Ran sf 0 0 0 := ⟨fun j hj => by obtain rfl : j = 0 := Nat.le_zero.1 hj; rfl, rfl, Nat.le_refl _, Nat.zero_le _, Nat.zero_le _⟩
theorem open_ways (what : Int) (op : Nat) : (what = 6 ∧ openI what op = (op : Int) + 1) ∨ (((what == 6) = false ∧ decide (what > 6) = true) ∧ openI what op = (op : Int) - 1) ∨ (((what == 6) = false ∧ decide (what > 6) = false ∧ decide (what < 0) = true) ∧ openI what op = (op : Int) - 1) ∨
    (((what == 6) = false ∧ decide (what > 6) = false ∧ decide (what < 0) = false) ∧ openI what op = op) := by
  unfold openI
  by_cases h6 : what = 6
  · left; exact ⟨h6, if_pos h6⟩
  · rw [if_neg h6]
    by_cases h7 : 6 < what
    · right; left; exact ⟨⟨beq_eq_false_iff_ne.2 h6, decide_eq_true h7⟩, if_pos (.inl h7)⟩
    · by_cases h8 : what < 0
      · right; right; left; exact ⟨⟨beq_eq_false_iff_ne.2 h6, decide_eq_false (by omega), decide_eq_true h8⟩, if_pos (.inr h8)⟩
      · right; right; right; exact ⟨⟨beq_eq_false_iff_ne.2 h6, decide_eq_false (by omega), decide_eq_false h8⟩, if_neg (by omega)⟩
theorem back_sums {sz len X Y : Nat} (h1 : 13 + len = X) (h2 : sz + X = Y) (hl : len ≤ 140737488351232) (hs : sz ≤ 16777216) : (13 : Int) + (len : Int) = (X : Int) ∧ wrap64 (X : Int) = (X : Int) ∧ (sz : Int) + (X : Int) = (Y : Int) ∧ wrap64 (Y : Int) = (Y : Int) := by
  unfold wrap64; omega
theorem back_k {k sn : Nat} (hs : sn ≤ maxLen) (hlt : k < sn) : (k : Int) < (sn : Int) ∧ IntKind.i64.wrap ((k : Int) + 1) = (k : Int) + 1 ∧ (k : Int) + 1 ≤ 9223372036854775807 := by
  unfold maxLen at hs; simp only [IntKind.wrap_i64]; omega
theorem step_neg (r : RS) (what n : Int) (h : what < 0) : r.step what n = r.step 7 n := by
  unfold RS.step
  rw [if_neg (by omega), if_neg (by omega), if_neg (by omega), if_neg (by omega), if_neg (by omega), if_neg (by omega), if_neg (by omega)]
  rfl
theorem back_u8 (n : Int) : IntKind.u8.wrap n = n % 256 ∧ wrap64 (n % 256) = n % 256 := by refine ⟨by simp only [IntKind.wrap_u8], ?_⟩; unfold wrap64; omega
theorem back_u16 (n : Int) : IntKind.u16.wrap n = n % 65536 ∧ wrap64 (n % 65536) = n % 65536 := by refine ⟨by simp only [IntKind.wrap_u16], ?_⟩; unfold wrap64; omega
theorem back_u32 (n : Int) : IntKind.u32.wrap n = n % 4294967296 ∧ wrap64 (n % 4294967296) = n % 4294967296 := by refine ⟨by simp only [IntKind.wrap_u32], ?_⟩; unfold wrap64; omega
theorem back_inc {q : Nat} (h : q ≤ 16) : wrap64 ((q : Int) + 1) = (q : Int) + 1 := by unfold wrap64; omega
theorem back_dec {q : Nat} (h : q ≤ 16) : wrap64 ((q : Int) - 1) = (q : Int) - 1 ∧ IntKind.i64.wrap ((q : Int) - 1) = (q : Int) - 1 := by refine ⟨by unfold wrap64; omega, ?_⟩; simp only [IntKind.wrap_i64]; omega
theorem back_down {i q op : Nat} (h : i + (q + 1) = op) (h16 : op ≤ 16) : ((q + 1 : Nat) : Int) - 1 = (q : Int) ∧ wrap64 (q : Int) = (q : Int) ∧ (0 : Int) < ((q + 1 : Nat) : Int) ∧ i + 1 + q = op := by refine ⟨by omega, by unfold wrap64; omega, by omega, by omega⟩
theorem back_le {i q op : Nat} (h : i + (q + 1) = op) : i ≤ op := by omega
theorem back_ne {i q op : Nat} (h : i + (q + 1) = op) : op - i ≠ 0 := by omega
theorem back_sub {i q op : Nat} (h : i + (q + 1) = op) : op - (op - (i + 1)) = i + 1 := by omega
theorem close_when {s : St} {i : Nat} (h : (closeS s i).e = 0) : (closeS s i).when (closeS s i).closeW = closeS s (i + 1) := by
  show (closeS s i).when (closeS s i).closeW = (closeS s i).closeW
  generalize closeS s i = t at *
  unfold St.when
  rw [if_pos h]
theorem close_succ {s : St} {i : Nat} (h : (closeS s i).op ≠ 0) : closeS s (i + 1) = (closeS s i).closeOk ((closeS s i).op - 1) := by
  show (closeS s i).closeW = _
  generalize closeS s i = t at *
  unfold St.closeW
  rw [if_neg h]
theorem run_when {sf : Nat → Pt} {k : Nat} (h : (runS sf k).e = 0) : (runS sf k).when ((runS sf k).step (sf k).what (sf k).n (sf k).len (sf k).f) = runS sf (k + 1) := by
  show _ = (runS sf k).step (sf k).what (sf k).n (sf k).len (sf k).f
  generalize runS sf k = t at *
  unfold St.when
  rw [if_pos h]
theorem down_meas {q : Nat} {Q : Int} (h1 : Q - 1 = (q : Int)) (h2 : 0 < Q) : (intOf (.int .i64 (q : Nat))).toNat < (intOf (.int .i64 Q)).toNat := by
  show (q : Int).toNat < Q.toNat
  omega
theorem run_op {sf : Nat → Pt} {j q : Nat} (h : (runS sf j).op = q) (he : (runS sf (j + 1)).e = 0) : ((sf j).what = 6 → (runS sf (j + 1)).op = q + 1) ∧ ((6 < (sf j).what ∨ (sf j).what < 0) → (runS sf (j + 1)).op = q - 1 ∧ 0 < q) ∧ ((0 ≤ (sf j).what ∧ (sf j).what ≤ 5) → (runS sf (j + 1)).op = q) := by
  change ((runS sf j).step _ _ _ _).e = 0 at he
  show (_ → ((runS sf j).step _ _ _ _).op = _) ∧ (_ → ((runS sf j).step _ _ _ _).op = _ ∧ _) ∧ (_ → ((runS sf j).step _ _ _ _).op = _)
  generalize runS sf j = s at *
  generalize (sf j).what = what at *
  subst h
  unfold St.step at *
  refine ⟨fun e => ?_, fun e => ?_, fun e => ?_⟩
  · subst e
    exact congrArg St.op (openW_goes he).1
  · rw [if_neg (by omega), if_neg (by omega), if_neg (by omega), if_neg (by omega), if_neg (by omega), if_neg (by omega), if_neg (by omega)] at *
    obtain ⟨e1, e2⟩ := closeW_goes he
    rw [e1]
    exact ⟨rfl, by omega⟩
  · rcases (show what = 0 ∨ what = 1 ∨ what = 2 ∨ what = 3 ∨ what = 4 ∨ what = 5 by omega) with rfl | rfl | rfl | rfl | rfl | rfl
    all_goals
      have h9 := (putW_goes he).1
      exact (congrArg St.op h9).trans rfl
end Go.Proofs.Ytacnmnodbmbplaa
