/-
  What is saved, as numbers: a part with a tag, its length, its bytes; and what a reader of such bytes answers.
-/
import Derived.Test.YtbdhdedlemndeaaDoorSvGE
import Derived.Test.YtbdhdedlemndeaaDoorSvGG
import Derived.Test.YtbdhdedlemndeaaDoorSvGH
namespace Go.Proofs.YtbdhdedlemndeaaDoor
set_option linter.unusedVariables false
set_option maxRecDepth 10000

/-- A part: its tag, how many bytes, these. -/
def partF (t m : Nat) (F : Nat → Nat) : Nat → Nat := fun i => if i = 0 then t else if i < 5 then byteAt m (i - 1) else F (i - 5)
/-- A writer that has been told to open a part, and k bytes. -/
def stW (F : Nat → Nat) : Nat → St
  | 0 => St.new.when (St.new.openW 13)
  | k + 1 => (stW F k).when ((stW F k).putW 1 (byteAt (F k)))
def stE (F : Nat → Nat) : St := (stW F 23).when (stW F 23).closeW
theorem closeOk_f (S : St) (q i : Nat) : (S.closeOk q).f i = if S.ps q - 4 ≤ i ∧ i < S.ps q - 4 + 4 then byteAt (S.n - S.ps q) (i - (S.ps q - 4)) else S.f i := rfl
theorem closeOk_done (S : St) (h : S.e = 0) : (S.closeOk 0).doneE = 0 := by
  show (if S.e = 0 then (if 0 < 0 then 50 else 0) else S.e) = 0
  rw [if_pos h]
  rfl
theorem closeOk_n (S : St) (q : Nat) : (S.closeOk q).n = S.n := rfl
theorem put_f (S : St) (x i : Nat) : (S.put 1 (byteAt x)).f i = if i < S.n then S.f i else byteAt x (i - S.n) := rfl
theorem put_n (S : St) (x : Nat) : (S.put 1 (byteAt x)).n = S.n + 1 := rfl
theorem put_rest (S : St) (x : Nat) : (S.put 1 (byteAt x)).e = S.e ∧ (S.put 1 (byteAt x)).op = S.op ∧ (S.put 1 (byteAt x)).ps = S.ps := ⟨rfl, rfl, rfl⟩
theorem stW_is {F : Nat → Nat} (hF : ∀ i, i < 23 → F i < 256) : ∀ k, k ≤ 23 → (stW F k).e = 0 ∧ (stW F k).op = 1 ∧ (stW F k).n = 5 + k ∧ (stW F k).ps 0 = 5 ∧ ∀ i, i < 5 + k → (stW F k).f i = (if i = 0 then 13 else if i < 5 then 0 else F (i - 5)) := by
  intro k
  induction k with
  | zero =>
    intro _
    refine ⟨rfl, rfl, rfl, rfl, fun i hi => ?_⟩
    rcases (show i = 0 ∨ i = 1 ∨ i = 2 ∨ i = 3 ∨ i = 4 by omega) with rfl | rfl | rfl | rfl | rfl <;> rfl
  | succ k ih =>
    intro hk
    obtain ⟨h1, h2, h3, h4, h5⟩ := ih (by omega)
    have e : stW F (k + 1) = (stW F k).put 1 (byteAt (F k)) := by
      rw [stW, St.when, if_pos h1, St.putW, if_neg (by omega)]
    rw [e]
    obtain ⟨r1, r2, r3⟩ := put_rest (stW F k) (F k)
    refine ⟨r1.trans h1, r2.trans h2, by rw [put_n]; omega, by rw [r3]; exact h4, fun i hi => ?_⟩
    rw [put_f]
    by_cases hlt : i < 5 + k
    · rw [if_pos (by omega), h5 i hlt]
    · obtain rfl : i = 5 + k := by omega
      rw [if_neg (by omega), if_neg (by omega), if_neg (by omega), h3, Nat.sub_self]
      have := hF k (by omega)
      rw [show 5 + k - 5 = k by omega]
      unfold byteAt
      rw [Nat.mul_zero, Nat.pow_zero, Nat.div_one]
      omega
theorem stE_is {F : Nat → Nat} (hF : ∀ i, i < 23 → F i < 256) : (stE F).doneE = 0 ∧ (stE F).n = 28 ∧ ∀ i, i < 28 → (stE F).f i = partF 13 23 F i := by
  obtain ⟨h1, h2, h3, h4, h5⟩ := stW_is hF 23 (Nat.le_refl _)
  have e : stE F = (stW F 23).closeOk 0 := by
    rw [stE, St.when, if_pos h1, St.closeW, if_neg (by omega), h2]
  rw [e]
  refine ⟨closeOk_done _ h1, (closeOk_n _ _).trans h3, fun i hi => ?_⟩
  · rw [closeOk_f, h4, h3]
    unfold partF
    by_cases h0 : i = 0
    · subst h0
      rw [if_neg (by omega), if_pos rfl, h5 0 (by omega), if_pos rfl]
    · by_cases hlt : i < 5
      · rw [if_pos (by omega), if_neg h0, if_pos hlt]
      · rw [if_neg (by omega), if_neg h0, if_neg hlt, h5 i hi, if_neg h0, if_neg hlt]
theorem headF_congr {n : Nat} {f g : Nat → Nat} (h : ∀ i, i < n → f i = g i) (i : Nat) (hi : i < 13 + n) : headF n f i = headF n g i := by
  unfold headF
  rw [sumN_congr h]
  repeat' split
  all_goals first | rfl | exact h _ (by omega)
theorem partF_byte {t m : Nat} {F : Nat → Nat} (ht : t < 256) (hF : ∀ i, i < m → F i < 256) : ∀ i, i < 5 + m → partF t m F i < 256 := by
  intro i hi
  unfold partF
  split
  · exact ht
  · split
    · exact byteAt_lt _ _
    · exact hF _ (by omega)
/-- A reader of such bytes, ahead of it all. -/
def rsN (m : Nat) (F : Nat → Nat) : RS := ⟨5 + m, partF 13 m F, 0, 0, fun _ => 0⟩
/-- .. behind Open and k bytes. -/
def rsK (m : Nat) (F : Nat → Nat) (k : Nat) : RS := ⟨5 + m, partF 13 m F, 5 + k, 1, upd (fun _ => 0) 0 (5 + m)⟩
theorem rsN_good {m : Nat} (F : Nat → Nat) (hm : 5 + m ≤ 16777216) : (rsN m F).Good := ⟨Nat.zero_le _, hm, Nat.zero_le _, fun i j _ hj => absurd hj (Nat.not_lt_zero _), fun i hi => absurd hi (Nat.not_lt_zero _)⟩
theorem rsK_end (m : Nat) (F : Nat → Nat) (k : Nat) : (rsK m F k).endN = 5 + m := rfl
theorem rsK_good {m k : Nat} (F : Nat → Nat) (hm : 5 + m ≤ 16777216) (hk : k ≤ m) : (rsK m F k).Good :=
  ⟨by show 1 ≤ 16; decide, hm, by rw [rsK_end]; show 5 + k ≤ 5 + m; omega, fun i j hij hj => by
    have hj : j < 1 := hj
    obtain rfl : j = 0 := by omega
    obtain rfl : i = 0 := by omega
    exact Nat.le_refl _, fun i hi => by
    have hi : i < 1 := hi
    obtain rfl : i = 0 := by omega
    exact Nat.le_refl _⟩
theorem rsK_left {m k : Nat} (F : Nat → Nat) : (rsK m F k).left = m - k := by
  show (5 + m) - (5 + k) = _
  omega
theorem rsK_num {m k : Nat} (F : Nat → Nat) : (rsK m F k).num 1 = F k := by
  rw [num_one]
  show partF 13 m F (5 + k) = F k
  unfold partF
  rw [if_neg (by omega), if_neg (by omega), show 5 + k - 5 = k by omega]
theorem rsK_adv {m k : Nat} (F : Nat → Nat) : (rsK m F k).adv 1 = rsK m F (k + 1) := rfl
theorem part_len {m : Nat} (F : Nat → Nat) (hm : m < 4294967296) : numN (shiftF 1 (partF 13 m F)) 4 = m := by
  have e : numN (shiftF 1 (partF 13 m F)) 4 = numN (byteAt m) 4 := numN_congr (fun i hi => by
    show partF 13 m F (1 + i) = byteAt m i
    unfold partF
    rw [if_neg (by omega), if_pos (by omega), show 1 + i - 1 = i by omega])
  rw [e, numN_byteAt]
  exact Nat.mod_eq_of_lt (by simpa using hm)
theorem rsN_left (m : Nat) (F : Nat → Nat) : (rsN m F).left = 5 + m := rfl
theorem rsN_num {m : Nat} (F : Nat → Nat) (hm : m < 4294967296) : ((rsN m F).adv 1).num 4 = m := part_len F hm
theorem rsN_open {m : Nat} (F : Nat → Nat) (hm : 5 + m ≤ 16777216) : (rsN m F).openE 13 = 0 ∧ (rsN m F).opened = rsK m F 0 := by
  have hn := rsN_num F (show m < 4294967296 by omega)
  constructor
  · unfold RS.openE
    rw [if_neg (show ¬ (rsN m F).op = 16 from (by decide : ¬ (0 : Nat) = 16)), rsN_left, if_neg (by omega), if_neg (show ¬ (rsN m F).f (rsN m F).at_ ≠ 13 from fun h => h rfl), hn, if_neg (by omega)]
  · unfold RS.opened
    rw [hn]
    show (⟨5 + m, partF 13 m F, 0 + 5, 0 + 1, upd (fun _ => 0) 0 (0 + 5 + m)⟩ : RS) = rsK m F 0
    rw [Nat.zero_add, Nat.zero_add]
    rfl
theorem rsK_close {m k : Nat} (F : Nat → Nat) (hk : k ≤ m) : (rsK m F k).closeE = if k = m then 0 else 59 := by
  unfold RS.closeE
  rw [if_neg (show ¬ (rsK m F k).op = 0 from (by decide : ¬ (1 : Nat) = 0)), rsK_left]
  by_cases e : k = m
  · rw [if_pos e, if_neg (by omega)]
  · rw [if_neg e, if_pos (by omega)]
theorem rsK_done {m : Nat} (F : Nat → Nat) : ((rsK m F m).closed).doneE = 0 := by
  have h1 : ((rsK m F m).closed).left = 0 := by
    show (5 + m) - (5 + m) = 0
    omega
  have h2 : ((rsK m F m).closed).op = 0 := rfl
  unfold RS.doneE
  rw [h1, h2]
  rfl
end Go.Proofs.YtbdhdedlemndeaaDoor
