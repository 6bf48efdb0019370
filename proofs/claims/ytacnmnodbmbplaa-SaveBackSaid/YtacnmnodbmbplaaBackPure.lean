/-
  What a writer put a reader takes: plain facts on the two as numbers.
-/
import Derived.Test.YtacnmnodbmbplaaRGoodB
import Derived.Test.YtacnmnodbmbplaaHeads
import Derived.Test.YtacnmnodbmbplaaOpenPuts
namespace Go.Proofs.Ytacnmnodbmbplaa
open Go.RowKit Go.Shelf
set_option linter.unusedVariables false

/-- The parts' lengths don't lie in one another. -/
def St.Sep (s : St) : Prop := ∀ i j, i < j → j < s.op → s.ps i + 5 ≤ s.ps j
/-- Where an open part will end, by the final bytes F. -/
def endOf (F : Nat → Nat) (s : St) (j : Nat) : Nat := s.ps j + numN (shiftF (s.ps j - 4) F) 4
/-- The final bytes F, N of them, as they are foretold at s. -/
structure Fut (F : Nat → Nat) (N : Nat) (s : St) : Prop where
  le : s.n ≤ N
  stable : ∀ i, i < s.n → (∀ j, j < s.op → ¬ (s.ps j - 4 ≤ i ∧ i < s.ps j)) → F i = s.f i
  lo : ∀ j, j < s.op → s.n ≤ endOf F s j
  hi : ∀ j, j < s.op → endOf F s j ≤ N
  mono : ∀ i j, i ≤ j → j < s.op → endOf F s j ≤ endOf F s i
/-- What a call that goes well makes of a writer. -/
inductive Goes (s : St) : St → Prop
  | put (m : Nat) (g : Nat → Nat) (h : s.n + m ≤ 16777216) : Goes s (s.put m g)
  | opened (x : Nat) (h : s.n + 5 ≤ 16777216) (ho : s.op ≠ 16) : Goes s (s.openOk x)
  | closed (ho : s.op ≠ 0) : Goes s (s.closeOk (s.op - 1))
theorem putW_goes {s : St} {m : Nat} {g : Nat → Nat} (h' : (s.putW m g).e = 0) : s.putW m g = s.put m g ∧ s.n + m ≤ 16777216 := by
  unfold St.putW at *
  by_cases h : 16777216 < s.n + m
  · rw [if_pos h] at h'; cases h'
  · rw [if_neg h] at *; exact ⟨rfl, by omega⟩
theorem openW_goes {s : St} {x : Nat} (h' : (s.openW x).e = 0) : s.openW x = s.openOk x ∧ s.n + 5 ≤ 16777216 ∧ s.op ≠ 16 := by
  unfold St.openW at *
  by_cases h1 : s.op = 16
  · rw [if_pos h1] at h'; cases h'
  · by_cases h : 16777216 < s.n + 5
    · rw [if_neg h1, if_pos h] at h'; cases h'
    · rw [if_neg h1, if_neg h] at *; exact ⟨rfl, by omega, h1⟩
theorem closeW_goes {s : St} (h' : s.closeW.e = 0) : s.closeW = s.closeOk (s.op - 1) ∧ s.op ≠ 0 := by
  unfold St.closeW at *
  by_cases h1 : s.op = 0
  · rw [if_pos h1] at h'; cases h'
  · rw [if_neg h1] at *; exact ⟨rfl, h1⟩
theorem putW_goes' {s : St} {m : Nat} {g : Nat → Nat} (h' : (s.putW m g).e = 0) : Goes s (s.putW m g) := by
  obtain ⟨e, h⟩ := putW_goes h'
  rw [e]; exact .put m g h
theorem openW_goes' {s : St} {x : Nat} (h' : (s.openW x).e = 0) : Goes s (s.openW x) := by
  obtain ⟨e, h, ho⟩ := openW_goes h'
  rw [e]; exact .opened x h ho
theorem closeW_goes' {s : St} (h' : s.closeW.e = 0) : Goes s s.closeW := by
  obtain ⟨e, h⟩ := closeW_goes h'
  rw [e]; exact .closed h
theorem step_goes {s : St} {what n : Int} {len : Nat} {f : Nat → Nat} (h' : (s.step what n len f).e = 0) : Goes s (s.step what n len f) := by
  unfold St.step at *
  by_cases t0 : what = 0
  · rw [if_pos t0] at *; exact putW_goes' h'
  rw [if_neg t0] at *
  by_cases t1 : what = 1
  · rw [if_pos t1] at *; exact putW_goes' h'
  rw [if_neg t1] at *
  by_cases t2 : what = 2
  · rw [if_pos t2] at *; exact putW_goes' h'
  rw [if_neg t2] at *
  by_cases t3 : what = 3
  · rw [if_pos t3] at *; exact putW_goes' h'
  rw [if_neg t3] at *
  by_cases t4 : what = 4
  · rw [if_pos t4] at *; exact putW_goes' h'
  rw [if_neg t4] at *
  by_cases t5 : what = 5
  · rw [if_pos t5] at *; exact putW_goes' h'
  rw [if_neg t5] at *
  by_cases t6 : what = 6
  · rw [if_pos t6] at *; exact openW_goes' h'
  rw [if_neg t6] at *
  exact closeW_goes' h'
theorem Goes.good {s s' : St} (h : Goes s s') (hg : s.Good) : s'.Good := by
  cases h with
  | put m g h => exact ⟨hg.op, h, fun i hi => ⟨(hg.ps i hi).1, Nat.le_trans (hg.ps i hi).2 (Nat.le_add_right _ _)⟩⟩
  | opened x h ho =>
    refine ⟨by have := hg.op; show s.op + 1 ≤ 16; omega, h, fun i hi => ?_⟩
    show 4 ≤ upd s.ps s.op (s.n + 5) i ∧ upd s.ps s.op (s.n + 5) i ≤ s.n + 5
    have hi : i < s.op + 1 := hi
    unfold upd
    by_cases e : i = s.op
    · rw [if_pos e]; omega
    · rw [if_neg e]; have := hg.ps i (by omega); omega
  | closed ho => exact ⟨by have := hg.op; show s.op - 1 ≤ 16; omega, hg.n, fun i hi => hg.ps i (by have hi : i < s.op - 1 := hi; omega)⟩
theorem Goes.sep {s s' : St} (h : Goes s s') (hg : s.Good) (hs : s.Sep) : s'.Sep := by
  cases h with
  | put m g h => exact hs
  | opened x h ho =>
    intro i j hij hj
    have hj : j < s.op + 1 := hj
    show upd s.ps s.op (s.n + 5) i + 5 ≤ upd s.ps s.op (s.n + 5) j
    unfold upd
    rw [if_neg (by omega)]
    by_cases e : j = s.op
    · rw [if_pos e]; have := hg.ps i (by omega); omega
    · rw [if_neg e]; exact hs i j hij (by omega)
  | closed ho => exact fun i j hij hj => hs i j hij (by have hj : j < s.op - 1 := hj; omega)
theorem endOf_stable {F : Nat → Nat} {N q : Nat} {s : St} (hg : s.Good) (hs : s.Sep) (hq : s.op = q + 1) (hF : Fut F N (s.closeOk q)) : endOf F s q = s.n := by
  have hp := hg.ps q (by omega)
  have hn := hg.n
  have e : numN (shiftF (s.ps q - 4) F) 4 = numN (byteAt (s.n - s.ps q)) 4 := numN_congr fun i hi => by
    show F (s.ps q - 4 + i) = _
    have := hF.stable (s.ps q - 4 + i) (show s.ps q - 4 + i < s.n by omega) (fun j hj => by
      have hj : j < q := hj
      have := hs j q hj (by omega)
      show ¬ (s.ps j - 4 ≤ s.ps q - 4 + i ∧ s.ps q - 4 + i < s.ps j)
      omega)
    rw [this]
    show over s.f (s.ps q - 4) 4 (byteAt (s.n - s.ps q)) (s.ps q - 4 + i) = _
    unfold over
    rw [if_pos (by omega)]
    congr 1
    omega
  unfold endOf
  rw [e, numN_byteAt]
  have : (2 : Nat) ^ (8 * 4) = 4294967296 := by decide
  omega
theorem Fut.back {F : Nat → Nat} {N : Nat} {s s' : St} (h : Goes s s') (hg : s.Good) (hs : s.Sep) (hF : Fut F N s') : Fut F N s := by
  cases h with
  | put m g h =>
    refine ⟨Nat.le_trans (Nat.le_add_right _ _) hF.le, fun i hi hj => ?_, fun j hj => Nat.le_trans (Nat.le_add_right _ _) (hF.lo j hj), hF.hi, hF.mono⟩
    rw [hF.stable i (show i < s.n + m by omega) hj]
    exact if_pos hi
  | opened x h ho =>
    have hle : s.n + 5 ≤ N := hF.le
    have hps : ∀ j, j < s.op → endOf F (s.openOk x) j = endOf F s j := fun j hj => by
      unfold endOf
      have e : (s.openOk x).ps j = s.ps j := if_neg (by omega)
      rw [e]
    refine ⟨by omega, fun i hi hj => ?_, fun j hj => ?_, fun j hj => ?_, fun i j hij hj => ?_⟩
    · rw [hF.stable i (show i < s.n + 5 by omega) (fun j hj2 => ?_)]
      · exact if_pos hi
      · have hj2 : j < s.op + 1 := hj2
        show ¬ (upd s.ps s.op (s.n + 5) j - 4 ≤ i ∧ i < upd s.ps s.op (s.n + 5) j)
        unfold upd
        by_cases e : j = s.op
        · rw [if_pos e]; omega
        · rw [if_neg e]; exact hj j (by omega)
    · have := hF.lo j (show j < s.op + 1 by omega)
      rw [hps j hj] at this
      have : s.n + 5 ≤ endOf F s j := this
      omega
    · have := hF.hi j (show j < s.op + 1 by omega)
      rwa [hps j hj] at this
    · have := hF.mono i j hij (show j < s.op + 1 by omega)
      rwa [hps j hj, hps i (by omega)] at this
  | closed ho =>
    obtain ⟨q, hq⟩ : ∃ q, s.op = q + 1 := ⟨s.op - 1, by omega⟩
    rw [hq, Nat.add_sub_cancel] at hF
    have hE := endOf_stable hg hs hq hF
    have hp := hg.ps q (by omega)
    have hps : ∀ j, endOf F (s.closeOk q) j = endOf F s j := fun j => rfl
    have hle : s.n ≤ N := hF.le
    refine ⟨hle, fun i hi hj => ?_, fun j hj => ?_, fun j hj => ?_, fun i j hij hj => ?_⟩
    · rw [hF.stable i hi (fun j hj2 => hj j (by have hj2 : j < q := hj2; omega))]
      show over s.f (s.ps q - 4) 4 (byteAt (s.n - s.ps q)) i = _
      unfold over
      have := hj q (by omega)
      rw [if_neg (by omega)]
    · by_cases e : j = q
      · rw [e, hE]; exact Nat.le_refl _
      · exact hF.lo j (show j < q by omega)
    · by_cases e : j = q
      · rw [e, hE]; exact hle
      · exact hF.hi j (show j < q by omega)
    · by_cases e : j = q
      · rw [e, hE]
        by_cases e2 : i = q
        · rw [e2, hE]; exact Nat.le_refl _
        · exact hF.lo i (show i < q by omega)
      · exact hF.mono i j hij (show j < q by omega)
theorem Fut.end {s : St} (h : s.op = 0) : Fut s.f s.n s :=
  ⟨Nat.le_refl _, fun _ _ _ => rfl, fun j hj => absurd hj (by omega), fun j hj => absurd hj (by omega), fun i j _ hj => absurd hj (by omega)⟩
/-- A reader of the final bytes stands where the writer stood. -/
structure Sim (F : Nat → Nat) (N : Nat) (s : St) (r : RS) : Prop where
  n : r.n = N
  f : r.f = F
  at_ : r.at_ = s.n
  op : r.op = s.op
  ends : ∀ j, j < s.op → r.ends j = endOf F s j
theorem Sim.endN {F : Nat → Nat} {N : Nat} {s : St} {r : RS} (h : Sim F N s r) (hF : Fut F N s) : (s.op = 0 → r.endN = N) ∧ (∀ q, s.op = q + 1 → r.endN = endOf F s q) ∧ s.n ≤ r.endN := by
  have h1 : s.op = 0 → r.endN = N := fun e => by unfold RS.endN; rw [if_pos (by rw [h.op]; exact e), h.n]
  have h2 : ∀ q, s.op = q + 1 → r.endN = endOf F s q := fun q e => by
    unfold RS.endN
    rw [if_neg (by rw [h.op]; omega), h.op, e, Nat.add_sub_cancel, h.ends q (by omega)]
  refine ⟨h1, h2, ?_⟩
  by_cases e : s.op = 0
  · rw [h1 e]; exact hF.le
  · obtain ⟨q, hq⟩ : ∃ q, s.op = q + 1 := ⟨s.op - 1, by omega⟩
    rw [h2 q hq]
    exact hF.lo q (by omega)
/-- What was put is read. -/
theorem Sim.put {F : Nat → Nat} {N m : Nat} {g : Nat → Nat} {s : St} {r : RS} (h : Sim F N s r) (hF : Fut F N (s.put m g)) (hg : s.Good) (hf : Fut F N s) : m ≤ r.left ∧ (∀ i, i < m → shiftF r.at_ r.f i = g i) ∧ Sim F N (s.put m g) (r.adv m) := by
  refine ⟨?_, fun i hi => ?_, ⟨h.n, h.f, by show r.at_ + m = s.n + m; rw [h.at_], h.op, h.ends⟩⟩
  · have h3 := h.endN hf
    unfold RS.left
    rw [h.at_]
    by_cases e : s.op = 0
    · rw [h3.1 e]; have : s.n + m ≤ N := hF.le; omega
    · obtain ⟨q, hq⟩ : ∃ q, s.op = q + 1 := ⟨s.op - 1, by omega⟩
      rw [h3.2.1 q hq]
      have : s.n + m ≤ endOf F s q := hF.lo q (show q < s.op by omega)
      omega
  · rw [h.at_, h.f]
    show F (s.n + i) = _
    rw [hF.stable (s.n + i) (show s.n + i < s.n + m by omega) (fun j hj => by
      have := hg.ps j hj
      show ¬ (s.ps j - 4 ≤ s.n + i ∧ s.n + i < s.ps j)
      omega)]
    show (if s.n + i < s.n then s.f (s.n + i) else g (s.n + i - s.n)) = _
    rw [if_neg (by omega)]
    congr 1
    omega
theorem Sim.num {F : Nat → Nat} {N m x : Nat} {s : St} {r : RS} (h : Sim F N s r) (hF : Fut F N (s.put m (byteAt x))) (hg : s.Good) (hf : Fut F N s) (hx : x < 2 ^ (8 * m)) : m ≤ r.left ∧ r.num m = x ∧ Sim F N (s.put m (byteAt x)) (r.adv m) := by
  obtain ⟨h1, h2, h3⟩ := h.put hF hg hf
  refine ⟨h1, ?_, h3⟩
  unfold RS.num
  rw [numN_congr h2, numN_byteAt]
  exact Nat.mod_eq_of_lt hx
theorem Sim.close {F : Nat → Nat} {N : Nat} {s : St} {r : RS} (h : Sim F N s r) (hg : s.Good) (hs : s.Sep) (ho : s.op ≠ 0) (hF : Fut F N (s.closeOk (s.op - 1))) : r.closeE = 0 ∧ Sim F N (s.closeOk (s.op - 1)) r.closed := by
  have hf := hF.back (.closed ho) hg hs
  obtain ⟨q, hq⟩ : ∃ q, s.op = q + 1 := ⟨s.op - 1, by omega⟩
  rw [hq, Nat.add_sub_cancel] at hF ⊢
  have hE := endOf_stable hg hs hq hF
  have hl : r.left = 0 := by
    unfold RS.left
    rw [(h.endN hf).2.1 q hq, hE, h.at_]
    omega
  refine ⟨by unfold RS.closeE; rw [if_neg (by rw [h.op]; exact ho), hl]; rfl, ⟨h.n, h.f, h.at_, by show r.op - 1 = q; rw [h.op]; omega, fun j hj => h.ends j (by have hj : j < q := hj; omega)⟩⟩
theorem Sim.open {F : Nat → Nat} {N x : Nat} {s : St} {r : RS} (h : Sim F N s r) (hg : s.Good) (hs : s.Sep) (hn : s.n + 5 ≤ 16777216) (ho : s.op ≠ 16) (hF : Fut F N (s.openOk x)) : r.openE x = 0 ∧ Sim F N (s.openOk x) r.opened := by
  have hf := hF.back (.opened x hn ho) hg hs
  have hps : ∀ j, j < s.op → endOf F (s.openOk x) j = endOf F s j := fun j hj => by
    unfold endOf
    have e : (s.openOk x).ps j = s.ps j := if_neg (by omega)
    rw [e]
  have hpo : (s.openOk x).ps s.op = s.n + 5 := if_pos rfl
  have hEo : endOf F (s.openOk x) s.op = s.n + 5 + (r.adv 1).num 4 := by
    unfold endOf
    rw [hpo]
    unfold RS.num RS.adv
    dsimp only
    rw [h.at_, h.f]
    rfl
  have hend := h.endN hf
  have hlo := hF.lo s.op (show s.op < s.op + 1 by omega)
  have hhi := hF.hi s.op (show s.op < s.op + 1 by omega)
  rw [hEo] at hlo hhi
  generalize hX : (r.adv 1).num 4 = X at *
  have hlo : s.n + 5 ≤ s.n + 5 + X := hlo
  have hfit : s.n + 5 + X ≤ r.endN := by
    by_cases e : s.op = 0
    · rw [hend.1 e]; exact hhi
    · obtain ⟨q, hq⟩ : ∃ q, s.op = q + 1 := ⟨s.op - 1, by omega⟩
      rw [hend.2.1 q hq]
      have := hF.mono q s.op (by omega) (show s.op < s.op + 1 by omega)
      rw [hEo, hps q (by omega)] at this
      exact this
  have hleft : r.left = r.endN - s.n := by unfold RS.left; rw [h.at_]
  have htag : r.f r.at_ = x := by
    rw [h.f, h.at_, hF.stable s.n (show s.n < s.n + 5 by omega) (fun j hj => ?_)]
    · show (if s.n < s.n then s.f s.n else if s.n = s.n then x else 0) = x
      rw [if_neg (Nat.lt_irrefl _), if_pos rfl]
    · have hj : j < s.op + 1 := hj
      show ¬ (upd s.ps s.op (s.n + 5) j - 4 ≤ s.n ∧ s.n < upd s.ps s.op (s.n + 5) j)
      unfold upd
      by_cases e : j = s.op
      · rw [if_pos e]; omega
      · rw [if_neg e]; have := hg.ps j (by omega); omega
  refine ⟨?_, ⟨h.n, h.f, by show r.at_ + 5 = s.n + 5; rw [h.at_], by show r.op + 1 = s.op + 1; rw [h.op], fun j hj => ?_⟩⟩
  · unfold RS.openE
    rw [if_neg (by rw [h.op]; exact ho), if_neg (by rw [hleft]; omega), if_neg (by rw [htag]; exact fun e => e rfl), hX, if_neg (by rw [hleft]; omega)]
  · have hj : j < s.op + 1 := hj
    show upd r.ends r.op (r.at_ + 5 + (r.adv 1).num 4) j = _
    unfold upd
    rw [h.op]
    by_cases e : j = s.op
    · rw [if_pos e, e, hEo, hX, h.at_]
    · rw [if_neg e, hps j (by omega)]
      exact h.ends j (by omega)
/-- What a call to a reader must answer, if what was put is taken. -/
def Told (what n : Int) (len : Nat) (f : Nat → Nat) (T : Tk) : Prop :=
  T.E = 0 ∧ (what = 0 → T.N = n % 256) ∧ (what = 1 → T.N = n % 65536) ∧ (what = 2 → T.N = n % 4294967296) ∧ (what = 3 → T.N = n) ∧ (what = 4 → T.N = n % 2) ∧ (what = 5 → T.len = len ∧ ∀ i, i < len → T.g i = f i)
theorem stepN_sim {F : Nat → Nat} {N m x : Nat} {s : St} {r : RS} (h : Sim F N s r) (hg : s.Good) (hs : s.Sep) (he : (s.putW m (byteAt x)).e = 0) (hF : Fut F N (s.putW m (byteAt x))) (hx : x < 2 ^ (8 * m)) :
    (r.stepN m).E = 0 ∧ (r.stepN m).N = wrap64 (x : Nat) ∧ Sim F N (s.putW m (byteAt x)) (r.stepN m).s := by
  obtain ⟨e, hle⟩ := putW_goes he
  rw [e] at hF ⊢
  obtain ⟨h1, h2, h3⟩ := h.num hF hg (hF.back (.put m _ hle) hg hs) hx
  unfold RS.stepN
  rw [if_neg (by omega), h2]
  exact ⟨rfl, rfl, h3⟩
theorem wrap64_id {n : Int} (h : -9223372036854775808 ≤ n ∧ n ≤ 9223372036854775807) : wrap64 ((n % 18446744073709551616).toNat : Nat) = n := by unfold wrap64; omega
theorem Sim.step {F : Nat → Nat} {N : Nat} {s : St} {r : RS} {what n : Int} {len : Nat} {f : Nat → Nat} (h : Sim F N s r) (hg : s.Good) (hs : s.Sep) (hn : -9223372036854775808 ≤ n ∧ n ≤ 9223372036854775807) (hlen : len ≤ 140737488351232)
    (he : (s.step what n len f).e = 0) (hF : Fut F N (s.step what n len f)) :
    Told what n len f (r.step what (if what = 5 then (len : Int) else n)) ∧ Sim F N (s.step what n len f) (r.step what (if what = 5 then (len : Int) else n)).s := by
  have hgo := step_goes he
  have hf := hF.back hgo hg hs
  unfold Told
  unfold St.step at he hF ⊢
  unfold RS.step
  by_cases t0 : what = 0
  · subst t0
    have e0 : ((n % 256).toNat : Int) = n % 256 := by omega
    obtain ⟨a, b, c⟩ := stepN_sim (m := 1) (x := (n % 256).toNat) h hg hs he hF (by have : (2 : Nat) ^ (8 * 1) = 256 := by decide
                                                                                    omega)
    refine ⟨⟨a, fun _ => ?_, ?_⟩, c⟩
    · show (r.stepN 1).N = _
      rw [b]; unfold wrap64; omega
    · exact ⟨fun e => absurd e (by decide), fun e => absurd e (by decide), fun e => absurd e (by decide), fun e => absurd e (by decide), fun e => absurd e (by decide)⟩
  rw [if_neg t0] at he hF ⊢
  rw [if_neg t0]
  by_cases t1 : what = 1
  · subst t1
    obtain ⟨a, b, c⟩ := stepN_sim (m := 2) (x := (n % 65536).toNat) h hg hs he hF (by have : (2 : Nat) ^ (8 * 2) = 65536 := by decide
                                                                                      omega)
    refine ⟨⟨a, fun e => absurd e (by decide), fun _ => ?_, ?_⟩, c⟩
    · show (r.stepN 2).N = _
      rw [b]; unfold wrap64; omega
    · exact ⟨fun e => absurd e (by decide), fun e => absurd e (by decide), fun e => absurd e (by decide), fun e => absurd e (by decide)⟩
  rw [if_neg t1] at he hF ⊢
  rw [if_neg t1]
  by_cases t2 : what = 2
  · subst t2
    obtain ⟨a, b, c⟩ := stepN_sim (m := 4) (x := (n % 4294967296).toNat) h hg hs he hF (by have : (2 : Nat) ^ (8 * 4) = 4294967296 := by decide
                                                                                           omega)
    refine ⟨⟨a, fun e => absurd e (by decide), fun e => absurd e (by decide), fun _ => ?_, ?_⟩, c⟩
    · show (r.stepN 4).N = _
      rw [b]; unfold wrap64; omega
    · exact ⟨fun e => absurd e (by decide), fun e => absurd e (by decide), fun e => absurd e (by decide)⟩
  rw [if_neg t2] at he hF ⊢
  rw [if_neg t2]
  by_cases t3 : what = 3
  · subst t3
    obtain ⟨a, b, c⟩ := stepN_sim (m := 8) (x := (n % 18446744073709551616).toNat) h hg hs he hF (by have : (2 : Nat) ^ (8 * 8) = 18446744073709551616 := by decide
                                                                                                     omega)
    refine ⟨⟨a, fun e => absurd e (by decide), fun e => absurd e (by decide), fun e => absurd e (by decide), fun _ => ?_, ?_⟩, c⟩
    · show (r.stepN 8).N = _
      rw [b]; exact wrap64_id hn
    · exact ⟨fun e => absurd e (by decide), fun e => absurd e (by decide)⟩
  rw [if_neg t3] at he hF ⊢
  rw [if_neg t3]
  by_cases t4 : what = 4
  · subst t4
    obtain ⟨e, hle⟩ := putW_goes (m := 1) (g := byteAt (n % 2).toNat) he
    have hF' : Fut F N (s.put 1 (byteAt (n % 2).toNat)) := e ▸ hF
    obtain ⟨h1, h2, h3⟩ := h.num hF' hg hf (by have : (2 : Nat) ^ (8 * 1) = 256 := by decide
                                               omega)
    have hE : r.flagE = 0 := by
      unfold RS.flagE
      rw [if_neg (by omega), h2, if_neg (by omega)]
    have hc : ((4 : Int) = 5) = False := by decide
    simp only [if_true, hc, if_false, hE, h2]
    refine ⟨⟨by trivial, fun e => absurd e (by decide), fun e => absurd e (by decide), fun e => absurd e (by decide), fun e => absurd e (by decide), fun _ => by omega, fun e => absurd e (by decide)⟩, ?_⟩
    rw [e]; exact h3
  rw [if_neg t4] at he hF ⊢
  rw [if_neg t4]
  by_cases t5 : what = 5
  · subst t5
    obtain ⟨e, hle⟩ := putW_goes (m := 4 + len) (g := rowB len f) he
    have hF' : Fut F N (s.put (4 + len) (rowB len f)) := e ▸ hF
    obtain ⟨h1, h2, h3⟩ := h.put hF' hg hf
    have h4 : r.num 4 = len := by
      unfold RS.num
      rw [numN_congr (g := byteAt len) (fun i hi => by rw [h2 i (by omega)]; exact if_pos hi), numN_byteAt]
      have : (2 : Nat) ^ (8 * 4) = 4294967296 := by decide
      omega
    have hE : r.bytesE len = 0 := by
      unfold RS.bytesE
      rw [if_neg (by omega), h4, if_neg (by omega), if_neg (by omega)]
    simp only [if_true, hE, h4]
    refine ⟨⟨by trivial, fun e => absurd e (by decide), fun e => absurd e (by decide), fun e => absurd e (by decide), fun e => absurd e (by decide), fun e => absurd e (by decide), fun _ => ⟨by trivial, fun i hi => ?_⟩⟩, ?_⟩
    · show r.f (r.at_ + 4 + i) = f i
      have := h2 (4 + i) (by omega)
      have e2 : shiftF r.at_ r.f (4 + i) = r.f (r.at_ + 4 + i) := by unfold shiftF; congr 1; omega
      rw [e2] at this
      rw [this]
      unfold rowB
      rw [if_neg (by omega)]
      congr 1
      omega
    · have e2 : St.putW s (4 + len) (rowB len f) = s.put (4 + len) (rowB len f) := e
      rw [e2]
      have e3 : r.bytesS = r.adv (4 + len) := by
        unfold RS.bytesS RS.adv
        show ({ r with at_ := r.at_ + 4 + r.num 4 } : RS) = _
        rw [h4, Nat.add_assoc]
      rw [e3]; exact h3
  rw [if_neg t5] at he hF ⊢
  rw [if_neg t5]
  simp only [if_neg t5]
  by_cases t6 : what = 6
  · subst t6
    obtain ⟨e, hle, ho⟩ := openW_goes (x := (n % 256).toNat) he
    have hF' : Fut F N (s.openOk (n % 256).toNat) := e ▸ hF
    obtain ⟨h1, h2⟩ := h.open hg hs hle ho hF'
    simp only [if_true, h1]
    refine ⟨⟨by trivial, fun e => absurd e (by decide), fun e => absurd e (by decide), fun e => absurd e (by decide), fun e => absurd e (by decide), fun e => absurd e (by decide), fun e => absurd e (by decide)⟩, ?_⟩
    have e2 : St.openW s (n % 256).toNat = s.openOk (n % 256).toNat := e
    rw [e2]; exact h2
  rw [if_neg t6] at he hF ⊢
  rw [if_neg t6]
  obtain ⟨e, ho⟩ := closeW_goes he
  rw [e] at hF ⊢
  obtain ⟨h1, h2⟩ := h.close hg hs ho hF
  simp only [if_true, h1]
  exact ⟨⟨by trivial, fun e => absurd e t0, fun e => absurd e t1, fun e => absurd e t2, fun e => absurd e t3, fun e => absurd e t4, fun e => absurd e t5⟩, h2⟩
def openI (what : Int) (op : Nat) : Int := if what = 6 then (op : Int) + 1 else if 6 < what ∨ what < 0 then (op : Int) - 1 else op
theorem putW_ok {s : St} {m len : Nat} {g : Nat → Nat} (he : s.e = 0) (hm : m ≤ 13 + len) (hn : s.n + (13 + len) ≤ 16777216) : (s.putW m g).e = 0 ∧ ((s.putW m g).op : Int) = s.op ∧ (s.putW m g).n ≤ s.n + (13 + len) := by
  unfold St.putW
  rw [if_neg (by omega)]
  exact ⟨he, rfl, by show s.n + m ≤ _; omega⟩
theorem step_ok {s : St} {what n : Int} {len : Nat} {f : Nat → Nat} (he : s.e = 0) (h1 : 0 ≤ openI what s.op) (h2 : openI what s.op ≤ 16) (hn : s.n + (13 + len) ≤ 16777216) :
    (s.step what n len f).e = 0 ∧ ((s.step what n len f).op : Int) = openI what s.op ∧ (s.step what n len f).n ≤ s.n + (13 + len) := by
  unfold St.step
  unfold openI at *
  by_cases t0 : what = 0
  · subst t0; exact putW_ok he (by omega) hn
  by_cases t1 : what = 1
  · subst t1; exact putW_ok he (by omega) hn
  by_cases t2 : what = 2
  · subst t2; exact putW_ok he (by omega) hn
  by_cases t3 : what = 3
  · subst t3; exact putW_ok he (by omega) hn
  by_cases t4 : what = 4
  · subst t4; exact putW_ok he (by omega) hn
  by_cases t5 : what = 5
  · subst t5; exact putW_ok he (by omega) hn
  rw [if_neg t0, if_neg t1, if_neg t2, if_neg t3, if_neg t4, if_neg t5]
  by_cases t6 : what = 6
  · rw [if_pos t6] at *
    rw [if_pos t6]
    unfold St.openW
    rw [if_neg (by omega), if_neg (by omega)]
    refine ⟨he, ?_, ?_⟩
    · show ((s.op + 1 : Nat) : Int) = _
      omega
    · show s.n + 5 ≤ _
      omega
  · have hw : 6 < what ∨ what < 0 := by omega
    rw [if_neg t6, if_pos hw] at *
    rw [if_neg t6]
    unfold St.closeW
    rw [if_neg (by omega)]
    refine ⟨he, ?_, Nat.le_add_right _ _⟩
    show ((s.op - 1 : Nat) : Int) = _
    omega
/-- A writer behind k calls of a script. -/
def runS (sf : Nat → Pt) : Nat → St
  | 0 => ⟨0, fun _ => 0, fun _ => 0, 0, 0⟩
  | k + 1 => (runS sf k).step (sf k).what (sf k).n (sf k).len (sf k).f
/-- Behind i closings. -/
def closeS (s : St) : Nat → St
  | 0 => s
  | i + 1 => (closeS s i).closeW
theorem run_good {sf : Nat → Pt} {m : Nat} (h : ∀ j, j ≤ m → (runS sf j).e = 0) : ∀ k, k ≤ m → (runS sf k).Good ∧ (runS sf k).Sep
  | 0, _ => ⟨⟨Nat.zero_le _, Nat.zero_le _, fun i hi => absurd hi (Nat.not_lt_zero _)⟩, fun i j _ hj => absurd hj (Nat.not_lt_zero _)⟩
  | k + 1, hk => by
    obtain ⟨h1, h2⟩ := run_good h k (by omega)
    have hgo : Goes (runS sf k) (runS sf (k + 1)) := step_goes (h (k + 1) hk)
    exact ⟨hgo.good h1, hgo.sep h1 h2⟩
theorem close_goes {s : St} (hg : s.Good) (hs : s.Sep) (he : s.e = 0) : ∀ i, i ≤ s.op → (closeS s i).e = 0 ∧ (closeS s i).op = s.op - i ∧ (closeS s i).Good ∧ (closeS s i).Sep ∧ (closeS s i).n = s.n
  | 0, _ => ⟨he, rfl, hg, hs, rfl⟩
  | i + 1, hi => by
    obtain ⟨h1, h2, h3, h4, h5⟩ := close_goes hg hs he i (by omega)
    have e : closeS s (i + 1) = (closeS s i).closeOk ((closeS s i).op - 1) := if_neg (by omega)
    have hgo : Goes (closeS s i) ((closeS s i).closeOk ((closeS s i).op - 1)) := .closed (by omega)
    rw [e]
    exact ⟨h1, by show (closeS s i).op - 1 = _; omega, hgo.good h3, hgo.sep h3 h4, h5⟩
theorem fut_close {s : St} (hg : s.Good) (hs : s.Sep) (he : s.e = 0) : ∀ i, i ≤ s.op → Fut (closeS s s.op).f (closeS s s.op).n (closeS s (s.op - i))
  | 0, _ => by
    rw [Nat.sub_zero]
    exact Fut.end (by have := (close_goes hg hs he s.op (Nat.le_refl _)).2.1; omega)
  | i + 1, hi => by
    have ih := fut_close hg hs he i (by omega)
    obtain ⟨h1, h2, h3, h4, h5⟩ := close_goes hg hs he (s.op - (i + 1)) (by omega)
    have e0 : s.op - i = (s.op - (i + 1)) + 1 := by omega
    rw [e0] at ih
    have e : closeS s (s.op - (i + 1) + 1) = (closeS s (s.op - (i + 1))).closeOk ((closeS s (s.op - (i + 1))).op - 1) := if_neg (by omega)
    rw [e] at ih
    exact ih.back (.closed (by omega)) h3 h4
theorem fut_run {sf : Nat → Pt} {F : Nat → Nat} {N m : Nat} (h : ∀ j, j ≤ m → (runS sf j).e = 0) (hF : Fut F N (runS sf m)) : ∀ i, i ≤ m → Fut F N (runS sf (m - i))
  | 0, _ => hF
  | i + 1, hi => by
    have ih := fut_run h hF i (by omega)
    have e0 : m - i = (m - (i + 1)) + 1 := by omega
    rw [e0] at ih
    obtain ⟨h1, h2⟩ := run_good h (m - (i + 1)) (by omega)
    have hgo : Goes (runS sf (m - (i + 1))) (runS sf (m - (i + 1) + 1)) := step_goes (h (m - (i + 1) + 1) (by omega))
    exact ih.back hgo h1 h2
theorem Sim.start {F : Nat → Nat} {N : Nat} (sf : Nat → Pt) : Sim F N (runS sf 0) ⟨N, F, 0, 0, fun _ => 0⟩ := ⟨rfl, rfl, rfl, rfl, fun j hj => absurd hj (Nat.not_lt_zero _)⟩
theorem Sim.done {F : Nat → Nat} {s : St} {r : RS} (h : Sim F s.n s r) (ho : s.op = 0) : r.doneE = 0 ∧ r.left = 0 := by
  have hl : r.left = 0 := by
    unfold RS.left RS.endN
    rw [if_pos (by rw [h.op]; exact ho), h.n, h.at_, Nat.sub_self]
  refine ⟨?_, hl⟩
  unfold RS.doneE
  rw [if_neg (by rw [h.op]; omega), hl]
  rfl
end Go.Proofs.Ytacnmnodbmbplaa
