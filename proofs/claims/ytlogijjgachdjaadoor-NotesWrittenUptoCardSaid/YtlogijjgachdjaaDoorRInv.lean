/-
  The document's Of: what its drawn region does in whatever order, by an invariant.
-/
import Derived.Test.YtlogijjgachdjaaDoorRFind
import Derived.Deep.RegionWith
namespace Go.Proofs.YtlogijjgachdjaaDoor
open Go.RowKit
set_option maxRecDepth 1000000
set_option maxHeartbeats 4000000
set_option linter.unusedVariables false

/-- What holds at the start, is kept by whatever may come up, and says the end when nothing is left, shows the region. -/
theorem wpAny_inv {P : Program} {ops : Array Oper} {Q : Exit → Act → World → Prop} {md : Region.Mode} (Inv : Array Bool → Act → World → Prop)
    (hstep : ∀ listed a w i, Inv listed a w → i ∈ Region.ready md ops listed → wpOp P ops Q i (fun a' w' => Inv (listed.setIfInBounds i true) a' w') a w)
    (hend : ∀ listed a w, Inv listed a w → Region.ready md ops listed = [] → Q .normal a w) :
    ∀ (fuel : Nat) (listed : Array Bool) (a : Act) (w : World), listed.toList.countP (fun b => !b) ≤ fuel → Inv listed a w → wpAny P md ops Q fuel listed a w
  | 0, listed, a, w, hc, h => by
    have hr : Region.ready md ops listed = [] := by
      cases hl : Region.ready md ops listed with
      | nil => rfl
      | cons i l =>
        exfalso
        obtain ⟨h1, _⟩ := mem_ready.1 (show i ∈ Region.ready md ops listed by rw [hl]; exact List.mem_cons_self)
        have hlt : i < listed.size := by
          rcases Nat.lt_or_ge i listed.size with h2 | h2
          · exact h2
          · simp [Array.getElem?_eq_none h2] at h1
        have h3 : listed[i] = false := by simpa [hlt] using h1
        have : 0 < listed.toList.countP (fun b => !b) := List.countP_pos_iff.2 ⟨listed[i], by simp, by rw [h3]; rfl⟩
        omega
    exact ⟨hr, hend listed a w h hr⟩
  | fuel + 1, listed, a, w, hc, h => by
    refine ⟨fun hr => hend listed a w h hr, fun i hi => wpOp_mono (fun a' w' h' => wpAny_inv Inv hstep hend fuel _ a' w' ?_ h') (hstep listed a w i h hi)⟩
    obtain ⟨h1, _⟩ := mem_ready.1 hi
    have hlt : i < listed.size := by
      rcases Nat.lt_or_ge i listed.size with h2 | h2
      · exact h2
      · simp [Array.getElem?_eq_none h2] at h1
    have h3 : listed[i] = false := by simpa [hlt] using h1
    have h4 : 0 < listed.toList.countP (fun b => !b) := List.countP_pos_iff.2 ⟨listed[i], by simp, by rw [h3]; rfl⟩
    have h5 : listed.toList[i]'(by simpa using hlt) = false := by rw [Array.getElem_toList]; exact h3
    rw [Array.toList_setIfInBounds, List.countP_set (by simpa using hlt), h5]
    simp only [Bool.not_false, Bool.not_true, if_true, Bool.false_eq_true, if_false]
    omega
theorem whole_apart {w : World} {b g : Nat} {t u : TypeId} {xs ys : Array Value} (h : Whole w b t xs) (k : Whole w g u ys) (hne : t ≠ u) : b ≠ g := by
  intro e
  subst e
  have := Option.some.inj (h.symm.trans k)
  injection this with _ h2
  exact hne h2
def RI (c X cy : Nat) (nm fm : ByteArray) (A1 A2 A3 : Array Value) (w0 : World) (listed : Array Bool) (a : Act) (w : World) : Prop :=
  listed.size = 16 ∧ ∃ t3 t5 t6 t7 t8 t9 t10 t11 t12 t13 t14 t15 t16 t17 t18 : Value, a = { tmps := #[.int .u8 c, undef, .pointer (some ⟨X, 0, none⟩), t3, undef, t5, t6, t7, t8, t9, t10, t11, t12, t13, t14, t15, t16, t17, t18, undef, undef, undef, undef, undef, undef, undef, undef, undef, undef, undef, undef, undef, undef, undef, undef, undef], defers := [] } ∧ Whole w X 25 #[.int .u8 0, .string ⟨#[]⟩, .string ⟨#[]⟩, .int .i64 0, .int .i64 0] ∧ Below X w0 w ∧
    (listed.getD 0 false = true → t5 = .int .u8 c) ∧
    (listed.getD 1 false = true → ∃ B, t6 = .slice (some ⟨B, 0, none⟩) 256 256 ∧ Whole w B 9 A1) ∧
    (listed.getD 2 false = true → t7 = .int .u8 c) ∧
    (listed.getD 3 false = true → ∃ B, t8 = .pointer (some ⟨B, c, none⟩) ∧ Whole w B 9 A1) ∧
    (listed.getD 4 false = true → t9 = .string nm) ∧
    (listed.getD 5 false = true → ∃ B, t10 = .slice (some ⟨B, 0, none⟩) 256 256 ∧ Whole w B 9 A2) ∧
    (listed.getD 6 false = true → t11 = .int .u8 c) ∧
    (listed.getD 7 false = true → ∃ B, t12 = .pointer (some ⟨B, c, none⟩) ∧ Whole w B 9 A2) ∧
    (listed.getD 8 false = true → t13 = .string fm) ∧
    (listed.getD 9 false = true → ∃ B, t14 = .slice (some ⟨B, 0, none⟩) 256 256 ∧ Whole w B 3 A3) ∧
    (listed.getD 10 false = true → t15 = .int .u8 c) ∧
    (listed.getD 11 false = true → ∃ B, t16 = .pointer (some ⟨B, c, none⟩) ∧ Whole w B 3 A3) ∧
    (listed.getD 12 false = true → t17 = .int .i64 cy) ∧
    (listed.getD 13 false = true → t18 = .agg #[.int .u8 c, .string nm, .string fm, .int .i64 1, .int .i64 cy]) ∧
    (listed.getD 14 false = true → ∃ B v0 v1 v2 v3 v4, X < B ∧ t3 = .pointer (some ⟨B, 0, none⟩) ∧ Whole w B 25 #[v0, v1, v2, v3, v4]) ∧
    (listed.getD 15 false = true → listed.getD 14 false = true ∧ ∃ B, X < B ∧ t3 = .pointer (some ⟨B, 0, none⟩) ∧ Whole w B 25 #[.int .u8 c, .string nm, .string fm, .int .i64 1, .int .i64 cy])
theorem not_listed {listed : Array Bool} {i : Nat} (h : listed.getD i true = false) : listed.getD i false = false := by
  rcases Nat.lt_or_ge i listed.size with h' | h'
  · simp [h'] at h ⊢; exact h
  · simp [Array.getElem?_eq_none h'] at h
theorem rfm_len (c : Nat) : (fmF c).size = (fmL c).length := bsOf_size _
theorem rfm_byte (c k : Nat) (hc : c < 256) (h : k < (fmF c).size) : (fmF c)[k].toNat = (fmL c).getD k 0 ∧ (fmL c).getD k 0 < 128 := by
  have hl := rfm_len c
  have h2 : (fmL c).getD k 0 < 128 := by rw [List.getD_eq_getElem?_getD, List.getElem?_eq_getElem (by omega)]; exact (fm_all c hc).1 _ (List.getElem_mem _)
  exact ⟨bsOf_byte (fmL c) k h (by omega), h2⟩
theorem repl_no {m j : Nat} {p : Prop} (h : (Array.replicate m false).getD j false = true) : p := by
  exfalso
  rcases Nat.lt_or_ge j m with h' | h'
  · simp [h'] at h
  · simp [h'] at h
/-- Nothing may come up any more: so what waits for none that is left has come up. -/
theorem all_listed {ops : Array Oper} {listed : Array Bool} (hr : Region.ready .any ops listed = []) (hsz : listed.size = ops.size) {i : Nat} {o : Oper} (ho : ops[i]? = some o) (hd : ∀ e ∈ o.after, listed.getD e.on false = true) : listed.getD i false = true := by
  have hlt : i < listed.size := by rw [hsz]; exact (Array.getElem?_eq_some_iff.1 ho).1
  cases h : listed.getD i true with
  | true => simpa [hlt] using h
  | false =>
    have := (mem_ready (md := .any)).2 ⟨h, o, ho, fun e he _ => hd e he⟩
    rw [hr] at this
    cases this
theorem away5 {W : World} {B B14 : Nat} {t : TypeId} {cs : Array Value} (h : Whole W B t cs) (hne : B ≠ B14) (u0 u1 u2 u3 u4 : Value) :
    Whole (((((W.setCell ⟨B14, 0, none⟩ u0).setCell ⟨B14, 1, none⟩ u1).setCell ⟨B14, 2, none⟩ u2).setCell ⟨B14, 3, none⟩ u3).setCell ⟨B14, 4, none⟩ u4) B t cs :=
  ((((h.away (p := ⟨B14, 0, none⟩) hne u0).away (p := ⟨B14, 1, none⟩) hne u1).away (p := ⟨B14, 2, none⟩) hne u2).away (p := ⟨B14, 3, none⟩) hne u3).away (p := ⟨B14, 4, none⟩) hne u4
theorem put5 {W : World} {B14 : Nat} {v0 v1 v2 v3 v4 : Value} (h : Whole W B14 25 #[v0, v1, v2, v3, v4]) (u0 u1 u2 u3 u4 : Value) :
    Whole (((((W.setCell ⟨B14, 0, none⟩ u0).setCell ⟨B14, 1, none⟩ u1).setCell ⟨B14, 2, none⟩ u2).setCell ⟨B14, 3, none⟩ u3).setCell ⟨B14, 4, none⟩ u4) B14 25 #[u0, u1, u2, u3, u4] :=
  ((((h.put 0 u0).put 1 u1).put 2 u2).put 3 u3).put 4 u4
theorem keep_at {listed : Array Bool} {i j : Nat} (hij : i ≠ j) (h : (listed.setIfInBounds i true).getD j false = true) : listed.getD j false = true := by rwa [getD_set_ne false hij] at h
end Go.Proofs.YtlogijjgachdjaaDoor
