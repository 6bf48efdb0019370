/-
  A region that draws its order, within a round of a range over a function, one condition held.
-/
import Derived.Test.YtekjcgckniopdaaBDal
import Derived.Deep.RegionHeld3
import Derived.Lib.QuietBelowIn
import Derived.Sort.BigQuietIn
namespace Go.Proofs.Ytekjcgckniopdaa
open Go.RowKit Go.Shelf Go.Sort
attribute [local go_sem] Oper.semAt_some
set_option maxRecDepth 100000
set_option maxHeartbeats 2000000
set_option linter.unusedVariables false
set_option linter.unusedSimpArgs false

def noDefer (o : Oper) : Bool := match o.op with | .defer _ => false | .call c => (match c.callee with | .value _ => true | .builtin _ => true | _ => false) | _ => true
theorem noDefer_spec {o : Oper} (h : noDefer o = true) (c : Call) : o.op ≠ .defer c := by
  intro e
  unfold noDefer at h
  rw [e] at h
  cases h
theorem wpOpIn_round {F : Fence} {n : Nat} {P : Program} {ops : Array Oper} {Q : Exit → Act → World → Prop} {l i : Nat} {K K' : Act → World → Prop} {a : Act} {w : World}
    (hd : ∀ (i : Nat) (o : Oper), ops[i]? = some o → noDefer o = true) (hK : ∀ a w, K a w → K' a w) (h : wpOpIn F n P ops Q i K a w) : wpOpIn (F.inRound l) n P ops Q i K' a w := by
  have h' := wpOpIn_mono hK h
  clear h
  unfold wpOpIn at h' ⊢
  cases ho : ops[i]? with
  | none => simpa [ho] using h'
  | some o =>
    simp only [ho] at h' ⊢
    split
    · rename_i hw
      rw [if_pos hw] at h'
      unfold Oper.wpIn at h' ⊢
      rw [Oper.semAt_eq _ _ _ (noDefer_spec (hd i o ho))] at h' ⊢
      exact h'
    · rename_i hw
      rw [if_neg hw] at h'
      exact h'
theorem wpAnyIn_round {F : Fence} {n : Nat} {P : Program} {md : Region.Mode} {ops : Array Oper} {Q : Exit → Act → World → Prop} {l : Nat} (hd : ∀ (i : Nat) (o : Oper), ops[i]? = some o → noDefer o = true) :
    ∀ (fuel : Nat) (listed : Array Bool) (a : Act) (w : World), wpAnyIn F n P md ops Q fuel listed a w → wpAnyIn (F.inRound l) n P md ops Q fuel listed a w
  | 0, _, _, _, h => h
  | fuel + 1, _, _, _, h => ⟨h.1, fun i hi => wpOpIn_round hd (fun a w => wpAnyIn_round hd fuel _ a w) (h.2 i hi)⟩
theorem rowsIn_wide {n : Nat} {P : Program} {row : String} {args : Array Value} {w : World} {R : Value → World → Prop} (h : Rows P row args w R) : RowsIn Fence.wide n P row args w R := by
  exact fun c cs _ => let ⟨v, w', r, s⟩ := h c cs; ⟨v, w', r, stepsIn_wide.2 s⟩
theorem operIn_wide {n : Nat} {P : Program} {o : Oper} {Q : Exit → Act → World → Prop} {K K' : Act → World → Prop} {a : Act} {w : World} (hK : ∀ a w, K a w → K' a w) (h : o.wp P a w K Q) : o.wpIn Fence.wide n P a w K' Q := by
  refine ⟨fun _ _ => trivial, ?_⟩
  unfold Oper.wp at h
  show o.uponIn Fence.wide n P a K' Q ((execOp a.eval o).run P w)
  generalize (execOp a.eval o).run P w = r at *
  cases r with
  | ok x w' =>
    cases x with
    | enter f args =>
      refine ⟨fun h => (by cases h), callsIn_wide.2 (Calls.mono h ?_)⟩
      intro e w'' h
      cases e with
      | returned v => exact hK _ _ h
      | panicked c => exact h
      | outgrown => exact h
    | value u => exact hK _ _ h
    | skip => exact hK _ _ h
    | defer d => exact hK _ _ h
    | row r args => exact ⟨fun h => (by cases h), rowsIn_wide (Rows.mono h (fun v w'' h => hK _ _ h))⟩
    | _ => exact h.elim
  | halt s w' =>
    cases s with
    | panic v => exact h
    | _ => exact h.elim
theorem wpAnyIn_wide {n : Nat} {P : Program} {md : Region.Mode} {ops : Array Oper} {Q : Exit → Act → World → Prop} (hL : ¬ LetsOut Q) :
    ∀ (fuel : Nat) (listed : Array Bool) (a : Act) (w : World), wpAny P md ops Q fuel listed a w → wpAnyIn Fence.wide n P md ops Q fuel listed a w
  | 0, _, _, _, h => h
  | fuel + 1, _, _, _, h => ⟨h.1, fun i hi => by
    have h' := h.2 i hi
    unfold wpOp at h'
    unfold wpOpIn
    cases ho : ops[i]? with
    | none => rw [ho] at h'; exact wpAnyIn_wide hL fuel _ _ _ h'
    | some o =>
      simp only [ho] at h' ⊢
      split
      · rename_i hw
        rw [if_pos hw] at h'
        rcases h' with h' | h'
        · exact operIn_wide (fun a w => wpAnyIn_wide hL fuel _ a w) h'
        · exact (hL h'.2).elim
      · rename_i hw
        rw [if_neg hw] at h'
        exact ⟨fun _ _ => trivial, wpAnyIn_wide hL fuel _ _ _ h'⟩⟩
/-- Behind a region that only goes on. -/
def OnlyN (K : Act → World → Prop) : Exit → Act → World → Prop
  | .normal, a, w => K a w
  | _, _, _ => False
/-- A region that draws its order, within a round, one condition held. -/
theorem wpIn_region_held_round {n : Nat} {P : Program} {id li : Nat} {Q : Exit → Act → World → Prop} {a : Act} {w : World} {l : List Oper} (S : World → Prop) (hm : P.follows .mixedOrders = true) (hd : l.all noDefer = true) (hS : S w.drew)
    (h : S w.drew → wpAnyH P .any l.toArray (OnlyN (Q .normal)) S l.toArray.size (Array.replicate l.toArray.size false) a w.drew) : (Code.region id l.toArray true).wpIn (Fence.wide.inRound li) n P Q a w :=
  wpIn_mono (wpIn_region_any (Q := OnlyN (Q .normal)) hm (wpAnyIn_round (F := Fence.wide) (fun i o hi => by
    rw [List.getElem?_toArray] at hi
    exact List.all_eq_true.1 hd o (List.mem_of_getElem? hi)) _ _ _ _ (wpAnyIn_wide (fun ⟨_, _, h⟩ => h) _ _ _ _ (wpAny_of_held _ _ _ _ (h hS))))) (fun e a w h => by cases e <;> first | exact h | exact (h : False).elim)
end Go.Proofs.Ytekjcgckniopdaa
