/-
  A cartridge's bytes, by the document.
-/
import Derived.Test.YtggjaoihfhianaaRMay
namespace Go.Proofs.Ytggjaoihfhianaa
open Go.RowKit Go.Shelf
set_option maxRecDepth 100000
set_option maxHeartbeats 4000000

theorem overL_take (f : Nat → Nat) (p : Nat) (L : List Nat) (k : Nat) (h : k < L.length) : upd (overL f p (L.take k)) (p + k) (L.getD k 0) = overL f p (L.take (k + 1)) := by
  funext j
  unfold upd overL
  rw [List.length_take, List.length_take, Nat.min_eq_left (by omega), Nat.min_eq_left (by omega)]
  by_cases e : j = p + k
  · subst e
    rw [if_pos rfl, if_pos (by omega), Nat.add_sub_cancel_left, List.getD_eq_getElem?_getD, List.getD_eq_getElem?_getD, List.getElem?_take_of_lt (by omega)]
  · rw [if_neg e]
    by_cases h1 : p ≤ j ∧ j < p + k
    · rw [if_pos h1, if_pos (by omega), List.getD_eq_getElem?_getD, List.getD_eq_getElem?_getD, List.getElem?_take_of_lt (by omega), List.getElem?_take_of_lt (by omega)]
    · rw [if_neg h1, if_neg (by omega)]
theorem overL_zero (f : Nat → Nat) (p m : Nat) : upd (overL f p (List.replicate m 0)) (p + m) 0 = overL f p (List.replicate (m + 1) 0) := by
  funext j
  have hz : ∀ (m i : Nat), (List.replicate m 0).getD i 0 = 0 := fun m i => by
    rw [List.getD_eq_getElem?_getD, List.getElem?_replicate]
    split <;> rfl
  unfold upd overL
  simp only [hz, List.length_replicate]
  by_cases e : j = p + m
  · subst e
    rw [if_pos rfl, if_pos (by omega)]
  · rw [if_neg e]
    by_cases h1 : p ≤ j ∧ j < p + m
    · rw [if_pos h1, if_pos (by omega)]
    · rw [if_neg h1, if_neg (by omega)]
theorem base_eq (f : Nat → Nat) (p : Nat) (L : List Nat) (hL : L.length = 21) : overL (overL f p (List.replicate 32 0)) p L = overL (overL f p L) (p + 21) (List.replicate 11 0) := by
  funext j
  have hz : ∀ (m i : Nat), (List.replicate m 0).getD i 0 = 0 := fun m i => by
    rw [List.getD_eq_getElem?_getD, List.getElem?_replicate]
    split <;> rfl
  unfold overL
  simp only [hz, List.length_replicate, hL]
  by_cases h1 : p ≤ j ∧ j < p + 21
  · rw [if_pos h1, if_neg (by omega), if_pos h1]
  · rw [if_neg h1, if_neg h1]
    by_cases h2 : p + 21 ≤ j ∧ j < p + 21 + 11
    · rw [if_pos h2, if_pos (by omega)]
    · rw [if_neg h2, if_neg (by omega)]
/-- By the document: the mode laid, then the kind. -/
def kindF (g : Nat → Nat) (p c : Nat) : Nat → Nat := if c = 1 then upd g (p + 22) 3 else if c = 2 then upd g (p + 22) 51 else g
theorem kindF_eq (g : Nat → Nat) (p c : Nat) (h : g (p + 22) = 0) : kindF g p c = upd g (p + 22) (kindN c) := by
  unfold kindF kindN
  split
  · rfl
  split
  · rfl
  · funext j
    unfold upd
    split
    · rename_i e
      rw [e, h]
    · rfl
def refF (f : Nat → Nat) (p l c : Nat) (ram : Int) (t : ByteArray) (z : Nat) (fast : Bool) : Nat → Nat :=
  upd (upd (upd (kindF (upd (overL (overL f p (titleL t)) (p + 21) (List.replicate 11 0)) (p + 21) (modeN l fast)) p c) (p + 24) (sizeN ram)) (p + 60) (z % 256)) (p + 61) (z / 256)
theorem refF_eq (f : Nat → Nat) (p l c : Nat) (ram : Int) (t : ByteArray) (z : Nat) (fast : Bool) (ht : t.size ≤ 21) : refF f p l c ram t z fast = layF f p l c ram t z fast := by
  unfold refF layF
  rw [base_eq f p (titleL t) (titleL_len t ht), kindF_eq]
  have hz : ∀ (m i : Nat), (List.replicate m 0).getD i 0 = 0 := fun m i => by
    rw [List.getD_eq_getElem?_getD, List.getElem?_replicate]
    split <;> rfl
  unfold upd overL
  rw [if_neg (by omega), if_pos (by simp only [List.length_replicate]; omega)]
  exact hz _ _
end Go.Proofs.Ytggjaoihfhianaa
