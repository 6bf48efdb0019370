/-
  What List by the code calls, at each place of its bytes.
-/
import Derived.Test.YtlogijjgachdjaaDoorLstF
import Derived.Test.YtlogijjgachdjaaDoorTxt
namespace Go.Proofs.YtlogijjgachdjaaDoor
open Go.RowKit
set_option maxRecDepth 100000
set_option maxHeartbeats 4000000
set_option linter.unusedVariables false

theorem Wrs.kept {W W' : World} {mb : Nat} (h : Wrs W mb) (hb : Below W.heap.size W W') : Wrs W' mb :=
  ⟨let ⟨D, h1, h2⟩ := h.at_; ⟨D, h1.kept (grown_of_below hb none) (by simp), h2.mono (grown_of_below hb _)⟩⟩
theorem own_below {w w' : World} {B : Nat} {e : TypeId} {sz : Nat} {v : Value} {n : Nat} {xs : List Value} (h : w.ownsRow B e sz v n xs) (hb : Below w.heap.size w w') : w'.ownsRow B e sz v n xs :=
  h.kept (grown_of_below hb none) (by cases v.ownBlock <;> simp)
theorem own_set {w : World} {B : Nat} {e : TypeId} {sz : Nat} {v : Value} {n : Nat} {xs : List Value} (h : w.ownsRow B e sz v n xs) (Y i : Nat) (x : Value) (hne : v.ownBlock ≠ some Y) : (w.setCell ⟨Y, i, none⟩ x).ownsRow B e sz v n xs :=
  have hb := (Below.refl 0 w).setCell (p := ⟨Y, i, none⟩) (Nat.zero_le _) x
  h.kept (row := some Y) ⟨hb.os, hb.tape, hb.output, hb.size, fun k hk hk2 => Below.heap_setCell w ⟨Y, i, none⟩ x k (fun e => hk2 (by rw [e]))⟩ (.inr hne)
theorem whole_grown {w w' : World} {row : Option Nat} {Y : Nat} {t : TypeId} {cs : Array Value} (h : Whole w Y t cs) (hg : w.grownBy w' row) (hne : some Y ≠ row) : Whole w' Y t cs :=
  (hg.block Y h.lt hne).trans h
theorem firstk_any (g o n cap : Nat) (f : Nat → Nat) (W1 : World) (hg : g < W1.heap.size) (hb : ∀ i, i < n → f i < 256) (hc : ∀ i, i < n → W1.cell? ⟨g, o + i, none⟩ = some (.int .u8 (f i : Nat))) (k : Nat) (hk : k ≤ n) :
    ∃ (c : Nat) (nm fm : ByteArray) (sz cy : Nat), (okN (n - k) (fun j => f (k + j)) = true → c = f k ∧ nm = nmF c ∧ fm = fmF c ∧ sz = szF c ∧ cy = cyF c) ∧
      ∀ a' cp, (k < n → a' = some ⟨g, o + k, none⟩) → ∀ W, Below W1.heap.size W1 W → Calls Tryd.prog 29 #[.slice a' (n - k : Nat) cp] W fun e w' =>
        e = .returned (.tuple #[.agg #[.int .u8 c, .string nm, .string fm, .int .i64 sz, .int .i64 cy], .bool (okN (n - k) (fun j => f (k + j)))]) ∧ Below W.heap.size W w' := by
  have H := fun a' cp (ha : k < n → a' = some ⟨g, o + k, none⟩) W (hB : Below W1.heap.size W1 W) => first_any a' (n - k) cp (fun j => f (k + j)) W (by
    by_cases e : k < n
    · rw [ha e]
      exact Row.shift (Nat.lt_of_lt_of_le hg hB.size) hb (fun i hi => (hB.cell (p := ⟨g, o + i, none⟩) hg).trans (hc i hi)) k
    · rw [show n - k = 0 by omega]
      exact Row.nil _ _ _)
  unfold frV at H
  by_cases h0 : n - k = 0
  · rw [if_pos h0] at H
    refine ⟨0, ⟨#[]⟩, ⟨#[]⟩, 0, 0, fun h => ?_, H⟩
    unfold okN at h
    rw [h0] at h
    simp at h
  · rw [if_neg h0] at H
    exact ⟨f k, nmF (f k), fmF (f k), szF (f k), cyF (f k), fun _ => ⟨rfl, rfl, rfl, rfl, rfl⟩, H⟩
theorem szF_le (c : Nat) (hc : c < 256) : szF c ≤ 3 := (fm_all c hc).2.2.2.2.1
theorem ok_size {n : Nat} {f : Nat → Nat} {k : Nat} (h : okN (n - k) (fun j => f (k + j)) = true) : k < n ∧ szF (f k) ≤ n - k := by
  unfold okN at h
  rw [Bool.and_eq_true, decide_eq_true_eq, decide_eq_true_eq] at h
  exact ⟨by omega, h.2⟩
theorem writtenk_any (g o n cap at_ mb : Nat) (f : Nat → Nat) (W1 : World) (hW : Wrs W1 mb) (hg : g < W1.heap.size) (hcap : n ≤ cap) (hb : ∀ i, i < n → f i < 256) (hc : ∀ i, i < n → W1.cell? ⟨g, o + i, none⟩ = some (.int .u8 (f i : Nat))) (k : Nat) (hok : okN (n - k) (fun j => f (k + j)) = true) (W : World) (hB : Below W1.heap.size W1 W) :
    Calls Tryd.prog 30 #[.agg #[.int .u8 (f k : Nat), .string (nmF (f k)), .string (fmF (f k)), .int .i64 (szF (f k) : Nat), .int .i64 (cyF (f k) : Nat)], .slice (some ⟨g, o + k, none⟩) (n - k : Nat) (cap - k : Nat), .int .u16 ((at_ + k) % 65536 : Nat), .map (some mb)] W fun e w' =>
      e = .returned (.string (bsOf (txL (f k) ((at_ + k) % 65536) (fun j => f (k + j))))) ∧ Below W.heap.size W w' := by
  obtain ⟨hkn, hsz⟩ := ok_size hok
  have hWr := hW.kept hB
  exact written_any (f k) ((at_ + k) % 65536) g (o + k) (n - k) (cap - k) mb (fun j => f (k + j)) W (hb k hkn) (Nat.mod_lt _ (by decide)) hsz (by omega)
    (fun j hj => ⟨hb _ (by omega), by rw [Nat.add_assoc]; exact (hB.cell (p := ⟨g, o + (k + j), none⟩) hg).trans (hc _ (by omega))⟩) (Nat.lt_of_lt_of_le hg hB.size) hWr hWr.lt
end Go.Proofs.YtlogijjgachdjaaDoor
