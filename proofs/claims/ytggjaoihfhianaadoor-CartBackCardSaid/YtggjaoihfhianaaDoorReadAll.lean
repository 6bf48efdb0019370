/-
  What Read answers, in one; what is known of it.
-/
import Derived.Test.YtggjaoihfhianaaDoorBlank
namespace Go.Proofs.YtggjaoihfhianaaDoor
open Go.RowKit Go.Shelf
set_option maxRecDepth 100000
set_option maxHeartbeats 2000000

theorem readGood_any (b o n c sl sc so : Nat) (sb : Nat) (f sg : Nat → Nat) (w : World) (hn : n ≤ 8392704) (hc : n ≤ c) (hr : Row w (some ⟨b, o, none⟩) n f) (hrs : Row w (some ⟨sb, so, none⟩) sl sg) (hE : readE (n - headN n) (at2 f (headN n)) sl = 0) :
    Calls Tryd.prog 10 #[.slice (some ⟨b, o, none⟩) n c, .slice (some ⟨sb, so, none⟩) sl sc] w fun e w' => ∃ G1 cap1 sa k da, e = .returned (.tuple #[readV (n - headN n) (at2 f (headN n)) (.slice (some ⟨G1, 0, none⟩) (n - headN n) cap1) (.slice sa k da), .int .i64 0]) ∧ Below w.heap.size w w' ∧ Holds w' G1 (n - headN n) (at2 f (headN n)) ∧ w.heap.size ≤ G1 ∧ n - headN n ≤ cap1 ∧
      (chipN (gotG (n - headN n) (at2 f (headN n)) 22) = 1 ∧ k = 8192 ∧ Row w' sa k sg ∨ chipN (gotG (n - headN n) (at2 f (headN n)) 22) ≠ 1 ∧ k = 0) := by
  by_cases hch : chipN (gotG (n - headN n) (at2 f (headN n)) 22) = 1
  · have hsl := readE_sig hE hch
    refine (readSig_any b o n c sl sc sb so f sg w hn hc hr hch hsl hrs hE).mono ?_
    rintro e w' ⟨G1, cap1, G2, cap2, rfl, hB, h1, g1, h2, g2, hcap⟩
    exact ⟨G1, cap1, some ⟨G2, 0, none⟩, sl, cap2, rfl, hB, h1, g1, hcap, .inl ⟨hch, hsl, h2.row⟩⟩
  · refine (readNo_any b o n c sl sc (some ⟨sb, so, none⟩) f w hn hc hr hch hE).mono ?_
    rintro e w' ⟨G1, cap1, rfl, hB, h1, g1, hcap⟩
    exact ⟨G1, cap1, none, 0, 0, rfl, hB, h1, g1, hcap, .inr ⟨hch, rfl⟩⟩
theorem readE_ok {m sl : Nat} {g : Nat → Nat} (hE : readE m g sl = 0) : 32768 ≤ m ∧ m ≤ 8388608 ∧ chipN (gotG m g 22) ≠ 255 ∧ gotG m g 24 ≤ 9 := by
  unfold readE at hE
  split at hE
  · cases hE
  split at hE
  · cases hE
  split at hE
  · cases hE
  split at hE
  · cases hE
  refine ⟨by omega, by omega, by assumption, by omega⟩
theorem readE_no (m sl : Nat) (g : Nat → Nat) (hE : readE m g sl ≠ 0) : readE m g sl = 30 ∨ readE m g sl = 31 ∨ readE m g sl = 32 ∨ readE m g sl = 33 ∨ readE m g sl = 34 ∧ sl ≠ 8192 := by
  unfold readE at *
  split
  · exact .inl rfl
  split
  · exact .inr (.inl rfl)
  split
  · exact .inr (.inr (.inl rfl))
  split
  · exact .inr (.inr (.inr (.inl rfl)))
  split
  · rename_i h
    exact .inr (.inr (.inr (.inr ⟨rfl, h.2⟩)))
  · rename_i h1 h2 h3 h4 h5
    exact absurd (by rw [if_neg h1, if_neg h2, if_neg h3, if_neg h4, if_neg h5]) hE
theorem chipN_cases (k : Nat) : chipN k = 255 ∨ chipN k ≤ 2 := by
  unfold chipN
  split
  · exact .inr (by decide)
  split
  · exact .inr (by decide)
  split
  · exact .inr (by decide)
  · exact .inl rfl
theorem size_ram (k : Nat) (h : k ≤ 9) : sizeN (ramN k) ≤ 9 := by
  have : ∀ m : Fin 10, sizeN (ramN m.val) ≤ 9 := by decide
  exact this ⟨k, by omega⟩
theorem title_le (g : Nat → Nat) : (titleS g).size ≤ 21 := by
  unfold titleS
  rw [show ∀ m, (strN g m).size = m from fun m => by simp [strN, strOfNums, ByteArray.size]]
  exact trimN_le g 21
theorem best_max (n : Nat) (f : Nat → Nat) (l : Nat) (h : 1 ≤ l ∧ l ≤ 3) (hp : posOf l + 64 ≤ n) : scN f l ≤ scN f (bestN n f) := by
  have h12 : scN f 1 ≤ scN f (best2 n f) ∧ (posOf 2 + 64 ≤ n → scN f 2 ≤ scN f (best2 n f)) := by
    unfold best2
    split
    · rename_i h
      exact ⟨by omega, fun _ => Int.le_refl _⟩
    · rename_i h
      exact ⟨Int.le_refl _, fun h2 => by have := fun x => h ⟨h2, x⟩; omega⟩
  have h3 : scN f (best2 n f) ≤ scN f (bestN n f) ∧ (posOf 3 + 64 ≤ n → scN f 3 ≤ scN f (bestN n f)) := by
    unfold bestN
    split
    · rename_i h
      exact ⟨by omega, fun _ => Int.le_refl _⟩
    · rename_i h
      exact ⟨Int.le_refl _, fun h2 => by have := fun x => h ⟨h2, x⟩; omega⟩
  rcases (show l = 1 ∨ l = 2 ∨ l = 3 by omega) with rfl | rfl | rfl
  · exact Int.le_trans h12.1 h3.1
  · exact Int.le_trans (h12.2 hp) h3.1
  · exact h3.2 hp
end Go.Proofs.YtggjaoihfhianaaDoor
