/-
  What the card of a made cartridge says.
-/
import Derived.Test.YtggjaoihfhianaaDoorMake
import Derived.Test.YtggjaoihfhianaaDoorReadV
namespace Go.Proofs.YtggjaoihfhianaaDoor
open Go.RowKit Go.Shelf
set_option maxRecDepth 100000
set_option maxHeartbeats 1000000

section
variable (f : Nat → Nat) (p l c : Nat) (ram : Int) (t : ByteArray) (z : Nat) (fast : Bool) (s : Nat)
theorem card_lo (i : Nat) (hi : i < 21) (ht : t.size ≤ 21) : at' (sealF (layF f p l c ram t z fast) p s) p i = (titleL t).getD i 0 := by
  have hl := titleL_len t ht
  unfold at' sealF layF
  simp only [upd, Nat.add_left_cancel_iff]
  rw [if_neg (by omega), if_neg (by omega), if_neg (by omega), if_neg (by omega), if_neg (by omega), if_neg (by omega), if_neg (by omega), if_neg (by omega), if_neg (by omega)]
  unfold overL
  rw [if_pos (by omega), Nat.add_sub_cancel_left]
theorem card21 : at' (sealF (layF f p l c ram t z fast) p s) p 21 = modeN l fast := by simp [at', sealF, layF, upd]
theorem card22 : at' (sealF (layF f p l c ram t z fast) p s) p 22 = kindN c := by simp [at', sealF, layF, upd]
theorem card24 : at' (sealF (layF f p l c ram t z fast) p s) p 24 = sizeN ram := by simp [at', sealF, layF, upd]
theorem card28 : at' (sealF (layF f p l c ram t z fast) p s) p 28 = (65535 - s) % 256 := by simp [at', sealF, upd]
theorem card29 : at' (sealF (layF f p l c ram t z fast) p s) p 29 = (65535 - s) / 256 := by simp [at', sealF, upd]
theorem card30 : at' (sealF (layF f p l c ram t z fast) p s) p 30 = s % 256 := by simp [at', sealF, upd]
theorem card31 : at' (sealF (layF f p l c ram t z fast) p s) p 31 = s / 256 := by simp [at', sealF, upd]
theorem card60 : at' (sealF (layF f p l c ram t z fast) p s) p 60 = z % 256 := by simp [at', sealF, layF, upd]
theorem card61 : at' (sealF (layF f p l c ram t z fast) p s) p 61 = z / 256 := by simp [at', sealF, layF, upd]
end
theorem titleL_in (t : ByteArray) (i : Nat) (h : i < t.size) : (titleL t).getD i 0 = (t[i]'h).toNat := by
  unfold titleL
  rw [List.getD_eq_getElem?_getD, List.getElem?_append_left (by simpa using h), List.getElem?_map, List.getElem?_eq_getElem (by simpa using h)]
  rfl
theorem titleL_out (t : ByteArray) (i : Nat) (h : t.size ≤ i) (h2 : i < 21) : (titleL t).getD i 0 = 32 := by
  unfold titleL
  rw [List.getD_eq_getElem?_getD, List.getElem?_append_right (by simpa using h), List.getElem?_replicate, if_pos (by simp; omega)]
  rfl
theorem trimN_pad (g : Nat → Nat) (m : Nat) : ∀ k, m ≤ k → (∀ i, m ≤ i → i < k → g i = 32) → trimN g k = trimN g m
  | 0, h, _ => by rw [show m = 0 by omega]
  | k + 1, h, hg => by
    rcases Nat.lt_or_ge k m with h1 | h1
    · rw [show m = k + 1 by omega]
    · rw [trimN, if_pos (hg k h1 (by omega)), trimN_pad g m k h1 (fun i a b => hg i a (by omega))]
theorem title_back (g : Nat → Nat) (t : ByteArray) (ht : t.size ≤ 21) (hs : Lib.hasSuffix t.data.toList [32] = false) (hg : ∀ i, i < 21 → g i = (titleL t).getD i 0) : titleS g = t := by
  have h1 : trimN g 21 = trimN g t.size := trimN_pad g t.size 21 ht (fun i a b => by rw [hg i b, titleL_out t i a b])
  have h2 : trimN g t.size = t.size := by
    rcases Nat.eq_zero_or_pos t.size with h0 | h0
    · rw [h0]; rfl
    · obtain ⟨k, hk⟩ : ∃ k, t.size = k + 1 := ⟨t.size - 1, by omega⟩
      rw [hk, trimN, if_neg ?_]
      rw [hg k (by omega), titleL_in t k (by omega)]
      intro e
      have hL : t.data.toList.length = k + 1 := by rw [← Lib.size_eq]; exact hk
      have hlast : t.data.toList[k]'(by omega) = 32 := UInt8.toNat_inj.1 e
      have hsuf : [32] <:+ t.data.toList := ⟨t.data.toList.take k, by
        rw [← hlast, List.take_append_getElem, ← hL, List.take_length]⟩
      unfold Lib.hasSuffix at hs
      rw [List.isSuffixOf_iff_suffix.2 hsuf] at hs
      cases hs
  unfold titleS
  rw [h1, h2]
  apply ByteArray.ext
  apply Array.ext'
  rw [strN_list]
  apply List.ext_getElem
  · simp
  · intro i a b
    have hi : i < t.size := by simpa using b
    rw [List.getElem_map, List.getElem_range, hg i (by omega), titleL_in t i hi]
    simp
    rfl
theorem chip_back (c : Nat) (h : c ≤ 2) : chipN (kindN c) = c := by
  rcases (show c = 0 ∨ c = 1 ∨ c = 2 by omega) with rfl | rfl | rfl <;> rfl
theorem ram_back (ram : Int) (h : sizeN ram ≤ 9) : ramN (sizeN ram) = ram := by
  rcases sizeN_cases ram with hs | rfl | rfl | rfl | rfl | rfl | rfl | rfl | rfl | rfl | rfl
  · omega
  all_goals rfl
theorem fast_back (l : Nat) (fast : Bool) (h : 1 ≤ l ∧ l ≤ 3) : fastB (modeN l fast) = fast := by
  rcases (show l = 1 ∨ l = 2 ∨ l = 3 by omega) with rfl | rfl | rfl <;> cases fast <;> rfl
theorem mode_back (l : Nat) (fast : Bool) (h : 1 ≤ l ∧ l ≤ 3) : ((modesL l).any fun y => ((modeF (modeN l fast) : Nat) : Int) == y) = true := by
  rcases (show l = 1 ∨ l = 2 ∨ l = 3 by omega) with rfl | rfl | rfl <;> cases fast <;> rfl
theorem score9 (t : ByteArray) (l s z : Nat) (fast : Bool) (h : 1 ≤ l ∧ l ≤ 3) (hs : s < 65536) (ht : seenB t = true) (hz : 32768 ≤ z) :
    scoreV t (modeN l fast) ((65535 - s) % 256 + (65535 - s) / 256 * 256) (s % 256 + s / 256 * 256) z l = 9 := by
  unfold scoreV
  rw [if_neg (by omega), mode_back l fast h, ht, decide_eq_true hz, decide_eq_true (by omega)]
  rfl
end Go.Proofs.YtggjaoihfhianaaDoor
