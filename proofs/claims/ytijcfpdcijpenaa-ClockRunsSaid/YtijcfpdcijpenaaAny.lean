/-
  Contracts of the kit's copy and of clock's small helpers.
-/
import Derived.Test.YtijcfpdcijpenaaMem
import Derived.Outline
import Derived.Shelf.Abstract
import Derived.Deep.OwnRows
namespace Go.Proofs.Ytijcfpdcijpenaa
open Go.RowKit Go.Shelf
set_option maxRecDepth 100000
set_option maxHeartbeats 1000000

theorem below1 (least n : Int) (bb : Nat) (w : World) (hc : w.cell? ⟨bb, 0, none⟩ = some (.int .i64 least)) :
    Calls Try.prog 41 #[.int .i64 n, .pointer (some ⟨bb, 0, none⟩)] w fun e w' => e = .returned (.bool (decide (n < least))) ∧ w = w' := by
  go_enter Try.func41, Try.ntmps41
  go_wp2
  go_ret
  exact ⟨rfl, rfl⟩
theorem above1 (most n : Int) (bb : Nat) (w : World) (hc : w.cell? ⟨bb, 0, none⟩ = some (.int .i64 most)) :
    Calls Try.prog 42 #[.int .i64 n, .pointer (some ⟨bb, 0, none⟩)] w fun e w' => e = .returned (.bool (decide (most < n))) ∧ w = w' := by
  go_enter Try.func42, Try.ntmps42
  go_wp2
  go_ret
  exact ⟨rfl, rfl⟩

/-- slices.IndexFunc over numbers, the closure g (bound to one place) telling a plain test. -/
theorem index_any (g : Nat) (t : Int → Bool) (cb : Array Value) (a : Option Addr) (cap : Nat) (zs : List Int) (w : World) (eg : ∀ args w, (callFunc g args).run Try.prog w = .ok (.enter g args) w)
    (hg : ∀ n : Int, Calls Try.prog g (#[.int .i64 n] ++ cb) w fun e w' => e = .returned (.bool (t n)) ∧ w = w') (hl : Lies .i64 w a zs) (hm : zs.length ≤ maxLen) :
    Calls Try.prog 48 #[.slice a zs.length cap, .func (.func g) #[] cb] w fun e w' => (e = .returned (.int .i64 (-1)) ∧ zs.any t = false ∨ ∃ k : Nat, e = .returned (.int .i64 k) ∧ zs.any t = true) ∧ w = w' := by
  unfold maxLen at hm
  have HG := Lib.hid hg
  clear hg
  go_enter Try.func48, Try.ntmps48
  go_wp2
  go_loop [8] (fun i => ∃ k : Nat, k ≤ zs.length ∧ i = .int .i64 k ∧ Hid ((zs.take k).any t = false)) (fun i => zs.length - (intOf i).toNat)
  case atStart => exact ⟨0, Nat.zero_le _, rfl, Lib.hid (by simp)⟩
  case round =>
    obtain ⟨k, hk, rfl, hn⟩ := hrel
    by_cases hlt : k < zs.length
    · rcases hl with h0 | ⟨b, o, rfl, _, hc⟩
      · simp [h0] at hlt
      · have hck := hc k hlt
        clear hc
        obtain ⟨z, hz⟩ : ∃ z, zs[k]?.getD 0 = z := ⟨_, rfl⟩
        rw [hz] at hck
        have Hz : Hid ((zs.take (k + 1)).any t = ((zs.take k).any t || t z)) := Lib.hid (by
          rw [← hz, List.take_add_one, List.any_append, List.getElem?_eq_getElem hlt]; simp)
        clear hz
        cases ht : t z
        · go_wp2_with fail
          refine (HG.out z).mono ?_
          rw [ht]
          rintro e w' ⟨rfl, rfl⟩
          go_wp2
          go_round
          case rel => exact ⟨k + 1, by omega, by go_num, Lib.hid (by rw [Hz.out, hn.out, ht]; rfl)⟩
          case measure => simp [intOf]; omega
        · go_wp2_with fail
          refine (HG.out z).mono ?_
          rw [ht]
          rintro e w' ⟨rfl, rfl⟩
          go_wp2
          go_ret
          refine ⟨.inr ⟨k, rfl, ?_⟩, rfl⟩
          have h1 : (zs.take (k + 1)).any t = true := by rw [Hz.out, ht]; simp
          rw [List.any_eq_true] at h1 ⊢
          obtain ⟨x, hx, h2⟩ := h1
          exact ⟨x, List.mem_of_mem_take hx, h2⟩
    · go_wp2_with fail
      go_ret
      refine ⟨.inl ⟨rfl, ?_⟩, rfl⟩
      have := hn.out
      rw [List.take_of_length_le (by omega)] at this
      simpa using this
theorem contains_any (g : Nat) (t : Int → Bool) (cb : Array Value) (a : Option Addr) (cap : Nat) (zs : List Int) (w : World) (eg : ∀ args w, (callFunc g args).run Try.prog w = .ok (.enter g args) w)
    (hg : ∀ n : Int, Calls Try.prog g (#[.int .i64 n] ++ cb) w fun e w' => e = .returned (.bool (t n)) ∧ w = w') (hl : Lies .i64 w a zs) (hm : zs.length ≤ maxLen) :
    Calls Try.prog 40 #[.slice a zs.length cap, .func (.func g) #[] cb] w fun e w' => e = .returned (.bool (zs.any t)) ∧ w = w' := by
  have H := Lib.hid (index_any g t cb a cap zs w eg hg hl hm)
  clear hg hl
  go_enter Try.func40, Try.ntmps40
  go_wp2_with fail
  refine H.out.mono ?_
  rintro e w' ⟨⟨rfl, h⟩ | ⟨k, rfl, h⟩, rfl⟩
  · have Hh := Lib.hid h
    clear h
    go_wp2
    go_ret
    exact ⟨by rw [Hh.out]; rfl, rfl⟩
  · have Hh := Lib.hid h
    clear h
    go_wp2
    go_ret
    exact ⟨by rw [Hh.out]; simp, rfl⟩
theorem anyBelow_any (least : Int) (a : Option Addr) (cap : Nat) (zs : List Int) (w : World) (hl : Lies .i64 w a zs) (hm : zs.length ≤ maxLen) :
    Calls Try.prog 28 #[.slice a zs.length cap, .int .i64 least] w fun e w' => e = .returned (.bool (zs.any fun n => decide (n < least))) ∧ w.alloc (.cells #[.int .i64 least] 2) = w' := by
  have H := Lib.hid (contains_any 41 (fun n => decide (n < least)) #[.pointer (some ⟨w.heap.size, 0, none⟩)] a cap zs (w.alloc (.cells #[.int .i64 least] 2)) (enters_of Try.func41 (by kernel_rfl) rfl)
    (fun n => below1 least n w.heap.size _ (by simp)) (hl.below ((Below.refl _ w).alloc (Nat.le_refl _) _)) hm)
  clear hl
  go_enter Try.func28, Try.ntmps28
  go_wp2_with fail
  refine H.out.mono ?_
  rintro e w' ⟨rfl, rfl⟩
  go_wp2
  go_ret
  exact ⟨rfl, rfl⟩
theorem anyAbove_any (most : Int) (a : Option Addr) (cap : Nat) (zs : List Int) (w : World) (hl : Lies .i64 w a zs) (hm : zs.length ≤ maxLen) :
    Calls Try.prog 29 #[.slice a zs.length cap, .int .i64 most] w fun e w' => e = .returned (.bool (zs.any fun n => decide (most < n))) ∧ w.alloc (.cells #[.int .i64 most] 2) = w' := by
  have H := Lib.hid (contains_any 42 (fun n => decide (most < n)) #[.pointer (some ⟨w.heap.size, 0, none⟩)] a cap zs (w.alloc (.cells #[.int .i64 most] 2)) (enters_of Try.func42 (by kernel_rfl) rfl)
    (fun n => above1 most n w.heap.size _ (by simp)) (hl.below ((Below.refl _ w).alloc (Nat.le_refl _) _)) hm)
  clear hl
  go_enter Try.func29, Try.ntmps29
  go_wp2_with fail
  refine H.out.mono ?_
  rintro e w' ⟨rfl, rfl⟩
  go_wp2
  go_ret
  exact ⟨rfl, rfl⟩

/-- The first k of the numbers, then noughts: what a copy holds when k have been copied. -/
def filled (zs : List Int) (k : Nat) : Array Value := ((List.range zs.length).map fun i => Value.int .i64 (if i < k then zs[i]?.getD 0 else 0)).toArray
theorem filled_zero (zs : List Int) : Array.replicate zs.length (Value.int .i64 0) = filled zs 0 := by
  apply Array.ext
  · simp [filled]
  · intro i h1 h2
    simp [filled]
theorem filled_all (zs : List Int) : filled zs zs.length = (vals .i64 zs).toArray := by
  apply Array.ext
  · simp [filled, vals]
  · intro i h1 h2
    have : i < zs.length := by simpa [filled] using h1
    simp [filled, vals, this]
theorem filled_step (zs : List Int) (k : Nat) : (filled zs k).setIfInBounds k (.int .i64 (zs[k]?.getD 0)) = filled zs (k + 1) := by
  apply Array.ext
  · simp [filled]
  · intro i h1 h2
    have : i < zs.length := by simpa [filled] using h2
    rw [Array.getElem_setIfInBounds (by simpa [filled] using h2)]
    by_cases e : k = i
    · subst e; simp [filled]
    · simp only [if_neg e, filled, List.getElem_toArray, List.getElem_map, List.getElem_range]
      congr 1
      by_cases h : i < k
      · rw [if_pos h, if_pos (by omega)]
      · rw [if_neg h, if_neg (by omega)]
theorem filled_size (zs : List Int) (k : Nat) : (filled zs k).size = zs.length := by simp [filled]

/-- kit.CopyLongs: new memory that reads as what came in. -/
theorem copy_any (a : Option Addr) (cap : Nat) (zs : List Int) (w : World) (hl : Lies .i64 w a zs) (hm : zs.length * 8 ≤ 140737488351232) :
    Calls Try.prog 9 #[.slice a zs.length cap] w fun e w' => e = .returned (.slice (some ⟨w.heap.size, 0, none⟩) zs.length zs.length) ∧ Whole w' w.heap.size 2 (vals .i64 zs).toArray ∧ Below w.heap.size w w' ∧ w'.heap.size = w.heap.size + 1 := by
  have hmk := fun W => run_make_row' (P := Try.prog) 22 2 (.int .i64 0) 8 Try.underlying22 (by kernel_rfl) rfl .i64 .i64 zs.length (by omega) (by omega) W
  go_enter Try.func9, Try.ntmps9
  go_wp2
  have hm0 : madeCells #[Value.int .i64 0] zs.length = filled zs 0 := by
    rw [← filled_zero]
    apply Array.ext
    · simp [madeCells]
    · intro i h1 h2
      simp [madeCells, Nat.mod_one]
  have hW0 : Whole (w.alloc (.cells (madeCells #[Value.int .i64 0] zs.length) 2)) w.heap.size 2 (filled zs 0) := by rw [← hm0]; exact Whole.fresh _ _ _
  clear hm0 hmk
  go_loopw [4] (fun i wr => ∃ k : Nat, k ≤ zs.length ∧ i = .int .i64 k ∧ Whole wr w.heap.size 2 (filled zs k) ∧ Below w.heap.size w wr ∧ Hid (wr.heap.size = w.heap.size + 1)) (fun i _ => zs.length - (intOf i).toNat)
  case atStart => exact ⟨0, Nat.zero_le _, rfl, hW0, (Below.refl _ _).alloc (Nat.le_refl _) _, Lib.hid (by simp)⟩
  case round =>
    obtain ⟨k, hk, rfl, hW, hB, hS⟩ := hrel
    clear hW0
    by_cases hlt : k < zs.length
    · rcases hl with h0 | ⟨b, o, rfl, hb, hc⟩
      · simp [h0] at hlt
      · have hck := (hB.cell (p := ⟨b, o + k, none⟩) hb).trans (hc k hlt)
        clear hc
        obtain ⟨z, hz0⟩ : ∃ z, zs[k]?.getD 0 = z := ⟨_, rfl⟩
        rw [hz0] at hck
        have hz : Hid ((filled zs k).setIfInBounds k (.int .i64 z) = filled zs (k + 1)) := Lib.hid (by rw [← hz0]; exact filled_step zs k)
        clear hz0
        obtain ⟨u, hu⟩ : ∃ u, wr.cell? ⟨w.heap.size, k, none⟩ = some u := ⟨_, (hW.cell k).trans (Array.getElem?_eq_getElem (by rw [filled_size]; exact hlt))⟩
        have hf := hW.free k
        go_wp2
        go_roundw
        case rel => exact ⟨k + 1, by omega, by go_num, by rw [← hz.out]; exact hW.put k _, hB.setCell (p := ⟨w.heap.size, k, none⟩) (Nat.le_refl _) _, Lib.hid (by rw [← hS.out]; simp [World.setCell])⟩
        case measure => simp [intOf]; omega
    · obtain rfl : k = zs.length := by omega
      go_wp2
      go_ret
      rw [filled_all] at hW
      exact ⟨rfl, hW, hB, hS.out⟩
end Go.Proofs.Ytijcfpdcijpenaa
