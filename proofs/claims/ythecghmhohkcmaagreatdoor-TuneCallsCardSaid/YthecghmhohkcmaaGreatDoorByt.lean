/-
  How many bytes the operands of a form have; a code as a value.
-/
import Derived.Test.YthecghmhohkcmaaGreatDoorWid
namespace Go.Proofs.YthecghmhohkcmaaGreatDoor
open Go.RowKit
set_option maxRecDepth 100000
set_option maxHeartbeats 4000000
set_option linter.unusedVariables false

def byL (l : List Nat) : Nat := (l.map wdF).sum
theorem byL_succ (l : List Nat) (k : Nat) (hk : k < l.length) : byL (l.take (k + 1)) = byL (l.take k) + wdF (l.getD k 0) := by
  unfold byL
  rw [List.take_succ_eq_append_getElem hk, List.map_append, List.sum_append, List.getD_eq_getElem?_getD, List.getElem?_eq_getElem hk]
  simp
theorem byL_le (l : List Nat) : byL l ≤ 2 * l.length := by
  induction l with
  | nil => simp [byL]
  | cons x l ih =>
    have := wdF_le x
    simp only [byL, List.map_cons, List.sum_cons, List.length_cons] at *
    omega
attribute [local irreducible] wdF byL
theorem bytesOf_any (l : List Nat) (w : World) (hl : ∀ x ∈ l, x < 128) (hz : l.length ≤ 10) : Calls Tryz.prog 73 #[.string (bsOf l)] w fun e w' => e = .returned (.int .i64 (byL l : Nat)) ∧ Below w.heap.size w w' := by
  have hsz : (bsOf l).size = l.length := bsOf_size l
  have hby : ∀ k (h : k < (bsOf l).size), (bsOf l)[k].toNat = l.getD k 0 := fun k h => bsOf_byte l k h (by rw [List.getD_eq_getElem?_getD, List.getElem?_eq_getElem (by omega)]; exact Nat.lt_trans (hl _ (List.getElem_mem _)) (by decide))
  have hlt : ∀ k, k < (bsOf l).size → l.getD k 0 < 128 := fun k h => by rw [List.getD_eq_getElem?_getD, List.getElem?_eq_getElem (by omega)]; exact hl _ (List.getElem_mem _)
  have hle := byL_le l
  have HW := fun k (h : k < 128) W => width_any k W (by omega)
  generalize bsOf l = S at *
  replace HW := Lib.hid HW
  go_enter Tryz.func73, Tryz.ntmps73
  go_wp2_with fail
  have hI0 : (w.iter S 0).heap[w.heap.size]? = some (.stringIter S 0) := World.iter_heap _ _ _
  have hB0 : Below w.heap.size w (w.iter S 0) := (Below.refl _ _).alloc (Nat.le_refl _) _
  generalize w.iter S 0 = W0 at *
  go_loopw [3] (fun s3 wr => ∃ k : Nat, k ≤ S.size ∧ s3 = .int .i64 (byL (l.take k) : Nat) ∧ wr.heap[w.heap.size]? = some (.stringIter S k) ∧ Below w.heap.size w wr) (fun _ wr => S.size - wr.iterPos w.heap.size)
  case atStart => exact ⟨0, by omega, by simp [byL], hI0, hB0⟩
  case round =>
    obtain ⟨k, hk, rfl, hI, hB⟩ := hrel
    clear hI0 hB0
    by_cases hp : k < S.size
    · have h1 := hby k hp
      have h128 := hlt k hp
      have hnext : ∀ ty, (Instr.next (.pointer (some ⟨w.heap.size, 0, none⟩)) true ty).run Tryz.prog wr = _ := fun ty => Lib.run_next_ascii_at wr w.heap.size S k ty hI hp (by omega)
      rw [h1] at hnext
      have hI1 := Lib.iterAt_heap wr w.heap.size S k (k + 1) hI
      have hB1 : Below w.heap.size w (wr.iterAt w.heap.size S (k + 1)) := Lib.below_iterAt hB (by omega) S (k + 1)
      have hmu : wr.iterPos w.heap.size = k := by simp [World.iterPos, hI]
      have hs := byL_succ l k (by omega)
      have hs2 := byL_le (l.take k)
      have hs3 : (l.take k).length ≤ 10 := by rw [List.length_take]; omega
      generalize l.getD k 0 = x at *
      have hs4 := wdF_le x
      generalize byL (l.take k) = b at *
      generalize hb' : byL (l.take (k + 1)) = b' at *
      replace hb' := Lib.hid hb'
      have HWx := Lib.hid (HW.out x h128)
      generalize wdF x = y at *
      generalize wr.iterAt w.heap.size S (k + 1) = W1 at *
      clear hby hlt hle h1
      go_wp2_with fail
      with_reducible refine (HWx.out _).mono ?_
      rintro e w' ⟨rfl, rfl⟩
      have hmu2 : w'.iterPos w.heap.size = k + 1 := by simp [World.iterPos, hI1]
      go_wp2_with fail
      go_roundw
      case rel => exact ⟨k + 1, by omega, by rw [hb'.out]; subst hs; go_num, hI1, hB1⟩
      case measure => rw [hmu, hmu2]; omega
    · obtain rfl : k = S.size := by omega
      have hnext : ∀ ty, (Instr.next (.pointer (some ⟨w.heap.size, 0, none⟩)) true ty).run Tryz.prog wr = _ := fun ty => Lib.run_next_end_at wr w.heap.size S S.size ty hI (by omega)
      rw [hsz, List.take_length] at *
      clear hby hlt
      go_wp2_with fail
      go_ret
      exact ⟨rfl, hB⟩
end Go.Proofs.YthecghmhohkcmaaGreatDoor
