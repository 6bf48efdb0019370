/-
  The library's copy of bytes.
-/
import Derived.Test.YthhahhmdpjchkaaMem
import Derived.Test.YthhahhmdpjchkaaLib
import Derived.Outline
namespace Go.Proofs.Ythhahhmdpjchkaa
open Go.RowKit Go.Shelf
set_option maxRecDepth 100000
set_option maxHeartbeats 2000000

theorem info5 : Try.prog.info? 5 = some ((Try.prog.info? 5).get (by kernel_rfl)) := by kernel_rfl
/-- The library's copy of bytes. -/
theorem clone_any (b o n c : Nat) (f : Nat → Nat) (w : World) (h : Row w (some ⟨b, o, none⟩) n f) (hn : n ≤ 140737488355328) :
    Calls Try.prog 29 #[.slice (some ⟨b, o, none⟩) n c] w fun e w' => ∃ G cap, e = .returned (.slice (some ⟨G, 0, none⟩) n cap) ∧ n ≤ cap ∧ Holds w' G n f ∧ w.heap.size ≤ G ∧ Below w.heap.size w w' := by
  rcases h with ⟨hb, h0 | ⟨b', o', e, hlt, hc⟩⟩
  · subst h0
    refine (Try.slices_Clone _ (.int .u8 0) 1 1 info5 rfl rfl rfl rfl (by decide) Try.sizeOf5 b o 0 c [] w rfl (by unfold maxLen; omega) (by omega) (fun j u hu => by simp at hu) (fun u hu => by cases hu)).mono ?_
    rintro e w' ⟨v', rfl, hown, hne, hB⟩
    rcases hown.2 with ⟨h1, _⟩ | ⟨g, cap, cur, rfl, hg, hh, hncap, _, hsz, htk⟩
    · exact absurd h1 hne
    · exact ⟨g, cap, rfl, hncap, ⟨cur, hh, by omega, fun i hi => by omega⟩, hg, hB⟩
  · injection e with e
    injection e with e1 e2
    subst e1 e2
    refine (Try.slices_Clone _ (.int .u8 0) 1 1 info5 rfl rfl rfl rfl (by decide) Try.sizeOf5 b o n c ((List.range n).map fun i => Value.int .u8 (f i : Nat)) w (by simp) (by unfold maxLen; omega) (by omega) (fun j u hu => by
      rw [List.getElem?_map] at hu
      by_cases hj : j < n
      · rw [List.getElem?_range hj] at hu
        simp only [Option.map_some, Option.some.injEq] at hu
        rw [← hu]
        exact hc j hj
      · rw [List.getElem?_eq_none (by simpa using hj)] at hu
        cases hu) (fun u hu => by
      obtain ⟨i, _, rfl⟩ := List.mem_map.1 hu
      rfl)).mono ?_
    rintro e w' ⟨v', rfl, hown, hne, hB⟩
    rcases hown.2 with ⟨h1, _⟩ | ⟨g, cap, cur, rfl, hg, hh, hncap, _, hsz, htk⟩
    · exact absurd h1 hne
    · refine ⟨g, cap, rfl, hncap, ⟨cur, hh, by omega, fun i hi => ⟨hb i hi, ?_⟩⟩, hg, hB⟩
      have h2 : (cur.toList.take (n * 1))[i]? = some (Value.int .u8 (f i : Nat)) := by rw [htk, List.getElem?_map, List.getElem?_range hi]; rfl
      rw [List.getElem?_take_of_lt (by omega)] at h2
      simpa using h2
end Go.Proofs.Ythhahhmdpjchkaa
