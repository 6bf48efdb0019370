/-
  What five names do, as Course and Run need it; an instruction of each as numbers.
-/
import Derived.Test.YthecghmhohkcmaaGreatDoorTAc
import Derived.Test.YthecghmhohkcmaaGreatDoorTCo
namespace Go.Proofs.YthecghmhohkcmaaGreatDoor
open Go.RowKit Go.Shelf
set_option maxRecDepth 100000
set_option maxHeartbeats 1000000
set_option linter.unusedVariables false

def actM (c nd no : Nat) : M Unit :=
  if c = 136 then combineM 3 65 nd 35 no else if c = 122 then addWordM 0 no else if c = 154 then addWordM 1 no else if c = 63 then callM no else if c = 111 then backM else M.pure ()
theorem ok136 (K : Cx) : ActOk K 136 actM := fun z s w nd no t hz hl => by
  have hn : nmF 136 = ⟨#[65, 68, 67]⟩ := by kernel_rfl
  have hcd : cdF (fmL 136) = 65 := by kernel_rfl
  have hco : coF (fmL 136) = 35 := by kernel_rfl
  rw [hcd, hco, hn] at hz
  exact ⟨_, act_combine t hz.n1, fun _ _ => rfl, combine_any t hz 3 (by decide) hz.n1 (.inr (.inl rfl)) (.inl (by decide)) (.inl (by decide)) (by omega)⟩
theorem ok122 (K : Cx) : ActOk K 122 actM := fun z s w nd no t hz hl => by
  have hn : nmF 122 = ⟨#[65, 68, 68, 87]⟩ := by kernel_rfl
  rw [hn] at hz
  exact ⟨_, act_addw t hz.n1, fun _ _ => rfl, addWord0_any t hz hz.n1 (by omega)⟩
theorem ok154 (K : Cx) : ActOk K 154 actM := fun z s w nd no t hz hl => by
  have hn : nmF 154 = ⟨#[83, 85, 66, 87]⟩ := by kernel_rfl
  rw [hn] at hz
  exact ⟨_, act_subw t hz.n1, fun _ _ => rfl, addWord1_any t hz hz.n1 (by omega)⟩
theorem ok63 (K : Cx) : ActOk K 63 actM := fun z s w nd no t hz hl => by
  have hn : nmF 63 = ⟨#[67, 65, 76, 76]⟩ := by kernel_rfl
  have hco : coF (fmL 63) = 97 := by kernel_rfl
  rw [hn, hco] at hz
  exact ⟨_, act_call t hz.n1, fun _ _ => rfl, callA_any t hz (by decide) (by decide) (by omega)⟩
theorem ok111 (K : Cx) : ActOk K 111 actM := fun z s w nd no t hz hl => by
  have hn : nmF 111 = ⟨#[82, 69, 84]⟩ := by kernel_rfl
  rw [hn] at hz
  exact ⟨_, act_ret t hz.n1, fun _ _ => rfl, back_any t (by omega)⟩
/-- The first byte is the code. -/
theorem fetch_seen {r : Rp} {a : Nat} {t : List Nat} {s1 : Ts} {c : Nat} (h : Ran fetchM (s0 r ⟨none, a :: t⟩) c s1) : c = a := by
  have e : Ran fetchM (s0 r ⟨none, a :: t⟩) a ⟨{ r with Pc := (r.Pc + 1) % 65536 }, [(1, r.Pc % 65536, 0)], ⟨none, t⟩⟩ := rfl
  unfold Ran at h e
  rw [e] at h
  injection h with _ h
  injection h with _ h
  injection h with h
  injection h with h _
  exact h.symm
def r5 : Rp := ⟨5, 0, 0, 0, 0, 512, false⟩
theorem go136 : go (runM actM r5) [] ⟨none, [136, 255]⟩ = ([(1, 512, 0), (1, 513, 0)], ⟨none, []⟩, some ((), ⟨4, 0, 0, 0, 9, 514, false⟩)) := by kernel_rfl
end Go.Proofs.YthecghmhohkcmaaGreatDoor
