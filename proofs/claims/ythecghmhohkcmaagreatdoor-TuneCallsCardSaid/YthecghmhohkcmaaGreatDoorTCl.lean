/-
  A call and its coming back: the numbers.
-/
import Derived.Test.YthecghmhohkcmaaGreatDoorTRn
import Derived.Test.YthecghmhohkcmaaGreatDoorTMem
namespace Go.Proofs.YthecghmhohkcmaaGreatDoor
open Go.RowKit Go.Shelf
set_option maxRecDepth 100000
set_option maxHeartbeats 1000000
set_option linter.unusedVariables false

theorem run_first (A : Nat → Nat → Nat → M Unit) (rA rX rY rS rP rPc : Nat) (f : Nat → Nat) : go (runM A ⟨rA, rX, rY, rS, rP, rPc, false⟩) [] ⟨some f, []⟩ =
    go ((M.bind (opsM (fmL (f (rPc % 65536)))) fun p => M.bind (M.idles (idleN (f (rPc % 65536)))) fun _ => A (f (rPc % 65536)) p.1 p.2) ⟨rA, rX, rY, rS, rP, (rPc + 1) % 65536, false⟩) [(1, rPc % 65536, 0)] ⟨some f, []⟩ := by
  rfl
theorem fetch_mem {r : Rp} {f : Nat → Nat} {s1 : Ts} {c : Nat} (h : Ran fetchM (s0 r ⟨some f, []⟩) c s1) : c = f (r.Pc % 65536) := by
  have e : Ran fetchM (s0 r ⟨some f, []⟩) (f (r.Pc % 65536)) ⟨{ r with Pc := (r.Pc + 1) % 65536 }, [(1, r.Pc % 65536, 0)], ⟨some f, []⟩⟩ := rfl
  unfold Ran at h e
  rw [e] at h
  injection h with _ h
  injection h with _ h
  injection h with h
  injection h with h _
  exact h.symm
theorem go63 (A X Y S P Pc : Nat) (f : Nat → Nat) (h : f (Pc % 65536) = 63) : go (runM actM ⟨A, X, Y, S, P, Pc, false⟩) [] ⟨some f, []⟩ =
    ([(1, Pc % 65536, 0), (1, (Pc + 1) % 65536 % 65536, 0), (1, ((Pc + 1) % 65536 + 1) % 65536 % 65536, 0), (0, 0, 0), (0, 0, 0), (0, 0, 0),
      (2, (256 + S) % 65536, (((Pc + 1) % 65536 + 1) % 65536 + 1) % 65536 / 256 % 256), (2, (256 + (S + 255) % 256) % 65536, (((Pc + 1) % 65536 + 1) % 65536 + 1) % 65536 % 256 % 256)], ⟨some f, []⟩,
      some ((), ⟨A, X, Y, ((S + 255) % 256 + 255) % 256, P, 0 + f ((Pc + 1) % 65536 % 65536) * 256 ^ 0 + f (((Pc + 1) % 65536 + 1) % 65536 % 65536) * 256 ^ 1, false⟩)) := by
  rw [run_first, h]
  kernel_rfl
theorem go111 (A X Y S P Pc : Nat) (f : Nat → Nat) (h : f (Pc % 65536) = 111) : (go (runM actM ⟨A, X, Y, S, P, Pc, false⟩) [] ⟨some f, []⟩).2.2 =
      some ((), ⟨A, X, Y, ((S + 1) % 256 + 1) % 256, P, f ((256 + ((S + 1) % 256 + 1) % 256) % 65536) * 256 + f ((256 + (S + 1) % 256) % 65536), false⟩) := by
  rw [run_first, h]
  kernel_rfl
end Go.Proofs.YthecghmhohkcmaaGreatDoor
