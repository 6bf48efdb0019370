/-
  What some names do: calls and coming back, sums of bytes and of words.
-/
import Derived.Test.YthecghmhohkcmaaGreatDoorTM5
import Derived.Test.YthecghmhohkcmaaGreatDoorTM8
import Derived.Test.YthecghmhohkcmaaGreatDoorTM2
namespace Go.Proofs.YthecghmhohkcmaaGreatDoor
open Go.RowKit Go.Shelf
set_option maxRecDepth 100000
set_option maxHeartbeats 1000000
set_option linter.unusedVariables false

section
variable {K : Cx} {z : Zs} {s : Ts} {w w' : World}
theorem act_combine (h : Tk K z s w) (hn : z.n1 = .string ⟨#[65, 68, 67]⟩) : Calls Tryz.prog 52 #[.pointer (some ⟨K.b, 0, none⟩)] w fun e w' => e = .returned (.func (.func 79) #[.pointer (some ⟨K.b, 0, none⟩)] #[]) ∧ w' = w := by
  have c10 := h.lookN.2.1
  rw [hn] at c10
  clear h
  go_enter Tryz.func52, Tryz.ntmps52
  go_wp2_with fail
  go_ret
  exact ⟨rfl, rfl⟩
theorem act_addw (h : Tk K z s w) (hn : z.n1 = .string ⟨#[65, 68, 68, 87]⟩) : Calls Tryz.prog 52 #[.pointer (some ⟨K.b, 0, none⟩)] w fun e w' => e = .returned (.func (.func 90) #[.pointer (some ⟨K.b, 0, none⟩)] #[]) ∧ w' = w := by
  have c10 := h.lookN.2.1
  rw [hn] at c10
  clear h
  go_enter Tryz.func52, Tryz.ntmps52
  go_wp2_with fail
  go_ret
  exact ⟨rfl, rfl⟩
theorem act_subw (h : Tk K z s w) (hn : z.n1 = .string ⟨#[83, 85, 66, 87]⟩) : Calls Tryz.prog 52 #[.pointer (some ⟨K.b, 0, none⟩)] w fun e w' => e = .returned (.func (.func 90) #[.pointer (some ⟨K.b, 0, none⟩)] #[]) ∧ w' = w := by
  have c10 := h.lookN.2.1
  rw [hn] at c10
  clear h
  go_enter Tryz.func52, Tryz.ntmps52
  go_wp2_with fail
  go_ret
  exact ⟨rfl, rfl⟩
theorem flow_call (h : Tk K z s w) (hn : z.n1 = .string ⟨#[67, 65, 76, 76]⟩) : Calls Tryz.prog 97 #[.pointer (some ⟨K.b, 0, none⟩)] w fun e w' => e = .returned (.func (.func 133) #[.pointer (some ⟨K.b, 0, none⟩)] #[]) ∧ w' = w := by
  have c10 := h.lookN.2.1
  rw [hn] at c10
  clear h
  go_enter Tryz.func97, Tryz.ntmps97
  go_wp2_with fail
  go_ret
  exact ⟨rfl, rfl⟩
theorem act_call (h : Tk K z s w) (hn : z.n1 = .string ⟨#[67, 65, 76, 76]⟩) : Calls Tryz.prog 52 #[.pointer (some ⟨K.b, 0, none⟩)] w fun e w' => e = .returned (.func (.func 133) #[.pointer (some ⟨K.b, 0, none⟩)] #[]) ∧ w' = w := by
  have HF := Lib.hid (flow_call h hn)
  have c10 := h.lookN.2.1
  rw [hn] at c10
  clear h
  go_enter Tryz.func52, Tryz.ntmps52
  go_wp2_with fail
  with_reducible refine HF.out.mono ?_
  rintro e w1 ⟨rfl, rfl⟩
  go_wp2_with fail
  go_ret
  exact ⟨rfl, rfl⟩
theorem flow_ret (h : Tk K z s w) (hn : z.n1 = .string ⟨#[82, 69, 84]⟩) : Calls Tryz.prog 97 #[.pointer (some ⟨K.b, 0, none⟩)] w fun e w' => e = .returned (.func (.func 136) #[.pointer (some ⟨K.b, 0, none⟩)] #[]) ∧ w' = w := by
  have c10 := h.lookN.2.1
  rw [hn] at c10
  clear h
  go_enter Tryz.func97, Tryz.ntmps97
  go_wp2_with fail
  go_ret
  exact ⟨rfl, rfl⟩
theorem act_ret (h : Tk K z s w) (hn : z.n1 = .string ⟨#[82, 69, 84]⟩) : Calls Tryz.prog 52 #[.pointer (some ⟨K.b, 0, none⟩)] w fun e w' => e = .returned (.func (.func 136) #[.pointer (some ⟨K.b, 0, none⟩)] #[]) ∧ w' = w := by
  have HF := Lib.hid (flow_ret h hn)
  have c10 := h.lookN.2.1
  rw [hn] at c10
  clear h
  go_enter Tryz.func52, Tryz.ntmps52
  go_wp2_with fail
  with_reducible refine HF.out.mono ?_
  rintro e w1 ⟨rfl, rfl⟩
  go_wp2_with fail
  go_ret
  exact ⟨rfl, rfl⟩
end
end Go.Proofs.YthecghmhohkcmaaGreatDoor
