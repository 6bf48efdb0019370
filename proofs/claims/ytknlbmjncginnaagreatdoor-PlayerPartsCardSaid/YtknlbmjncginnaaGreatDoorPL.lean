/-
  Which method a name has (gentact.py writes this text): the first names.
-/
import Derived.Test.YtknlbmjncginnaaGreatDoorPF
namespace Go.Proofs.YtknlbmjncginnaaGreatDoor
open Go.RowKit Go.Shelf
set_option maxRecDepth 100000
set_option maxHeartbeats 1000000
set_option linter.unusedVariables false

section
variable {K : Cx} {z : Zs} {s : Ts} {w w' : World}
theorem act_MOV (h : Tk K z s w) (hn : z.n1 = .string ⟨#[77, 79, 86]⟩) : Calls Tryz.prog 96 #[.pointer (some ⟨K.b, 0, none⟩)] w fun e w' => e = .returned (.func (.func 139) #[.pointer (some ⟨K.b, 0, none⟩)] #[]) ∧ w' = w := by
  have c10 := h.lookN.2.1
  rw [hn] at c10
  clear h
  go_enter Tryz.func96, Tryz.ntmps96
  go_wp2_with fail
  go_ret
  exact ⟨rfl, rfl⟩
theorem act_OR (h : Tk K z s w) (hn : z.n1 = .string ⟨#[79, 82]⟩) : Calls Tryz.prog 96 #[.pointer (some ⟨K.b, 0, none⟩)] w fun e w' => e = .returned (.func (.func 140) #[.pointer (some ⟨K.b, 0, none⟩)] #[]) ∧ w' = w := by
  have c10 := h.lookN.2.1
  rw [hn] at c10
  clear h
  go_enter Tryz.func96, Tryz.ntmps96
  go_wp2_with fail
  go_ret
  exact ⟨rfl, rfl⟩
theorem act_AND (h : Tk K z s w) (hn : z.n1 = .string ⟨#[65, 78, 68]⟩) : Calls Tryz.prog 96 #[.pointer (some ⟨K.b, 0, none⟩)] w fun e w' => e = .returned (.func (.func 140) #[.pointer (some ⟨K.b, 0, none⟩)] #[]) ∧ w' = w := by
  have c10 := h.lookN.2.1
  rw [hn] at c10
  clear h
  go_enter Tryz.func96, Tryz.ntmps96
  go_wp2_with fail
  go_ret
  exact ⟨rfl, rfl⟩
theorem act_EOR (h : Tk K z s w) (hn : z.n1 = .string ⟨#[69, 79, 82]⟩) : Calls Tryz.prog 96 #[.pointer (some ⟨K.b, 0, none⟩)] w fun e w' => e = .returned (.func (.func 140) #[.pointer (some ⟨K.b, 0, none⟩)] #[]) ∧ w' = w := by
  have c10 := h.lookN.2.1
  rw [hn] at c10
  clear h
  go_enter Tryz.func96, Tryz.ntmps96
  go_wp2_with fail
  go_ret
  exact ⟨rfl, rfl⟩
theorem act_ADC (h : Tk K z s w) (hn : z.n1 = .string ⟨#[65, 68, 67]⟩) : Calls Tryz.prog 96 #[.pointer (some ⟨K.b, 0, none⟩)] w fun e w' => e = .returned (.func (.func 140) #[.pointer (some ⟨K.b, 0, none⟩)] #[]) ∧ w' = w := by
  have c10 := h.lookN.2.1
  rw [hn] at c10
  clear h
  go_enter Tryz.func96, Tryz.ntmps96
  go_wp2_with fail
  go_ret
  exact ⟨rfl, rfl⟩
theorem act_SBC (h : Tk K z s w) (hn : z.n1 = .string ⟨#[83, 66, 67]⟩) : Calls Tryz.prog 96 #[.pointer (some ⟨K.b, 0, none⟩)] w fun e w' => e = .returned (.func (.func 140) #[.pointer (some ⟨K.b, 0, none⟩)] #[]) ∧ w' = w := by
  have c10 := h.lookN.2.1
  rw [hn] at c10
  clear h
  go_enter Tryz.func96, Tryz.ntmps96
  go_wp2_with fail
  go_ret
  exact ⟨rfl, rfl⟩
theorem act_CMP (h : Tk K z s w) (hn : z.n1 = .string ⟨#[67, 77, 80]⟩) : Calls Tryz.prog 96 #[.pointer (some ⟨K.b, 0, none⟩)] w fun e w' => e = .returned (.func (.func 141) #[.pointer (some ⟨K.b, 0, none⟩)] #[]) ∧ w' = w := by
  have c10 := h.lookN.2.1
  rw [hn] at c10
  clear h
  go_enter Tryz.func96, Tryz.ntmps96
  go_wp2_with fail
  go_ret
  exact ⟨rfl, rfl⟩
theorem act_ASL (h : Tk K z s w) (hn : z.n1 = .string ⟨#[65, 83, 76]⟩) : Calls Tryz.prog 96 #[.pointer (some ⟨K.b, 0, none⟩)] w fun e w' => e = .returned (.func (.func 142) #[.pointer (some ⟨K.b, 0, none⟩)] #[]) ∧ w' = w := by
  have c10 := h.lookN.2.1
  rw [hn] at c10
  clear h
  go_enter Tryz.func96, Tryz.ntmps96
  go_wp2_with fail
  go_ret
  exact ⟨rfl, rfl⟩
theorem act_LSR (h : Tk K z s w) (hn : z.n1 = .string ⟨#[76, 83, 82]⟩) : Calls Tryz.prog 96 #[.pointer (some ⟨K.b, 0, none⟩)] w fun e w' => e = .returned (.func (.func 142) #[.pointer (some ⟨K.b, 0, none⟩)] #[]) ∧ w' = w := by
  have c10 := h.lookN.2.1
  rw [hn] at c10
  clear h
  go_enter Tryz.func96, Tryz.ntmps96
  go_wp2_with fail
  go_ret
  exact ⟨rfl, rfl⟩
theorem act_ROL (h : Tk K z s w) (hn : z.n1 = .string ⟨#[82, 79, 76]⟩) : Calls Tryz.prog 96 #[.pointer (some ⟨K.b, 0, none⟩)] w fun e w' => e = .returned (.func (.func 142) #[.pointer (some ⟨K.b, 0, none⟩)] #[]) ∧ w' = w := by
  have c10 := h.lookN.2.1
  rw [hn] at c10
  clear h
  go_enter Tryz.func96, Tryz.ntmps96
  go_wp2_with fail
  go_ret
  exact ⟨rfl, rfl⟩
theorem act_ROR (h : Tk K z s w) (hn : z.n1 = .string ⟨#[82, 79, 82]⟩) : Calls Tryz.prog 96 #[.pointer (some ⟨K.b, 0, none⟩)] w fun e w' => e = .returned (.func (.func 142) #[.pointer (some ⟨K.b, 0, none⟩)] #[]) ∧ w' = w := by
  have c10 := h.lookN.2.1
  rw [hn] at c10
  clear h
  go_enter Tryz.func96, Tryz.ntmps96
  go_wp2_with fail
  go_ret
  exact ⟨rfl, rfl⟩
theorem act_INC (h : Tk K z s w) (hn : z.n1 = .string ⟨#[73, 78, 67]⟩) : Calls Tryz.prog 96 #[.pointer (some ⟨K.b, 0, none⟩)] w fun e w' => e = .returned (.func (.func 142) #[.pointer (some ⟨K.b, 0, none⟩)] #[]) ∧ w' = w := by
  have c10 := h.lookN.2.1
  rw [hn] at c10
  clear h
  go_enter Tryz.func96, Tryz.ntmps96
  go_wp2_with fail
  go_ret
  exact ⟨rfl, rfl⟩
theorem act_DEC (h : Tk K z s w) (hn : z.n1 = .string ⟨#[68, 69, 67]⟩) : Calls Tryz.prog 96 #[.pointer (some ⟨K.b, 0, none⟩)] w fun e w' => e = .returned (.func (.func 142) #[.pointer (some ⟨K.b, 0, none⟩)] #[]) ∧ w' = w := by
  have c10 := h.lookN.2.1
  rw [hn] at c10
  clear h
  go_enter Tryz.func96, Tryz.ntmps96
  go_wp2_with fail
  go_ret
  exact ⟨rfl, rfl⟩
theorem act_DAA (h : Tk K z s w) (hn : z.n1 = .string ⟨#[68, 65, 65]⟩) : Calls Tryz.prog 96 #[.pointer (some ⟨K.b, 0, none⟩)] w fun e w' => e = .returned (.func (.func 143) #[.pointer (some ⟨K.b, 0, none⟩)] #[]) ∧ w' = w := by
  have c10 := h.lookN.2.1
  rw [hn] at c10
  clear h
  go_enter Tryz.func96, Tryz.ntmps96
  go_wp2_with fail
  go_ret
  exact ⟨rfl, rfl⟩
theorem act_DAS (h : Tk K z s w) (hn : z.n1 = .string ⟨#[68, 65, 83]⟩) : Calls Tryz.prog 96 #[.pointer (some ⟨K.b, 0, none⟩)] w fun e w' => e = .returned (.func (.func 144) #[.pointer (some ⟨K.b, 0, none⟩)] #[]) ∧ w' = w := by
  have c10 := h.lookN.2.1
  rw [hn] at c10
  clear h
  go_enter Tryz.func96, Tryz.ntmps96
  go_wp2_with fail
  go_ret
  exact ⟨rfl, rfl⟩
theorem act_XCN (h : Tk K z s w) (hn : z.n1 = .string ⟨#[88, 67, 78]⟩) : Calls Tryz.prog 96 #[.pointer (some ⟨K.b, 0, none⟩)] w fun e w' => e = .returned (.func (.func 145) #[.pointer (some ⟨K.b, 0, none⟩)] #[]) ∧ w' = w := by
  have c10 := h.lookN.2.1
  rw [hn] at c10
  clear h
  go_enter Tryz.func96, Tryz.ntmps96
  go_wp2_with fail
  go_ret
  exact ⟨rfl, rfl⟩
theorem act_SET1 (h : Tk K z s w) (hn : z.n1 = .string ⟨#[83, 69, 84, 49]⟩) : Calls Tryz.prog 96 #[.pointer (some ⟨K.b, 0, none⟩)] w fun e w' => e = .returned (.func (.func 146) #[.pointer (some ⟨K.b, 0, none⟩)] #[]) ∧ w' = w := by
  have c10 := h.lookN.2.1
  rw [hn] at c10
  clear h
  go_enter Tryz.func96, Tryz.ntmps96
  go_wp2_with fail
  go_ret
  exact ⟨rfl, rfl⟩
theorem act_CLR1 (h : Tk K z s w) (hn : z.n1 = .string ⟨#[67, 76, 82, 49]⟩) : Calls Tryz.prog 96 #[.pointer (some ⟨K.b, 0, none⟩)] w fun e w' => e = .returned (.func (.func 146) #[.pointer (some ⟨K.b, 0, none⟩)] #[]) ∧ w' = w := by
  have c10 := h.lookN.2.1
  rw [hn] at c10
  clear h
  go_enter Tryz.func96, Tryz.ntmps96
  go_wp2_with fail
  go_ret
  exact ⟨rfl, rfl⟩
theorem act_NOT1 (h : Tk K z s w) (hn : z.n1 = .string ⟨#[78, 79, 84, 49]⟩) : Calls Tryz.prog 96 #[.pointer (some ⟨K.b, 0, none⟩)] w fun e w' => e = .returned (.func (.func 146) #[.pointer (some ⟨K.b, 0, none⟩)] #[]) ∧ w' = w := by
  have c10 := h.lookN.2.1
  rw [hn] at c10
  clear h
  go_enter Tryz.func96, Tryz.ntmps96
  go_wp2_with fail
  go_ret
  exact ⟨rfl, rfl⟩
theorem act_TSET1 (h : Tk K z s w) (hn : z.n1 = .string ⟨#[84, 83, 69, 84, 49]⟩) : Calls Tryz.prog 96 #[.pointer (some ⟨K.b, 0, none⟩)] w fun e w' => e = .returned (.func (.func 147) #[.pointer (some ⟨K.b, 0, none⟩)] #[]) ∧ w' = w := by
  have c10 := h.lookN.2.1
  rw [hn] at c10
  clear h
  go_enter Tryz.func96, Tryz.ntmps96
  go_wp2_with fail
  go_ret
  exact ⟨rfl, rfl⟩
theorem act_TCLR1 (h : Tk K z s w) (hn : z.n1 = .string ⟨#[84, 67, 76, 82, 49]⟩) : Calls Tryz.prog 96 #[.pointer (some ⟨K.b, 0, none⟩)] w fun e w' => e = .returned (.func (.func 147) #[.pointer (some ⟨K.b, 0, none⟩)] #[]) ∧ w' = w := by
  have c10 := h.lookN.2.1
  rw [hn] at c10
  clear h
  go_enter Tryz.func96, Tryz.ntmps96
  go_wp2_with fail
  go_ret
  exact ⟨rfl, rfl⟩
end
end Go.Proofs.YtknlbmjncginnaaGreatDoor
namespace Go.Proofs.YtknlbmjncginnaaGreatDoor
open Go.RowKit Go.Shelf
set_option maxRecDepth 100000
set_option maxHeartbeats 1000000
set_option linter.unusedVariables false

section
variable {K : Cx} {z : Zs} {s : Ts} {w w' : World}
theorem act_OR1 (h : Tk K z s w) (hn : z.n1 = .string ⟨#[79, 82, 49]⟩) : Calls Tryz.prog 96 #[.pointer (some ⟨K.b, 0, none⟩)] w fun e w' => e = .returned (.func (.func 148) #[.pointer (some ⟨K.b, 0, none⟩)] #[]) ∧ w' = w := by
  have c10 := h.lookN.2.1
  rw [hn] at c10
  clear h
  go_enter Tryz.func96, Tryz.ntmps96
  go_wp2_with fail
  go_ret
  exact ⟨rfl, rfl⟩
theorem act_AND1 (h : Tk K z s w) (hn : z.n1 = .string ⟨#[65, 78, 68, 49]⟩) : Calls Tryz.prog 96 #[.pointer (some ⟨K.b, 0, none⟩)] w fun e w' => e = .returned (.func (.func 148) #[.pointer (some ⟨K.b, 0, none⟩)] #[]) ∧ w' = w := by
  have c10 := h.lookN.2.1
  rw [hn] at c10
  clear h
  go_enter Tryz.func96, Tryz.ntmps96
  go_wp2_with fail
  go_ret
  exact ⟨rfl, rfl⟩
theorem act_EOR1 (h : Tk K z s w) (hn : z.n1 = .string ⟨#[69, 79, 82, 49]⟩) : Calls Tryz.prog 96 #[.pointer (some ⟨K.b, 0, none⟩)] w fun e w' => e = .returned (.func (.func 148) #[.pointer (some ⟨K.b, 0, none⟩)] #[]) ∧ w' = w := by
  have c10 := h.lookN.2.1
  rw [hn] at c10
  clear h
  go_enter Tryz.func96, Tryz.ntmps96
  go_wp2_with fail
  go_ret
  exact ⟨rfl, rfl⟩
theorem act_MOV1 (h : Tk K z s w) (hn : z.n1 = .string ⟨#[77, 79, 86, 49]⟩) : Calls Tryz.prog 96 #[.pointer (some ⟨K.b, 0, none⟩)] w fun e w' => e = .returned (.func (.func 149) #[.pointer (some ⟨K.b, 0, none⟩)] #[]) ∧ w' = w := by
  have c10 := h.lookN.2.1
  rw [hn] at c10
  clear h
  go_enter Tryz.func96, Tryz.ntmps96
  go_wp2_with fail
  go_ret
  exact ⟨rfl, rfl⟩
theorem act_MOVW (h : Tk K z s w) (hn : z.n1 = .string ⟨#[77, 79, 86, 87]⟩) : Calls Tryz.prog 96 #[.pointer (some ⟨K.b, 0, none⟩)] w fun e w' => e = .returned (.func (.func 150) #[.pointer (some ⟨K.b, 0, none⟩)] #[]) ∧ w' = w := by
  have c10 := h.lookN.2.1
  rw [hn] at c10
  clear h
  go_enter Tryz.func96, Tryz.ntmps96
  go_wp2_with fail
  go_ret
  exact ⟨rfl, rfl⟩
theorem act_ADDW (h : Tk K z s w) (hn : z.n1 = .string ⟨#[65, 68, 68, 87]⟩) : Calls Tryz.prog 96 #[.pointer (some ⟨K.b, 0, none⟩)] w fun e w' => e = .returned (.func (.func 151) #[.pointer (some ⟨K.b, 0, none⟩)] #[]) ∧ w' = w := by
  have c10 := h.lookN.2.1
  rw [hn] at c10
  clear h
  go_enter Tryz.func96, Tryz.ntmps96
  go_wp2_with fail
  go_ret
  exact ⟨rfl, rfl⟩
theorem act_SUBW (h : Tk K z s w) (hn : z.n1 = .string ⟨#[83, 85, 66, 87]⟩) : Calls Tryz.prog 96 #[.pointer (some ⟨K.b, 0, none⟩)] w fun e w' => e = .returned (.func (.func 151) #[.pointer (some ⟨K.b, 0, none⟩)] #[]) ∧ w' = w := by
  have c10 := h.lookN.2.1
  rw [hn] at c10
  clear h
  go_enter Tryz.func96, Tryz.ntmps96
  go_wp2_with fail
  go_ret
  exact ⟨rfl, rfl⟩
theorem act_CMPW (h : Tk K z s w) (hn : z.n1 = .string ⟨#[67, 77, 80, 87]⟩) : Calls Tryz.prog 96 #[.pointer (some ⟨K.b, 0, none⟩)] w fun e w' => e = .returned (.func (.func 152) #[.pointer (some ⟨K.b, 0, none⟩)] #[]) ∧ w' = w := by
  have c10 := h.lookN.2.1
  rw [hn] at c10
  clear h
  go_enter Tryz.func96, Tryz.ntmps96
  go_wp2_with fail
  go_ret
  exact ⟨rfl, rfl⟩
theorem act_INCW (h : Tk K z s w) (hn : z.n1 = .string ⟨#[73, 78, 67, 87]⟩) : Calls Tryz.prog 96 #[.pointer (some ⟨K.b, 0, none⟩)] w fun e w' => e = .returned (.func (.func 153) #[.pointer (some ⟨K.b, 0, none⟩)] #[]) ∧ w' = w := by
  have c10 := h.lookN.2.1
  rw [hn] at c10
  clear h
  go_enter Tryz.func96, Tryz.ntmps96
  go_wp2_with fail
  go_ret
  exact ⟨rfl, rfl⟩
theorem act_DECW (h : Tk K z s w) (hn : z.n1 = .string ⟨#[68, 69, 67, 87]⟩) : Calls Tryz.prog 96 #[.pointer (some ⟨K.b, 0, none⟩)] w fun e w' => e = .returned (.func (.func 153) #[.pointer (some ⟨K.b, 0, none⟩)] #[]) ∧ w' = w := by
  have c10 := h.lookN.2.1
  rw [hn] at c10
  clear h
  go_enter Tryz.func96, Tryz.ntmps96
  go_wp2_with fail
  go_ret
  exact ⟨rfl, rfl⟩
theorem act_MUL (h : Tk K z s w) (hn : z.n1 = .string ⟨#[77, 85, 76]⟩) : Calls Tryz.prog 96 #[.pointer (some ⟨K.b, 0, none⟩)] w fun e w' => e = .returned (.func (.func 154) #[.pointer (some ⟨K.b, 0, none⟩)] #[]) ∧ w' = w := by
  have c10 := h.lookN.2.1
  rw [hn] at c10
  clear h
  go_enter Tryz.func96, Tryz.ntmps96
  go_wp2_with fail
  go_ret
  exact ⟨rfl, rfl⟩
theorem act_DIV (h : Tk K z s w) (hn : z.n1 = .string ⟨#[68, 73, 86]⟩) : Calls Tryz.prog 96 #[.pointer (some ⟨K.b, 0, none⟩)] w fun e w' => e = .returned (.func (.func 155) #[.pointer (some ⟨K.b, 0, none⟩)] #[]) ∧ w' = w := by
  have c10 := h.lookN.2.1
  rw [hn] at c10
  clear h
  go_enter Tryz.func96, Tryz.ntmps96
  go_wp2_with fail
  go_ret
  exact ⟨rfl, rfl⟩
theorem act_CLRC (h : Tk K z s w) (hn : z.n1 = .string ⟨#[67, 76, 82, 67]⟩) : Calls Tryz.prog 96 #[.pointer (some ⟨K.b, 0, none⟩)] w fun e w' => e = .returned (.func (.func 156) #[.pointer (some ⟨K.b, 0, none⟩)] #[]) ∧ w' = w := by
  have c10 := h.lookN.2.1
  rw [hn] at c10
  clear h
  go_enter Tryz.func96, Tryz.ntmps96
  go_wp2_with fail
  go_ret
  exact ⟨rfl, rfl⟩
theorem act_SETC (h : Tk K z s w) (hn : z.n1 = .string ⟨#[83, 69, 84, 67]⟩) : Calls Tryz.prog 96 #[.pointer (some ⟨K.b, 0, none⟩)] w fun e w' => e = .returned (.func (.func 156) #[.pointer (some ⟨K.b, 0, none⟩)] #[]) ∧ w' = w := by
  have c10 := h.lookN.2.1
  rw [hn] at c10
  clear h
  go_enter Tryz.func96, Tryz.ntmps96
  go_wp2_with fail
  go_ret
  exact ⟨rfl, rfl⟩
theorem act_NOTC (h : Tk K z s w) (hn : z.n1 = .string ⟨#[78, 79, 84, 67]⟩) : Calls Tryz.prog 96 #[.pointer (some ⟨K.b, 0, none⟩)] w fun e w' => e = .returned (.func (.func 156) #[.pointer (some ⟨K.b, 0, none⟩)] #[]) ∧ w' = w := by
  have c10 := h.lookN.2.1
  rw [hn] at c10
  clear h
  go_enter Tryz.func96, Tryz.ntmps96
  go_wp2_with fail
  go_ret
  exact ⟨rfl, rfl⟩
theorem act_CLRP (h : Tk K z s w) (hn : z.n1 = .string ⟨#[67, 76, 82, 80]⟩) : Calls Tryz.prog 96 #[.pointer (some ⟨K.b, 0, none⟩)] w fun e w' => e = .returned (.func (.func 156) #[.pointer (some ⟨K.b, 0, none⟩)] #[]) ∧ w' = w := by
  have c10 := h.lookN.2.1
  rw [hn] at c10
  clear h
  go_enter Tryz.func96, Tryz.ntmps96
  go_wp2_with fail
  go_ret
  exact ⟨rfl, rfl⟩
theorem act_SETP (h : Tk K z s w) (hn : z.n1 = .string ⟨#[83, 69, 84, 80]⟩) : Calls Tryz.prog 96 #[.pointer (some ⟨K.b, 0, none⟩)] w fun e w' => e = .returned (.func (.func 156) #[.pointer (some ⟨K.b, 0, none⟩)] #[]) ∧ w' = w := by
  have c10 := h.lookN.2.1
  rw [hn] at c10
  clear h
  go_enter Tryz.func96, Tryz.ntmps96
  go_wp2_with fail
  go_ret
  exact ⟨rfl, rfl⟩
theorem act_EI (h : Tk K z s w) (hn : z.n1 = .string ⟨#[69, 73]⟩) : Calls Tryz.prog 96 #[.pointer (some ⟨K.b, 0, none⟩)] w fun e w' => e = .returned (.func (.func 156) #[.pointer (some ⟨K.b, 0, none⟩)] #[]) ∧ w' = w := by
  have c10 := h.lookN.2.1
  rw [hn] at c10
  clear h
  go_enter Tryz.func96, Tryz.ntmps96
  go_wp2_with fail
  go_ret
  exact ⟨rfl, rfl⟩
theorem act_DI (h : Tk K z s w) (hn : z.n1 = .string ⟨#[68, 73]⟩) : Calls Tryz.prog 96 #[.pointer (some ⟨K.b, 0, none⟩)] w fun e w' => e = .returned (.func (.func 156) #[.pointer (some ⟨K.b, 0, none⟩)] #[]) ∧ w' = w := by
  have c10 := h.lookN.2.1
  rw [hn] at c10
  clear h
  go_enter Tryz.func96, Tryz.ntmps96
  go_wp2_with fail
  go_ret
  exact ⟨rfl, rfl⟩
theorem act_CLRV (h : Tk K z s w) (hn : z.n1 = .string ⟨#[67, 76, 82, 86]⟩) : Calls Tryz.prog 96 #[.pointer (some ⟨K.b, 0, none⟩)] w fun e w' => e = .returned (.func (.func 156) #[.pointer (some ⟨K.b, 0, none⟩)] #[]) ∧ w' = w := by
  have c10 := h.lookN.2.1
  rw [hn] at c10
  clear h
  go_enter Tryz.func96, Tryz.ntmps96
  go_wp2_with fail
  go_ret
  exact ⟨rfl, rfl⟩
theorem act_NOP (h : Tk K z s w) (hn : z.n1 = .string ⟨#[78, 79, 80]⟩) : Calls Tryz.prog 96 #[.pointer (some ⟨K.b, 0, none⟩)] w fun e w' => e = .returned (.func (.func 157) #[.pointer (some ⟨K.b, 0, none⟩)] #[]) ∧ w' = w := by
  have c10 := h.lookN.2.1
  rw [hn] at c10
  clear h
  go_enter Tryz.func96, Tryz.ntmps96
  go_wp2_with fail
  go_ret
  exact ⟨rfl, rfl⟩
end
end Go.Proofs.YtknlbmjncginnaaGreatDoor
namespace Go.Proofs.YtknlbmjncginnaaGreatDoor
open Go.RowKit Go.Shelf
set_option maxRecDepth 100000
set_option maxHeartbeats 1000000
set_option linter.unusedVariables false

section
variable {K : Cx} {z : Zs} {s : Ts} {w w' : World}
theorem flow_PUSH (h : Tk K z s w) (hn : z.n1 = .string ⟨#[80, 85, 83, 72]⟩) : Calls Tryz.prog 158 #[.pointer (some ⟨K.b, 0, none⟩)] w fun e w' => e = .returned (.func (.func 207) #[.pointer (some ⟨K.b, 0, none⟩)] #[]) ∧ w' = w := by
  have c10 := h.lookN.2.1
  rw [hn] at c10
  clear h
  go_enter Tryz.func158, Tryz.ntmps158
  go_wp2_with fail
  go_ret
  exact ⟨rfl, rfl⟩
theorem act_PUSH (h : Tk K z s w) (hn : z.n1 = .string ⟨#[80, 85, 83, 72]⟩) : Calls Tryz.prog 96 #[.pointer (some ⟨K.b, 0, none⟩)] w fun e w' => e = .returned (.func (.func 207) #[.pointer (some ⟨K.b, 0, none⟩)] #[]) ∧ w' = w := by
  have HF := Lib.hid (flow_PUSH h hn)
  have c10 := h.lookN.2.1
  rw [hn] at c10
  clear h
  go_enter Tryz.func96, Tryz.ntmps96
  go_wp2_with fail
  with_reducible refine HF.out.mono ?_
  rintro e w1 ⟨rfl, rfl⟩
  go_wp2_with fail
  go_ret
  exact ⟨rfl, rfl⟩
theorem flow_POP (h : Tk K z s w) (hn : z.n1 = .string ⟨#[80, 79, 80]⟩) : Calls Tryz.prog 158 #[.pointer (some ⟨K.b, 0, none⟩)] w fun e w' => e = .returned (.func (.func 208) #[.pointer (some ⟨K.b, 0, none⟩)] #[]) ∧ w' = w := by
  have c10 := h.lookN.2.1
  rw [hn] at c10
  clear h
  go_enter Tryz.func158, Tryz.ntmps158
  go_wp2_with fail
  go_ret
  exact ⟨rfl, rfl⟩
theorem act_POP (h : Tk K z s w) (hn : z.n1 = .string ⟨#[80, 79, 80]⟩) : Calls Tryz.prog 96 #[.pointer (some ⟨K.b, 0, none⟩)] w fun e w' => e = .returned (.func (.func 208) #[.pointer (some ⟨K.b, 0, none⟩)] #[]) ∧ w' = w := by
  have HF := Lib.hid (flow_POP h hn)
  have c10 := h.lookN.2.1
  rw [hn] at c10
  clear h
  go_enter Tryz.func96, Tryz.ntmps96
  go_wp2_with fail
  with_reducible refine HF.out.mono ?_
  rintro e w1 ⟨rfl, rfl⟩
  go_wp2_with fail
  go_ret
  exact ⟨rfl, rfl⟩
theorem flow_BPL (h : Tk K z s w) (hn : z.n1 = .string ⟨#[66, 80, 76]⟩) : Calls Tryz.prog 158 #[.pointer (some ⟨K.b, 0, none⟩)] w fun e w' => e = .returned (.func (.func 209) #[.pointer (some ⟨K.b, 0, none⟩)] #[]) ∧ w' = w := by
  have c10 := h.lookN.2.1
  rw [hn] at c10
  clear h
  go_enter Tryz.func158, Tryz.ntmps158
  go_wp2_with fail
  go_ret
  exact ⟨rfl, rfl⟩
theorem act_BPL (h : Tk K z s w) (hn : z.n1 = .string ⟨#[66, 80, 76]⟩) : Calls Tryz.prog 96 #[.pointer (some ⟨K.b, 0, none⟩)] w fun e w' => e = .returned (.func (.func 209) #[.pointer (some ⟨K.b, 0, none⟩)] #[]) ∧ w' = w := by
  have HF := Lib.hid (flow_BPL h hn)
  have c10 := h.lookN.2.1
  rw [hn] at c10
  clear h
  go_enter Tryz.func96, Tryz.ntmps96
  go_wp2_with fail
  with_reducible refine HF.out.mono ?_
  rintro e w1 ⟨rfl, rfl⟩
  go_wp2_with fail
  go_ret
  exact ⟨rfl, rfl⟩
theorem flow_BMI (h : Tk K z s w) (hn : z.n1 = .string ⟨#[66, 77, 73]⟩) : Calls Tryz.prog 158 #[.pointer (some ⟨K.b, 0, none⟩)] w fun e w' => e = .returned (.func (.func 209) #[.pointer (some ⟨K.b, 0, none⟩)] #[]) ∧ w' = w := by
  have c10 := h.lookN.2.1
  rw [hn] at c10
  clear h
  go_enter Tryz.func158, Tryz.ntmps158
  go_wp2_with fail
  go_ret
  exact ⟨rfl, rfl⟩
theorem act_BMI (h : Tk K z s w) (hn : z.n1 = .string ⟨#[66, 77, 73]⟩) : Calls Tryz.prog 96 #[.pointer (some ⟨K.b, 0, none⟩)] w fun e w' => e = .returned (.func (.func 209) #[.pointer (some ⟨K.b, 0, none⟩)] #[]) ∧ w' = w := by
  have HF := Lib.hid (flow_BMI h hn)
  have c10 := h.lookN.2.1
  rw [hn] at c10
  clear h
  go_enter Tryz.func96, Tryz.ntmps96
  go_wp2_with fail
  with_reducible refine HF.out.mono ?_
  rintro e w1 ⟨rfl, rfl⟩
  go_wp2_with fail
  go_ret
  exact ⟨rfl, rfl⟩
theorem flow_BVC (h : Tk K z s w) (hn : z.n1 = .string ⟨#[66, 86, 67]⟩) : Calls Tryz.prog 158 #[.pointer (some ⟨K.b, 0, none⟩)] w fun e w' => e = .returned (.func (.func 209) #[.pointer (some ⟨K.b, 0, none⟩)] #[]) ∧ w' = w := by
  have c10 := h.lookN.2.1
  rw [hn] at c10
  clear h
  go_enter Tryz.func158, Tryz.ntmps158
  go_wp2_with fail
  go_ret
  exact ⟨rfl, rfl⟩
theorem act_BVC (h : Tk K z s w) (hn : z.n1 = .string ⟨#[66, 86, 67]⟩) : Calls Tryz.prog 96 #[.pointer (some ⟨K.b, 0, none⟩)] w fun e w' => e = .returned (.func (.func 209) #[.pointer (some ⟨K.b, 0, none⟩)] #[]) ∧ w' = w := by
  have HF := Lib.hid (flow_BVC h hn)
  have c10 := h.lookN.2.1
  rw [hn] at c10
  clear h
  go_enter Tryz.func96, Tryz.ntmps96
  go_wp2_with fail
  with_reducible refine HF.out.mono ?_
  rintro e w1 ⟨rfl, rfl⟩
  go_wp2_with fail
  go_ret
  exact ⟨rfl, rfl⟩
theorem flow_BVS (h : Tk K z s w) (hn : z.n1 = .string ⟨#[66, 86, 83]⟩) : Calls Tryz.prog 158 #[.pointer (some ⟨K.b, 0, none⟩)] w fun e w' => e = .returned (.func (.func 209) #[.pointer (some ⟨K.b, 0, none⟩)] #[]) ∧ w' = w := by
  have c10 := h.lookN.2.1
  rw [hn] at c10
  clear h
  go_enter Tryz.func158, Tryz.ntmps158
  go_wp2_with fail
  go_ret
  exact ⟨rfl, rfl⟩
theorem act_BVS (h : Tk K z s w) (hn : z.n1 = .string ⟨#[66, 86, 83]⟩) : Calls Tryz.prog 96 #[.pointer (some ⟨K.b, 0, none⟩)] w fun e w' => e = .returned (.func (.func 209) #[.pointer (some ⟨K.b, 0, none⟩)] #[]) ∧ w' = w := by
  have HF := Lib.hid (flow_BVS h hn)
  have c10 := h.lookN.2.1
  rw [hn] at c10
  clear h
  go_enter Tryz.func96, Tryz.ntmps96
  go_wp2_with fail
  with_reducible refine HF.out.mono ?_
  rintro e w1 ⟨rfl, rfl⟩
  go_wp2_with fail
  go_ret
  exact ⟨rfl, rfl⟩
theorem flow_BCC (h : Tk K z s w) (hn : z.n1 = .string ⟨#[66, 67, 67]⟩) : Calls Tryz.prog 158 #[.pointer (some ⟨K.b, 0, none⟩)] w fun e w' => e = .returned (.func (.func 209) #[.pointer (some ⟨K.b, 0, none⟩)] #[]) ∧ w' = w := by
  have c10 := h.lookN.2.1
  rw [hn] at c10
  clear h
  go_enter Tryz.func158, Tryz.ntmps158
  go_wp2_with fail
  go_ret
  exact ⟨rfl, rfl⟩
theorem act_BCC (h : Tk K z s w) (hn : z.n1 = .string ⟨#[66, 67, 67]⟩) : Calls Tryz.prog 96 #[.pointer (some ⟨K.b, 0, none⟩)] w fun e w' => e = .returned (.func (.func 209) #[.pointer (some ⟨K.b, 0, none⟩)] #[]) ∧ w' = w := by
  have HF := Lib.hid (flow_BCC h hn)
  have c10 := h.lookN.2.1
  rw [hn] at c10
  clear h
  go_enter Tryz.func96, Tryz.ntmps96
  go_wp2_with fail
  with_reducible refine HF.out.mono ?_
  rintro e w1 ⟨rfl, rfl⟩
  go_wp2_with fail
  go_ret
  exact ⟨rfl, rfl⟩
theorem flow_BCS (h : Tk K z s w) (hn : z.n1 = .string ⟨#[66, 67, 83]⟩) : Calls Tryz.prog 158 #[.pointer (some ⟨K.b, 0, none⟩)] w fun e w' => e = .returned (.func (.func 209) #[.pointer (some ⟨K.b, 0, none⟩)] #[]) ∧ w' = w := by
  have c10 := h.lookN.2.1
  rw [hn] at c10
  clear h
  go_enter Tryz.func158, Tryz.ntmps158
  go_wp2_with fail
  go_ret
  exact ⟨rfl, rfl⟩
theorem act_BCS (h : Tk K z s w) (hn : z.n1 = .string ⟨#[66, 67, 83]⟩) : Calls Tryz.prog 96 #[.pointer (some ⟨K.b, 0, none⟩)] w fun e w' => e = .returned (.func (.func 209) #[.pointer (some ⟨K.b, 0, none⟩)] #[]) ∧ w' = w := by
  have HF := Lib.hid (flow_BCS h hn)
  have c10 := h.lookN.2.1
  rw [hn] at c10
  clear h
  go_enter Tryz.func96, Tryz.ntmps96
  go_wp2_with fail
  with_reducible refine HF.out.mono ?_
  rintro e w1 ⟨rfl, rfl⟩
  go_wp2_with fail
  go_ret
  exact ⟨rfl, rfl⟩
theorem flow_BNE (h : Tk K z s w) (hn : z.n1 = .string ⟨#[66, 78, 69]⟩) : Calls Tryz.prog 158 #[.pointer (some ⟨K.b, 0, none⟩)] w fun e w' => e = .returned (.func (.func 209) #[.pointer (some ⟨K.b, 0, none⟩)] #[]) ∧ w' = w := by
  have c10 := h.lookN.2.1
  rw [hn] at c10
  clear h
  go_enter Tryz.func158, Tryz.ntmps158
  go_wp2_with fail
  go_ret
  exact ⟨rfl, rfl⟩
theorem act_BNE (h : Tk K z s w) (hn : z.n1 = .string ⟨#[66, 78, 69]⟩) : Calls Tryz.prog 96 #[.pointer (some ⟨K.b, 0, none⟩)] w fun e w' => e = .returned (.func (.func 209) #[.pointer (some ⟨K.b, 0, none⟩)] #[]) ∧ w' = w := by
  have HF := Lib.hid (flow_BNE h hn)
  have c10 := h.lookN.2.1
  rw [hn] at c10
  clear h
  go_enter Tryz.func96, Tryz.ntmps96
  go_wp2_with fail
  with_reducible refine HF.out.mono ?_
  rintro e w1 ⟨rfl, rfl⟩
  go_wp2_with fail
  go_ret
  exact ⟨rfl, rfl⟩
theorem flow_BEQ (h : Tk K z s w) (hn : z.n1 = .string ⟨#[66, 69, 81]⟩) : Calls Tryz.prog 158 #[.pointer (some ⟨K.b, 0, none⟩)] w fun e w' => e = .returned (.func (.func 209) #[.pointer (some ⟨K.b, 0, none⟩)] #[]) ∧ w' = w := by
  have c10 := h.lookN.2.1
  rw [hn] at c10
  clear h
  go_enter Tryz.func158, Tryz.ntmps158
  go_wp2_with fail
  go_ret
  exact ⟨rfl, rfl⟩
theorem act_BEQ (h : Tk K z s w) (hn : z.n1 = .string ⟨#[66, 69, 81]⟩) : Calls Tryz.prog 96 #[.pointer (some ⟨K.b, 0, none⟩)] w fun e w' => e = .returned (.func (.func 209) #[.pointer (some ⟨K.b, 0, none⟩)] #[]) ∧ w' = w := by
  have HF := Lib.hid (flow_BEQ h hn)
  have c10 := h.lookN.2.1
  rw [hn] at c10
  clear h
  go_enter Tryz.func96, Tryz.ntmps96
  go_wp2_with fail
  with_reducible refine HF.out.mono ?_
  rintro e w1 ⟨rfl, rfl⟩
  go_wp2_with fail
  go_ret
  exact ⟨rfl, rfl⟩
theorem flow_BRA (h : Tk K z s w) (hn : z.n1 = .string ⟨#[66, 82, 65]⟩) : Calls Tryz.prog 158 #[.pointer (some ⟨K.b, 0, none⟩)] w fun e w' => e = .returned (.func (.func 209) #[.pointer (some ⟨K.b, 0, none⟩)] #[]) ∧ w' = w := by
  have c10 := h.lookN.2.1
  rw [hn] at c10
  clear h
  go_enter Tryz.func158, Tryz.ntmps158
  go_wp2_with fail
  go_ret
  exact ⟨rfl, rfl⟩
theorem act_BRA (h : Tk K z s w) (hn : z.n1 = .string ⟨#[66, 82, 65]⟩) : Calls Tryz.prog 96 #[.pointer (some ⟨K.b, 0, none⟩)] w fun e w' => e = .returned (.func (.func 209) #[.pointer (some ⟨K.b, 0, none⟩)] #[]) ∧ w' = w := by
  have HF := Lib.hid (flow_BRA h hn)
  have c10 := h.lookN.2.1
  rw [hn] at c10
  clear h
  go_enter Tryz.func96, Tryz.ntmps96
  go_wp2_with fail
  with_reducible refine HF.out.mono ?_
  rintro e w1 ⟨rfl, rfl⟩
  go_wp2_with fail
  go_ret
  exact ⟨rfl, rfl⟩
theorem flow_BBS (h : Tk K z s w) (hn : z.n1 = .string ⟨#[66, 66, 83]⟩) : Calls Tryz.prog 158 #[.pointer (some ⟨K.b, 0, none⟩)] w fun e w' => e = .returned (.func (.func 210) #[.pointer (some ⟨K.b, 0, none⟩)] #[]) ∧ w' = w := by
  have c10 := h.lookN.2.1
  rw [hn] at c10
  clear h
  go_enter Tryz.func158, Tryz.ntmps158
  go_wp2_with fail
  go_ret
  exact ⟨rfl, rfl⟩
theorem act_BBS (h : Tk K z s w) (hn : z.n1 = .string ⟨#[66, 66, 83]⟩) : Calls Tryz.prog 96 #[.pointer (some ⟨K.b, 0, none⟩)] w fun e w' => e = .returned (.func (.func 210) #[.pointer (some ⟨K.b, 0, none⟩)] #[]) ∧ w' = w := by
  have HF := Lib.hid (flow_BBS h hn)
  have c10 := h.lookN.2.1
  rw [hn] at c10
  clear h
  go_enter Tryz.func96, Tryz.ntmps96
  go_wp2_with fail
  with_reducible refine HF.out.mono ?_
  rintro e w1 ⟨rfl, rfl⟩
  go_wp2_with fail
  go_ret
  exact ⟨rfl, rfl⟩
end
end Go.Proofs.YtknlbmjncginnaaGreatDoor
namespace Go.Proofs.YtknlbmjncginnaaGreatDoor
open Go.RowKit Go.Shelf
set_option maxRecDepth 100000
set_option maxHeartbeats 1000000
set_option linter.unusedVariables false

section
variable {K : Cx} {z : Zs} {s : Ts} {w w' : World}
theorem flow_BBC (h : Tk K z s w) (hn : z.n1 = .string ⟨#[66, 66, 67]⟩) : Calls Tryz.prog 158 #[.pointer (some ⟨K.b, 0, none⟩)] w fun e w' => e = .returned (.func (.func 210) #[.pointer (some ⟨K.b, 0, none⟩)] #[]) ∧ w' = w := by
  have c10 := h.lookN.2.1
  rw [hn] at c10
  clear h
  go_enter Tryz.func158, Tryz.ntmps158
  go_wp2_with fail
  go_ret
  exact ⟨rfl, rfl⟩
theorem act_BBC (h : Tk K z s w) (hn : z.n1 = .string ⟨#[66, 66, 67]⟩) : Calls Tryz.prog 96 #[.pointer (some ⟨K.b, 0, none⟩)] w fun e w' => e = .returned (.func (.func 210) #[.pointer (some ⟨K.b, 0, none⟩)] #[]) ∧ w' = w := by
  have HF := Lib.hid (flow_BBC h hn)
  have c10 := h.lookN.2.1
  rw [hn] at c10
  clear h
  go_enter Tryz.func96, Tryz.ntmps96
  go_wp2_with fail
  with_reducible refine HF.out.mono ?_
  rintro e w1 ⟨rfl, rfl⟩
  go_wp2_with fail
  go_ret
  exact ⟨rfl, rfl⟩
theorem flow_CBNE (h : Tk K z s w) (hn : z.n1 = .string ⟨#[67, 66, 78, 69]⟩) : Calls Tryz.prog 158 #[.pointer (some ⟨K.b, 0, none⟩)] w fun e w' => e = .returned (.func (.func 211) #[.pointer (some ⟨K.b, 0, none⟩)] #[]) ∧ w' = w := by
  have c10 := h.lookN.2.1
  rw [hn] at c10
  clear h
  go_enter Tryz.func158, Tryz.ntmps158
  go_wp2_with fail
  go_ret
  exact ⟨rfl, rfl⟩
theorem act_CBNE (h : Tk K z s w) (hn : z.n1 = .string ⟨#[67, 66, 78, 69]⟩) : Calls Tryz.prog 96 #[.pointer (some ⟨K.b, 0, none⟩)] w fun e w' => e = .returned (.func (.func 211) #[.pointer (some ⟨K.b, 0, none⟩)] #[]) ∧ w' = w := by
  have HF := Lib.hid (flow_CBNE h hn)
  have c10 := h.lookN.2.1
  rw [hn] at c10
  clear h
  go_enter Tryz.func96, Tryz.ntmps96
  go_wp2_with fail
  with_reducible refine HF.out.mono ?_
  rintro e w1 ⟨rfl, rfl⟩
  go_wp2_with fail
  go_ret
  exact ⟨rfl, rfl⟩
theorem flow_DBNZ (h : Tk K z s w) (hn : z.n1 = .string ⟨#[68, 66, 78, 90]⟩) : Calls Tryz.prog 158 #[.pointer (some ⟨K.b, 0, none⟩)] w fun e w' => e = .returned (.func (.func 212) #[.pointer (some ⟨K.b, 0, none⟩)] #[]) ∧ w' = w := by
  have c10 := h.lookN.2.1
  rw [hn] at c10
  clear h
  go_enter Tryz.func158, Tryz.ntmps158
  go_wp2_with fail
  go_ret
  exact ⟨rfl, rfl⟩
theorem act_DBNZ (h : Tk K z s w) (hn : z.n1 = .string ⟨#[68, 66, 78, 90]⟩) : Calls Tryz.prog 96 #[.pointer (some ⟨K.b, 0, none⟩)] w fun e w' => e = .returned (.func (.func 212) #[.pointer (some ⟨K.b, 0, none⟩)] #[]) ∧ w' = w := by
  have HF := Lib.hid (flow_DBNZ h hn)
  have c10 := h.lookN.2.1
  rw [hn] at c10
  clear h
  go_enter Tryz.func96, Tryz.ntmps96
  go_wp2_with fail
  with_reducible refine HF.out.mono ?_
  rintro e w1 ⟨rfl, rfl⟩
  go_wp2_with fail
  go_ret
  exact ⟨rfl, rfl⟩
theorem flow_JMP (h : Tk K z s w) (hn : z.n1 = .string ⟨#[74, 77, 80]⟩) : Calls Tryz.prog 158 #[.pointer (some ⟨K.b, 0, none⟩)] w fun e w' => e = .returned (.func (.func 213) #[.pointer (some ⟨K.b, 0, none⟩)] #[]) ∧ w' = w := by
  have c10 := h.lookN.2.1
  rw [hn] at c10
  clear h
  go_enter Tryz.func158, Tryz.ntmps158
  go_wp2_with fail
  go_ret
  exact ⟨rfl, rfl⟩
theorem act_JMP (h : Tk K z s w) (hn : z.n1 = .string ⟨#[74, 77, 80]⟩) : Calls Tryz.prog 96 #[.pointer (some ⟨K.b, 0, none⟩)] w fun e w' => e = .returned (.func (.func 213) #[.pointer (some ⟨K.b, 0, none⟩)] #[]) ∧ w' = w := by
  have HF := Lib.hid (flow_JMP h hn)
  have c10 := h.lookN.2.1
  rw [hn] at c10
  clear h
  go_enter Tryz.func96, Tryz.ntmps96
  go_wp2_with fail
  with_reducible refine HF.out.mono ?_
  rintro e w1 ⟨rfl, rfl⟩
  go_wp2_with fail
  go_ret
  exact ⟨rfl, rfl⟩
theorem flow_CALL (h : Tk K z s w) (hn : z.n1 = .string ⟨#[67, 65, 76, 76]⟩) : Calls Tryz.prog 158 #[.pointer (some ⟨K.b, 0, none⟩)] w fun e w' => e = .returned (.func (.func 214) #[.pointer (some ⟨K.b, 0, none⟩)] #[]) ∧ w' = w := by
  have c10 := h.lookN.2.1
  rw [hn] at c10
  clear h
  go_enter Tryz.func158, Tryz.ntmps158
  go_wp2_with fail
  go_ret
  exact ⟨rfl, rfl⟩
theorem act_CALL (h : Tk K z s w) (hn : z.n1 = .string ⟨#[67, 65, 76, 76]⟩) : Calls Tryz.prog 96 #[.pointer (some ⟨K.b, 0, none⟩)] w fun e w' => e = .returned (.func (.func 214) #[.pointer (some ⟨K.b, 0, none⟩)] #[]) ∧ w' = w := by
  have HF := Lib.hid (flow_CALL h hn)
  have c10 := h.lookN.2.1
  rw [hn] at c10
  clear h
  go_enter Tryz.func96, Tryz.ntmps96
  go_wp2_with fail
  with_reducible refine HF.out.mono ?_
  rintro e w1 ⟨rfl, rfl⟩
  go_wp2_with fail
  go_ret
  exact ⟨rfl, rfl⟩
theorem flow_PCALL (h : Tk K z s w) (hn : z.n1 = .string ⟨#[80, 67, 65, 76, 76]⟩) : Calls Tryz.prog 158 #[.pointer (some ⟨K.b, 0, none⟩)] w fun e w' => e = .returned (.func (.func 214) #[.pointer (some ⟨K.b, 0, none⟩)] #[]) ∧ w' = w := by
  have c10 := h.lookN.2.1
  rw [hn] at c10
  clear h
  go_enter Tryz.func158, Tryz.ntmps158
  go_wp2_with fail
  go_ret
  exact ⟨rfl, rfl⟩
theorem act_PCALL (h : Tk K z s w) (hn : z.n1 = .string ⟨#[80, 67, 65, 76, 76]⟩) : Calls Tryz.prog 96 #[.pointer (some ⟨K.b, 0, none⟩)] w fun e w' => e = .returned (.func (.func 214) #[.pointer (some ⟨K.b, 0, none⟩)] #[]) ∧ w' = w := by
  have HF := Lib.hid (flow_PCALL h hn)
  have c10 := h.lookN.2.1
  rw [hn] at c10
  clear h
  go_enter Tryz.func96, Tryz.ntmps96
  go_wp2_with fail
  with_reducible refine HF.out.mono ?_
  rintro e w1 ⟨rfl, rfl⟩
  go_wp2_with fail
  go_ret
  exact ⟨rfl, rfl⟩
theorem flow_TCALL (h : Tk K z s w) (hn : z.n1 = .string ⟨#[84, 67, 65, 76, 76]⟩) : Calls Tryz.prog 158 #[.pointer (some ⟨K.b, 0, none⟩)] w fun e w' => e = .returned (.func (.func 215) #[.pointer (some ⟨K.b, 0, none⟩)] #[]) ∧ w' = w := by
  have c10 := h.lookN.2.1
  rw [hn] at c10
  clear h
  go_enter Tryz.func158, Tryz.ntmps158
  go_wp2_with fail
  go_ret
  exact ⟨rfl, rfl⟩
theorem act_TCALL (h : Tk K z s w) (hn : z.n1 = .string ⟨#[84, 67, 65, 76, 76]⟩) : Calls Tryz.prog 96 #[.pointer (some ⟨K.b, 0, none⟩)] w fun e w' => e = .returned (.func (.func 215) #[.pointer (some ⟨K.b, 0, none⟩)] #[]) ∧ w' = w := by
  have HF := Lib.hid (flow_TCALL h hn)
  have c10 := h.lookN.2.1
  rw [hn] at c10
  clear h
  go_enter Tryz.func96, Tryz.ntmps96
  go_wp2_with fail
  with_reducible refine HF.out.mono ?_
  rintro e w1 ⟨rfl, rfl⟩
  go_wp2_with fail
  go_ret
  exact ⟨rfl, rfl⟩
theorem flow_BRK (h : Tk K z s w) (hn : z.n1 = .string ⟨#[66, 82, 75]⟩) : Calls Tryz.prog 158 #[.pointer (some ⟨K.b, 0, none⟩)] w fun e w' => e = .returned (.func (.func 216) #[.pointer (some ⟨K.b, 0, none⟩)] #[]) ∧ w' = w := by
  have c10 := h.lookN.2.1
  rw [hn] at c10
  clear h
  go_enter Tryz.func158, Tryz.ntmps158
  go_wp2_with fail
  go_ret
  exact ⟨rfl, rfl⟩
theorem act_BRK (h : Tk K z s w) (hn : z.n1 = .string ⟨#[66, 82, 75]⟩) : Calls Tryz.prog 96 #[.pointer (some ⟨K.b, 0, none⟩)] w fun e w' => e = .returned (.func (.func 216) #[.pointer (some ⟨K.b, 0, none⟩)] #[]) ∧ w' = w := by
  have HF := Lib.hid (flow_BRK h hn)
  have c10 := h.lookN.2.1
  rw [hn] at c10
  clear h
  go_enter Tryz.func96, Tryz.ntmps96
  go_wp2_with fail
  with_reducible refine HF.out.mono ?_
  rintro e w1 ⟨rfl, rfl⟩
  go_wp2_with fail
  go_ret
  exact ⟨rfl, rfl⟩
theorem flow_RET (h : Tk K z s w) (hn : z.n1 = .string ⟨#[82, 69, 84]⟩) : Calls Tryz.prog 158 #[.pointer (some ⟨K.b, 0, none⟩)] w fun e w' => e = .returned (.func (.func 217) #[.pointer (some ⟨K.b, 0, none⟩)] #[]) ∧ w' = w := by
  have c10 := h.lookN.2.1
  rw [hn] at c10
  clear h
  go_enter Tryz.func158, Tryz.ntmps158
  go_wp2_with fail
  go_ret
  exact ⟨rfl, rfl⟩
theorem act_RET (h : Tk K z s w) (hn : z.n1 = .string ⟨#[82, 69, 84]⟩) : Calls Tryz.prog 96 #[.pointer (some ⟨K.b, 0, none⟩)] w fun e w' => e = .returned (.func (.func 217) #[.pointer (some ⟨K.b, 0, none⟩)] #[]) ∧ w' = w := by
  have HF := Lib.hid (flow_RET h hn)
  have c10 := h.lookN.2.1
  rw [hn] at c10
  clear h
  go_enter Tryz.func96, Tryz.ntmps96
  go_wp2_with fail
  with_reducible refine HF.out.mono ?_
  rintro e w1 ⟨rfl, rfl⟩
  go_wp2_with fail
  go_ret
  exact ⟨rfl, rfl⟩
theorem flow_RETI (h : Tk K z s w) (hn : z.n1 = .string ⟨#[82, 69, 84, 73]⟩) : Calls Tryz.prog 158 #[.pointer (some ⟨K.b, 0, none⟩)] w fun e w' => e = .returned (.func (.func 218) #[.pointer (some ⟨K.b, 0, none⟩)] #[]) ∧ w' = w := by
  have c10 := h.lookN.2.1
  rw [hn] at c10
  clear h
  go_enter Tryz.func158, Tryz.ntmps158
  go_wp2_with fail
  go_ret
  exact ⟨rfl, rfl⟩
theorem act_RETI (h : Tk K z s w) (hn : z.n1 = .string ⟨#[82, 69, 84, 73]⟩) : Calls Tryz.prog 96 #[.pointer (some ⟨K.b, 0, none⟩)] w fun e w' => e = .returned (.func (.func 218) #[.pointer (some ⟨K.b, 0, none⟩)] #[]) ∧ w' = w := by
  have HF := Lib.hid (flow_RETI h hn)
  have c10 := h.lookN.2.1
  rw [hn] at c10
  clear h
  go_enter Tryz.func96, Tryz.ntmps96
  go_wp2_with fail
  with_reducible refine HF.out.mono ?_
  rintro e w1 ⟨rfl, rfl⟩
  go_wp2_with fail
  go_ret
  exact ⟨rfl, rfl⟩
theorem flow_SLEEP (h : Tk K z s w) (hn : z.n1 = .string ⟨#[83, 76, 69, 69, 80]⟩) : Calls Tryz.prog 158 #[.pointer (some ⟨K.b, 0, none⟩)] w fun e w' => e = .returned (.func (.func 219) #[.pointer (some ⟨K.b, 0, none⟩)] #[]) ∧ w' = w := by
  have c10 := h.lookN.2.1
  rw [hn] at c10
  clear h
  go_enter Tryz.func158, Tryz.ntmps158
  go_wp2_with fail
  go_ret
  exact ⟨rfl, rfl⟩
theorem act_SLEEP (h : Tk K z s w) (hn : z.n1 = .string ⟨#[83, 76, 69, 69, 80]⟩) : Calls Tryz.prog 96 #[.pointer (some ⟨K.b, 0, none⟩)] w fun e w' => e = .returned (.func (.func 219) #[.pointer (some ⟨K.b, 0, none⟩)] #[]) ∧ w' = w := by
  have HF := Lib.hid (flow_SLEEP h hn)
  have c10 := h.lookN.2.1
  rw [hn] at c10
  clear h
  go_enter Tryz.func96, Tryz.ntmps96
  go_wp2_with fail
  with_reducible refine HF.out.mono ?_
  rintro e w1 ⟨rfl, rfl⟩
  go_wp2_with fail
  go_ret
  exact ⟨rfl, rfl⟩
theorem flow_STOP (h : Tk K z s w) (hn : z.n1 = .string ⟨#[83, 84, 79, 80]⟩) : Calls Tryz.prog 158 #[.pointer (some ⟨K.b, 0, none⟩)] w fun e w' => e = .returned (.func (.func 219) #[.pointer (some ⟨K.b, 0, none⟩)] #[]) ∧ w' = w := by
  have c10 := h.lookN.2.1
  rw [hn] at c10
  clear h
  go_enter Tryz.func158, Tryz.ntmps158
  go_wp2_with fail
  go_ret
  exact ⟨rfl, rfl⟩
theorem act_STOP (h : Tk K z s w) (hn : z.n1 = .string ⟨#[83, 84, 79, 80]⟩) : Calls Tryz.prog 96 #[.pointer (some ⟨K.b, 0, none⟩)] w fun e w' => e = .returned (.func (.func 219) #[.pointer (some ⟨K.b, 0, none⟩)] #[]) ∧ w' = w := by
  have HF := Lib.hid (flow_STOP h hn)
  have c10 := h.lookN.2.1
  rw [hn] at c10
  clear h
  go_enter Tryz.func96, Tryz.ntmps96
  go_wp2_with fail
  with_reducible refine HF.out.mono ?_
  rintro e w1 ⟨rfl, rfl⟩
  go_wp2_with fail
  go_ret
  exact ⟨rfl, rfl⟩
end
end Go.Proofs.YtknlbmjncginnaaGreatDoor
