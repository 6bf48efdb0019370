/-
  What each name does, as one table (gentn.py writes this text).
-/
import Derived.Test.YtknlbmjncginnaaGreatDoorPD
import Derived.Test.YtknlbmjncginnaaGreatDoorPE
import Derived.Test.YtknlbmjncginnaaGreatDoorPF
import Derived.Test.YtknlbmjncginnaaGreatDoorPG
import Derived.Test.YtknlbmjncginnaaGreatDoorPH
import Derived.Test.YtknlbmjncginnaaGreatDoorPI
import Derived.Test.YtknlbmjncginnaaGreatDoorTRun
import Derived.Test.YtknlbmjncginnaaGreatDoorPL
namespace Go.Proofs.YtknlbmjncginnaaGreatDoor
open Go.RowKit Go.Shelf
set_option maxRecDepth 100000
set_option maxHeartbeats 4000000
set_option linter.unusedVariables false

def namesL : List (List Nat) := [[78, 79, 80], [84, 67, 65, 76, 76], [83, 69, 84, 49], [66, 66, 83], [79, 82], [79, 82, 49], [65, 83, 76], [80, 85, 83, 72], [84, 83, 69, 84, 49], [66, 82, 75], [66, 80, 76], [67, 76, 82, 49], [66, 66, 67], [68, 69, 67, 87], [68, 69, 67], [67, 77, 80], [74, 77, 80], [67, 76, 82, 80], [65, 78, 68], [82, 79, 76], [67, 66, 78, 69], [66, 82, 65], [66, 77, 73], [73, 78, 67, 87], [73, 78, 67], [67, 65, 76, 76], [83, 69, 84, 80], [69, 79, 82], [65, 78, 68, 49], [76, 83, 82], [84, 67, 76, 82, 49], [80, 67, 65, 76, 76], [66, 86, 67], [67, 77, 80, 87], [77, 79, 86], [67, 76, 82, 67], [82, 79, 82], [68, 66, 78, 90], [82, 69, 84], [66, 86, 83], [65, 68, 68, 87], [82, 69, 84, 73], [83, 69, 84, 67], [65, 68, 67], [69, 79, 82, 49], [80, 79, 80], [66, 67, 67], [83, 85, 66, 87], [68, 73, 86], [88, 67, 78], [69, 73], [83, 66, 67], [77, 79, 86, 49], [66, 67, 83], [77, 79, 86, 87], [68, 65, 83], [68, 73], [77, 85, 76], [66, 78, 69], [68, 65, 65], [67, 76, 82, 86], [78, 79, 84, 49], [78, 79, 84, 67], [83, 76, 69, 69, 80], [66, 69, 81], [83, 84, 79, 80]]
def ixN : List Nat := [0, 1, 2, 3, 4, 4, 4, 4, 4, 4, 5, 6, 6, 7, 8, 9, 10, 1, 11, 12, 4, 4, 4, 4, 4, 4, 13, 6, 6, 14, 15, 16, 17, 1, 2, 3, 18, 18, 18, 18, 18, 18, 5, 19, 19, 7, 20, 21, 22, 1, 11, 12, 18, 18, 18, 18, 18, 18, 23, 19, 19, 24, 15, 25, 26, 1, 2, 3, 27, 27, 27, 27, 27, 27, 28, 29, 29, 7, 30, 31, 32, 1, 11, 12, 27, 27, 27, 27, 27, 27, 33, 29, 29, 34, 15, 16, 35, 1, 2, 3, 15, 15, 15, 15, 15, 15, 28, 36, 36, 7, 37, 38, 39, 1, 11, 12, 15, 15, 15, 15, 15, 15, 40, 36, 36, 34, 15, 41, 42, 1, 2, 3, 43, 43, 43, 43, 43, 43, 44, 14, 14, 34, 45, 34, 46, 1, 11, 12, 43, 43, 43, 43, 43, 43, 47, 14, 14, 34, 48, 49, 50, 1, 2, 3, 51, 51, 51, 51, 51, 51, 52, 24, 24, 15, 45, 34, 53, 1, 11, 12, 51, 51, 51, 51, 51, 51, 54, 24, 24, 34, 55, 34, 56, 1, 2, 3, 34, 34, 34, 34, 15, 34, 52, 34, 34, 34, 45, 57, 58, 1, 11, 12, 34, 34, 34, 34, 34, 34, 54, 34, 14, 34, 20, 59, 60, 1, 2, 3, 34, 34, 34, 34, 34, 34, 61, 34, 34, 62, 45, 63, 64, 1, 11, 12, 34, 34, 34, 34, 34, 34, 34, 34, 24, 34, 37, 65]
/-- Which of the names a code has. -/
def ixF (c : Nat) : Nat := ixN.getD c 0
theorem ix_all (c : Nat) (hc : c < 256) : ixF c < 66 ∧ nmL c = namesL.getD (ixF c) [] ∧ (fmL c).length ≤ 2 := (show ∀ c, c < 256 → ixF c < 66 ∧ nmL c = namesL.getD (ixF c) [] ∧ (fmL c).length ≤ 2 by decide +kernel) c hc
/-- What a name does. -/
def actK (k c cd co nd no : Nat) : M Unit := match k with
  | 0 => M.pure ()
  | 1 => M.bind pushPcM fun _ => M.bind (wordAtM (65502 - 2 * (c / 16))) fun v => M.set fun r => { r with Pc := v }
  | 2 => changeBitM 0 c cd nd
  | 3 => M.bind (readBitM c cd nd) fun b => branchM b no
  | 4 => combineM 0 cd nd co no
  | 5 => combineCarryM 0 c co no
  | 6 => changeM 2 cd nd
  | 7 => pushRegM cd nd
  | 8 => changeBitsM 0 cd nd
  | 9 => M.bind pushPcM fun _ => M.bind (M.get fun r => pushM r.P) fun _ => M.bind (M.set (putR 16 true)) fun _ => M.bind (M.set (putR 4 false)) fun _ => M.bind (wordAtM 65502) fun v => M.set fun r => { r with Pc := v }
  | 10 => M.bind (M.ask fun r => hasP r.P 128) fun b => branchM (!b) no
  | 11 => changeBitM 1 c cd nd
  | 12 => M.bind (readBitM c cd nd) fun b => branchM (!b) no
  | 13 => changeWordM 1 nd
  | 14 => changeM 1 cd nd
  | 15 => compareM cd nd co no
  | 16 => if co = 42 then jumpAtM no else M.set fun r => { r with Pc := no }
  | 17 => M.set (putR 32 false)
  | 18 => combineM 1 cd nd co no
  | 19 => changeM 3 cd nd
  | 20 => unlessM cd nd no
  | 21 => branchM true no
  | 22 => M.bind (M.ask fun r => hasP r.P 128) fun b => branchM b no
  | 23 => changeWordM 0 nd
  | 24 => changeM 0 cd nd
  | 25 => callM no
  | 26 => M.set (putR 32 true)
  | 27 => combineM 2 cd nd co no
  | 28 => combineCarryM 1 c co no
  | 29 => changeM 4 cd nd
  | 30 => changeBitsM 1 cd nd
  | 31 => callLastM no
  | 32 => M.bind (M.ask fun r => hasP r.P 64) fun b => branchM (!b) no
  | 33 => compareWordM no
  | 34 => moveM cd nd co no
  | 35 => M.set (putR 1 false)
  | 36 => changeM 5 cd nd
  | 37 => M.bind (Go.Proofs.YtknlbmjncginnaaGreatDoor.readO cd nd) fun v => M.bind (writeO cd nd ((v + 255) % 256)) fun _ => branchM (!decide ((v + 255) % 256 = 0)) no
  | 38 => backM
  | 39 => M.bind (M.ask fun r => hasP r.P 64) fun b => branchM b no
  | 40 => addWordM 0 no
  | 41 => backTrapM
  | 42 => M.set (putR 1 true)
  | 43 => combineM 3 cd nd co no
  | 44 => combineCarryM 2 c co no
  | 45 => popRegM cd nd
  | 46 => M.bind (M.ask fun r => hasP r.P 1) fun b => branchM (!b) no
  | 47 => addWordM 1 no
  | 48 => M.set divR
  | 49 => exchangeM
  | 50 => M.set (putR 4 true)
  | 51 => combineM 4 cd nd co no
  | 52 => if cd = 67 then moveBitCM c co no else moveBitDM c cd nd
  | 53 => M.bind (M.ask fun r => hasP r.P 1) fun b => branchM b no
  | 54 => if cd = 68 then storeWordM nd else moveWordM no
  | 55 => M.set (adjR 1)
  | 56 => M.set (putR 4 false)
  | 57 => multiplyM
  | 58 => M.bind (M.ask fun r => hasP r.P 2) fun b => branchM (!b) no
  | 59 => M.set (adjR 0)
  | 60 => M.set (putR 72 false)
  | 61 => changeBitM 2 c cd nd
  | 62 => M.bind (M.ask fun r => hasP r.P 1) fun b => M.set (putR 1 (!b))
  | 63 => M.set fun r => { r with H := true }
  | 64 => M.bind (M.ask fun r => hasP r.P 2) fun b => branchM b no
  | 65 => M.set fun r => { r with H := true }
  | _ => M.pure ()
def actA (c nd no : Nat) : M Unit := actK (ixF c) c (cdF (fmL c)) (coF (fmL c)) nd no
instance (c : Nat) : Decidable (readable c) := inferInstanceAs (Decidable (c ∈ regL ∨ c = 35 ∨ c ∈ memL))
instance (c : Nat) : Decidable (writable c) := inferInstanceAs (Decidable (c ∈ regL ∨ c ∈ memL))
theorem name_at (c : Nat) (hc : c < 256) (k : Nat) (hk : ixF c = k) (l : List Nat) (hl : namesL.getD k [] = l) : nmF c = bsOf l := by
  unfold nmF
  rw [(ix_all c hc).2.1, hk, hl]
end Go.Proofs.YtknlbmjncginnaaGreatDoor
namespace Go.Proofs.YtknlbmjncginnaaGreatDoor
open Go.RowKit Go.Shelf
set_option maxRecDepth 100000
set_option maxHeartbeats 4000000
set_option linter.unusedVariables false

theorem ok_NOP (K : Cx) (c : Nat) (hc : c < 256) (hk : ixF c = 0) : ActOk K c actA := fun z s w nd no t hz hl => by
  have hn : z.n1 = .string ⟨#[78, 79, 80]⟩ := hz.n1.trans (by rw [name_at c hc 0 hk [78, 79, 80] rfl]; rfl)
  unfold actA
  rw [hk]
  exact ⟨_, act_NOP t hn, fun _ _ => rfl, nothing_any t (by omega)⟩
theorem ok_TCALL (K : Cx) (c : Nat) (hc : c < 256) (hk : ixF c = 1) : ActOk K c actA := fun z s w nd no t hz hl => by
  have hn : z.n1 = .string ⟨#[84, 67, 65, 76, 76]⟩ := hz.n1.trans (by rw [name_at c hc 1 hk [84, 67, 65, 76, 76] rfl]; rfl)
  unfold actA
  rw [hk]
  exact ⟨_, act_TCALL t hn, fun _ _ => rfl, callByTable_any t hz (by omega)⟩
theorem ok_SET1 (K : Cx) (c : Nat) (hc : c < 256) (hk : ixF c = 2) : ActOk K c actA := fun z s w nd no t hz hl => by
  obtain ⟨hrd, hw, hcd⟩ := (show ∀ c, c < 256 → ixF c = 2 → (readable (cdF (fmL c))) ∧ (writable (cdF (fmL c))) ∧ (cdF (fmL c) < 256) by decide +kernel) c hc hk
  have hn : z.n1 = .string ⟨#[83, 69, 84, 49]⟩ := hz.n1.trans (by rw [name_at c hc 2 hk [83, 69, 84, 49] rfl]; rfl)
  unfold actA
  rw [hk]
  exact ⟨_, act_SET1 t hn, fun _ _ => rfl, changeBit_any 0 (by decide) t hz hn hrd hw hcd (by omega)⟩
theorem ok_BBS (K : Cx) (c : Nat) (hc : c < 256) (hk : ixF c = 3) : ActOk K c actA := fun z s w nd no t hz hl => by
  obtain ⟨hrd, hcd⟩ := (show ∀ c, c < 256 → ixF c = 3 → (readable (cdF (fmL c))) ∧ (cdF (fmL c) < 256) by decide +kernel) c hc hk
  have hn : z.n1 = .string ⟨#[66, 66, 83]⟩ := hz.n1.trans (by rw [name_at c hc 3 hk [66, 66, 83] rfl]; rfl)
  unfold actA
  rw [hk]
  exact ⟨_, act_BBS t hn, fun _ _ => rfl, branchBBS_any t hz hn hrd hcd (by omega)⟩
theorem ok_OR (K : Cx) (c : Nat) (hc : c < 256) (hk : ixF c = 4) : ActOk K c actA := fun z s w nd no t hz hl => by
  obtain ⟨hr, hrd, hw⟩ := (show ∀ c, c < 256 → ixF c = 4 → (readable (coF (fmL c))) ∧ (readable (cdF (fmL c))) ∧ (writable (cdF (fmL c))) by decide +kernel) c hc hk
  have hn : z.n1 = .string ⟨#[79, 82]⟩ := hz.n1.trans (by rw [name_at c hc 4 hk [79, 82] rfl]; rfl)
  unfold actA
  rw [hk]
  exact ⟨_, act_OR t hn, fun _ _ => rfl, combine_any t hz 0 (by decide) hn hr hrd hw (by omega)⟩
theorem ok_OR1 (K : Cx) (c : Nat) (hc : c < 256) (hk : ixF c = 5) : ActOk K c actA := fun z s w nd no t hz hl => by
  obtain ⟨hr, hco⟩ := (show ∀ c, c < 256 → ixF c = 5 → (readable (coF (fmL c))) ∧ (coF (fmL c) < 256) by decide +kernel) c hc hk
  have hn : z.n1 = .string ⟨#[79, 82, 49]⟩ := hz.n1.trans (by rw [name_at c hc 5 hk [79, 82, 49] rfl]; rfl)
  unfold actA
  rw [hk]
  exact ⟨_, act_OR1 t hn, fun _ _ => rfl, combineCarry_any 0 (by decide) t hz hn hr hco (by omega)⟩
theorem ok_ASL (K : Cx) (c : Nat) (hc : c < 256) (hk : ixF c = 6) : ActOk K c actA := fun z s w nd no t hz hl => by
  obtain ⟨hrd, hw⟩ := (show ∀ c, c < 256 → ixF c = 6 → (readable (cdF (fmL c))) ∧ (writable (cdF (fmL c))) by decide +kernel) c hc hk
  have hn : z.n1 = .string ⟨#[65, 83, 76]⟩ := hz.n1.trans (by rw [name_at c hc 6 hk [65, 83, 76] rfl]; rfl)
  unfold actA
  rw [hk]
  exact ⟨_, act_ASL t hn, fun _ _ => rfl, change_any t hz 2 (by decide) hn hrd hw (by omega)⟩
theorem ok_PUSH (K : Cx) (c : Nat) (hc : c < 256) (hk : ixF c = 7) : ActOk K c actA := fun z s w nd no t hz hl => by
  have hrd := (show ∀ c, c < 256 → ixF c = 7 → readable (cdF (fmL c)) by decide +kernel) c hc hk
  have hn : z.n1 = .string ⟨#[80, 85, 83, 72]⟩ := hz.n1.trans (by rw [name_at c hc 7 hk [80, 85, 83, 72] rfl]; rfl)
  unfold actA
  rw [hk]
  exact ⟨_, act_PUSH t hn, fun _ _ => rfl, pushRegister_any t hz hrd (by omega)⟩
theorem ok_TSET1 (K : Cx) (c : Nat) (hc : c < 256) (hk : ixF c = 8) : ActOk K c actA := fun z s w nd no t hz hl => by
  obtain ⟨hrd, hw⟩ := (show ∀ c, c < 256 → ixF c = 8 → (readable (cdF (fmL c))) ∧ (writable (cdF (fmL c))) by decide +kernel) c hc hk
  have hn : z.n1 = .string ⟨#[84, 83, 69, 84, 49]⟩ := hz.n1.trans (by rw [name_at c hc 8 hk [84, 83, 69, 84, 49] rfl]; rfl)
  unfold actA
  rw [hk]
  exact ⟨_, act_TSET1 t hn, fun _ _ => rfl, changeBits_any 0 (by decide) t hz hn hrd hw (by omega)⟩
theorem ok_BRK (K : Cx) (c : Nat) (hc : c < 256) (hk : ixF c = 9) : ActOk K c actA := fun z s w nd no t hz hl => by
  have hn : z.n1 = .string ⟨#[66, 82, 75]⟩ := hz.n1.trans (by rw [name_at c hc 9 hk [66, 82, 75] rfl]; rfl)
  unfold actA
  rw [hk]
  exact ⟨_, act_BRK t hn, fun _ _ => rfl, trap_any t hz (by omega)⟩
theorem ok_BPL (K : Cx) (c : Nat) (hc : c < 256) (hk : ixF c = 10) : ActOk K c actA := fun z s w nd no t hz hl => by
  have hn : z.n1 = .string ⟨#[66, 80, 76]⟩ := hz.n1.trans (by rw [name_at c hc 10 hk [66, 80, 76] rfl]; rfl)
  unfold actA
  rw [hk]
  exact ⟨_, act_BPL t hn, fun _ _ => rfl, branchBPL_any t hz hn (by omega)⟩
theorem ok_CLR1 (K : Cx) (c : Nat) (hc : c < 256) (hk : ixF c = 11) : ActOk K c actA := fun z s w nd no t hz hl => by
  obtain ⟨hrd, hw, hcd⟩ := (show ∀ c, c < 256 → ixF c = 11 → (readable (cdF (fmL c))) ∧ (writable (cdF (fmL c))) ∧ (cdF (fmL c) < 256) by decide +kernel) c hc hk
  have hn : z.n1 = .string ⟨#[67, 76, 82, 49]⟩ := hz.n1.trans (by rw [name_at c hc 11 hk [67, 76, 82, 49] rfl]; rfl)
  unfold actA
  rw [hk]
  exact ⟨_, act_CLR1 t hn, fun _ _ => rfl, changeBit_any 1 (by decide) t hz hn hrd hw hcd (by omega)⟩
theorem ok_BBC (K : Cx) (c : Nat) (hc : c < 256) (hk : ixF c = 12) : ActOk K c actA := fun z s w nd no t hz hl => by
  obtain ⟨hrd, hcd⟩ := (show ∀ c, c < 256 → ixF c = 12 → (readable (cdF (fmL c))) ∧ (cdF (fmL c) < 256) by decide +kernel) c hc hk
  have hn : z.n1 = .string ⟨#[66, 66, 67]⟩ := hz.n1.trans (by rw [name_at c hc 12 hk [66, 66, 67] rfl]; rfl)
  unfold actA
  rw [hk]
  exact ⟨_, act_BBC t hn, fun _ _ => rfl, branchBBC_any t hz hn hrd hcd (by omega)⟩
theorem ok_DECW (K : Cx) (c : Nat) (hc : c < 256) (hk : ixF c = 13) : ActOk K c actA := fun z s w nd no t hz hl => by
  have hn : z.n1 = .string ⟨#[68, 69, 67, 87]⟩ := hz.n1.trans (by rw [name_at c hc 13 hk [68, 69, 67, 87] rfl]; rfl)
  unfold actA
  rw [hk]
  exact ⟨_, act_DECW t hn, fun _ _ => rfl, changeWord1_any t hz hn (by omega)⟩
theorem ok_DEC (K : Cx) (c : Nat) (hc : c < 256) (hk : ixF c = 14) : ActOk K c actA := fun z s w nd no t hz hl => by
  obtain ⟨hrd, hw⟩ := (show ∀ c, c < 256 → ixF c = 14 → (readable (cdF (fmL c))) ∧ (writable (cdF (fmL c))) by decide +kernel) c hc hk
  have hn : z.n1 = .string ⟨#[68, 69, 67]⟩ := hz.n1.trans (by rw [name_at c hc 14 hk [68, 69, 67] rfl]; rfl)
  unfold actA
  rw [hk]
  exact ⟨_, act_DEC t hn, fun _ _ => rfl, change_any t hz 1 (by decide) hn hrd hw (by omega)⟩
theorem ok_CMP (K : Cx) (c : Nat) (hc : c < 256) (hk : ixF c = 15) : ActOk K c actA := fun z s w nd no t hz hl => by
  obtain ⟨hr, hrd⟩ := (show ∀ c, c < 256 → ixF c = 15 → (readable (coF (fmL c))) ∧ (readable (cdF (fmL c))) by decide +kernel) c hc hk
  have hn : z.n1 = .string ⟨#[67, 77, 80]⟩ := hz.n1.trans (by rw [name_at c hc 15 hk [67, 77, 80] rfl]; rfl)
  unfold actA
  rw [hk]
  exact ⟨_, act_CMP t hn, fun _ _ => rfl, compare_any t hz hr hrd (by omega)⟩
theorem ok_JMP (K : Cx) (c : Nat) (hc : c < 256) (hk : ixF c = 16) : ActOk K c actA := fun z s w nd no t hz hl => by
  have hco := (show ∀ c, c < 256 → ixF c = 16 → coF (fmL c) < 256 by decide +kernel) c hc hk
  have hn : z.n1 = .string ⟨#[74, 77, 80]⟩ := hz.n1.trans (by rw [name_at c hc 16 hk [74, 77, 80] rfl]; rfl)
  unfold actA
  rw [hk]
  refine ⟨_, act_JMP t hn, fun _ _ => rfl, ?_⟩
  show Calls _ _ _ _ (Post K z s w (if coF (fmL c) = 42 then jumpAtM no else M.set fun r => { r with Pc := no }) unitV (fun _ => True) 12)
  by_cases h : coF (fmL c) = 42
  · rw [if_pos h]
    exact jumpAt_any t hz h (by omega)
  · rw [if_neg h]
    exact jumpA_any t hz hco h (by omega)
theorem ok_CLRP (K : Cx) (c : Nat) (hc : c < 256) (hk : ixF c = 17) : ActOk K c actA := fun z s w nd no t hz hl => by
  have hn : z.n1 = .string ⟨#[67, 76, 82, 80]⟩ := hz.n1.trans (by rw [name_at c hc 17 hk [67, 76, 82, 80] rfl]; rfl)
  unfold actA
  rw [hk]
  exact ⟨_, act_CLRP t hn, fun _ _ => rfl, putFlagCLRP_any t hn (by omega)⟩
theorem ok_AND (K : Cx) (c : Nat) (hc : c < 256) (hk : ixF c = 18) : ActOk K c actA := fun z s w nd no t hz hl => by
  obtain ⟨hr, hrd, hw⟩ := (show ∀ c, c < 256 → ixF c = 18 → (readable (coF (fmL c))) ∧ (readable (cdF (fmL c))) ∧ (writable (cdF (fmL c))) by decide +kernel) c hc hk
  have hn : z.n1 = .string ⟨#[65, 78, 68]⟩ := hz.n1.trans (by rw [name_at c hc 18 hk [65, 78, 68] rfl]; rfl)
  unfold actA
  rw [hk]
  exact ⟨_, act_AND t hn, fun _ _ => rfl, combine_any t hz 1 (by decide) hn hr hrd hw (by omega)⟩
theorem ok_ROL (K : Cx) (c : Nat) (hc : c < 256) (hk : ixF c = 19) : ActOk K c actA := fun z s w nd no t hz hl => by
  obtain ⟨hrd, hw⟩ := (show ∀ c, c < 256 → ixF c = 19 → (readable (cdF (fmL c))) ∧ (writable (cdF (fmL c))) by decide +kernel) c hc hk
  have hn : z.n1 = .string ⟨#[82, 79, 76]⟩ := hz.n1.trans (by rw [name_at c hc 19 hk [82, 79, 76] rfl]; rfl)
  unfold actA
  rw [hk]
  exact ⟨_, act_ROL t hn, fun _ _ => rfl, change_any t hz 3 (by decide) hn hrd hw (by omega)⟩
theorem ok_CBNE (K : Cx) (c : Nat) (hc : c < 256) (hk : ixF c = 20) : ActOk K c actA := fun z s w nd no t hz hl => by
  have hrd := (show ∀ c, c < 256 → ixF c = 20 → readable (cdF (fmL c)) by decide +kernel) c hc hk
  have hn : z.n1 = .string ⟨#[67, 66, 78, 69]⟩ := hz.n1.trans (by rw [name_at c hc 20 hk [67, 66, 78, 69] rfl]; rfl)
  unfold actA
  rw [hk]
  exact ⟨_, act_CBNE t hn, fun _ _ => rfl, branchUnlessA_any t hz hrd (by omega)⟩
theorem ok_BRA (K : Cx) (c : Nat) (hc : c < 256) (hk : ixF c = 21) : ActOk K c actA := fun z s w nd no t hz hl => by
  have hn : z.n1 = .string ⟨#[66, 82, 65]⟩ := hz.n1.trans (by rw [name_at c hc 21 hk [66, 82, 65] rfl]; rfl)
  unfold actA
  rw [hk]
  exact ⟨_, act_BRA t hn, fun _ _ => rfl, branchBRA_any t hz hn (by omega)⟩
theorem ok_BMI (K : Cx) (c : Nat) (hc : c < 256) (hk : ixF c = 22) : ActOk K c actA := fun z s w nd no t hz hl => by
  have hn : z.n1 = .string ⟨#[66, 77, 73]⟩ := hz.n1.trans (by rw [name_at c hc 22 hk [66, 77, 73] rfl]; rfl)
  unfold actA
  rw [hk]
  exact ⟨_, act_BMI t hn, fun _ _ => rfl, branchBMI_any t hz hn (by omega)⟩
theorem ok_INCW (K : Cx) (c : Nat) (hc : c < 256) (hk : ixF c = 23) : ActOk K c actA := fun z s w nd no t hz hl => by
  have hn : z.n1 = .string ⟨#[73, 78, 67, 87]⟩ := hz.n1.trans (by rw [name_at c hc 23 hk [73, 78, 67, 87] rfl]; rfl)
  unfold actA
  rw [hk]
  exact ⟨_, act_INCW t hn, fun _ _ => rfl, changeWord0_any t hz hn (by omega)⟩
theorem ok_INC (K : Cx) (c : Nat) (hc : c < 256) (hk : ixF c = 24) : ActOk K c actA := fun z s w nd no t hz hl => by
  obtain ⟨hrd, hw⟩ := (show ∀ c, c < 256 → ixF c = 24 → (readable (cdF (fmL c))) ∧ (writable (cdF (fmL c))) by decide +kernel) c hc hk
  have hn : z.n1 = .string ⟨#[73, 78, 67]⟩ := hz.n1.trans (by rw [name_at c hc 24 hk [73, 78, 67] rfl]; rfl)
  unfold actA
  rw [hk]
  exact ⟨_, act_INC t hn, fun _ _ => rfl, change_any t hz 0 (by decide) hn hrd hw (by omega)⟩
theorem ok_CALL (K : Cx) (c : Nat) (hc : c < 256) (hk : ixF c = 25) : ActOk K c actA := fun z s w nd no t hz hl => by
  obtain ⟨hco, hne⟩ := (show ∀ c, c < 256 → ixF c = 25 → (coF (fmL c) < 256) ∧ (coF (fmL c) ≠ 117) by decide +kernel) c hc hk
  have hn : z.n1 = .string ⟨#[67, 65, 76, 76]⟩ := hz.n1.trans (by rw [name_at c hc 25 hk [67, 65, 76, 76] rfl]; rfl)
  unfold actA
  rw [hk]
  exact ⟨_, act_CALL t hn, fun _ _ => rfl, callA_any t hz hco hne (by omega)⟩
theorem ok_SETP (K : Cx) (c : Nat) (hc : c < 256) (hk : ixF c = 26) : ActOk K c actA := fun z s w nd no t hz hl => by
  have hn : z.n1 = .string ⟨#[83, 69, 84, 80]⟩ := hz.n1.trans (by rw [name_at c hc 26 hk [83, 69, 84, 80] rfl]; rfl)
  unfold actA
  rw [hk]
  exact ⟨_, act_SETP t hn, fun _ _ => rfl, putFlagSETP_any t hn (by omega)⟩
theorem ok_EOR (K : Cx) (c : Nat) (hc : c < 256) (hk : ixF c = 27) : ActOk K c actA := fun z s w nd no t hz hl => by
  obtain ⟨hr, hrd, hw⟩ := (show ∀ c, c < 256 → ixF c = 27 → (readable (coF (fmL c))) ∧ (readable (cdF (fmL c))) ∧ (writable (cdF (fmL c))) by decide +kernel) c hc hk
  have hn : z.n1 = .string ⟨#[69, 79, 82]⟩ := hz.n1.trans (by rw [name_at c hc 27 hk [69, 79, 82] rfl]; rfl)
  unfold actA
  rw [hk]
  exact ⟨_, act_EOR t hn, fun _ _ => rfl, combine_any t hz 2 (by decide) hn hr hrd hw (by omega)⟩
theorem ok_AND1 (K : Cx) (c : Nat) (hc : c < 256) (hk : ixF c = 28) : ActOk K c actA := fun z s w nd no t hz hl => by
  obtain ⟨hr, hco⟩ := (show ∀ c, c < 256 → ixF c = 28 → (readable (coF (fmL c))) ∧ (coF (fmL c) < 256) by decide +kernel) c hc hk
  have hn : z.n1 = .string ⟨#[65, 78, 68, 49]⟩ := hz.n1.trans (by rw [name_at c hc 28 hk [65, 78, 68, 49] rfl]; rfl)
  unfold actA
  rw [hk]
  exact ⟨_, act_AND1 t hn, fun _ _ => rfl, combineCarry_any 1 (by decide) t hz hn hr hco (by omega)⟩
theorem ok_LSR (K : Cx) (c : Nat) (hc : c < 256) (hk : ixF c = 29) : ActOk K c actA := fun z s w nd no t hz hl => by
  obtain ⟨hrd, hw⟩ := (show ∀ c, c < 256 → ixF c = 29 → (readable (cdF (fmL c))) ∧ (writable (cdF (fmL c))) by decide +kernel) c hc hk
  have hn : z.n1 = .string ⟨#[76, 83, 82]⟩ := hz.n1.trans (by rw [name_at c hc 29 hk [76, 83, 82] rfl]; rfl)
  unfold actA
  rw [hk]
  exact ⟨_, act_LSR t hn, fun _ _ => rfl, change_any t hz 4 (by decide) hn hrd hw (by omega)⟩
theorem ok_TCLR1 (K : Cx) (c : Nat) (hc : c < 256) (hk : ixF c = 30) : ActOk K c actA := fun z s w nd no t hz hl => by
  obtain ⟨hrd, hw⟩ := (show ∀ c, c < 256 → ixF c = 30 → (readable (cdF (fmL c))) ∧ (writable (cdF (fmL c))) by decide +kernel) c hc hk
  have hn : z.n1 = .string ⟨#[84, 67, 76, 82, 49]⟩ := hz.n1.trans (by rw [name_at c hc 30 hk [84, 67, 76, 82, 49] rfl]; rfl)
  unfold actA
  rw [hk]
  exact ⟨_, act_TCLR1 t hn, fun _ _ => rfl, changeBits_any 1 (by decide) t hz hn hrd hw (by omega)⟩
theorem ok_PCALL (K : Cx) (c : Nat) (hc : c < 256) (hk : ixF c = 31) : ActOk K c actA := fun z s w nd no t hz hl => by
  have hco := (show ∀ c, c < 256 → ixF c = 31 → coF (fmL c) = 117 by decide +kernel) c hc hk
  have hn : z.n1 = .string ⟨#[80, 67, 65, 76, 76]⟩ := hz.n1.trans (by rw [name_at c hc 31 hk [80, 67, 65, 76, 76] rfl]; rfl)
  unfold actA
  rw [hk]
  exact ⟨_, act_PCALL t hn, fun _ _ => rfl, callU_any t hz hco (by omega)⟩
theorem ok_BVC (K : Cx) (c : Nat) (hc : c < 256) (hk : ixF c = 32) : ActOk K c actA := fun z s w nd no t hz hl => by
  have hn : z.n1 = .string ⟨#[66, 86, 67]⟩ := hz.n1.trans (by rw [name_at c hc 32 hk [66, 86, 67] rfl]; rfl)
  unfold actA
  rw [hk]
  exact ⟨_, act_BVC t hn, fun _ _ => rfl, branchBVC_any t hz hn (by omega)⟩
end Go.Proofs.YtknlbmjncginnaaGreatDoor
namespace Go.Proofs.YtknlbmjncginnaaGreatDoor
open Go.RowKit Go.Shelf
set_option maxRecDepth 100000
set_option maxHeartbeats 4000000
set_option linter.unusedVariables false

theorem ok_CMPW (K : Cx) (c : Nat) (hc : c < 256) (hk : ixF c = 33) : ActOk K c actA := fun z s w nd no t hz hl => by
  have hn : z.n1 = .string ⟨#[67, 77, 80, 87]⟩ := hz.n1.trans (by rw [name_at c hc 33 hk [67, 77, 80, 87] rfl]; rfl)
  unfold actA
  rw [hk]
  exact ⟨_, act_CMPW t hn, fun _ _ => rfl, compareWord_any t hz (by omega)⟩
theorem ok_MOV (K : Cx) (c : Nat) (hc : c < 256) (hk : ixF c = 34) : ActOk K c actA := fun z s w nd no t hz hl => by
  obtain ⟨hr, hw⟩ := (show ∀ c, c < 256 → ixF c = 34 → (readable (coF (fmL c))) ∧ (writable (cdF (fmL c))) by decide +kernel) c hc hk
  have hn : z.n1 = .string ⟨#[77, 79, 86]⟩ := hz.n1.trans (by rw [name_at c hc 34 hk [77, 79, 86] rfl]; rfl)
  unfold actA
  rw [hk]
  exact ⟨_, act_MOV t hn, fun _ _ => rfl, move_any t hz hr hw (by omega)⟩
theorem ok_CLRC (K : Cx) (c : Nat) (hc : c < 256) (hk : ixF c = 35) : ActOk K c actA := fun z s w nd no t hz hl => by
  have hn : z.n1 = .string ⟨#[67, 76, 82, 67]⟩ := hz.n1.trans (by rw [name_at c hc 35 hk [67, 76, 82, 67] rfl]; rfl)
  unfold actA
  rw [hk]
  exact ⟨_, act_CLRC t hn, fun _ _ => rfl, putFlagCLRC_any t hn (by omega)⟩
theorem ok_ROR (K : Cx) (c : Nat) (hc : c < 256) (hk : ixF c = 36) : ActOk K c actA := fun z s w nd no t hz hl => by
  obtain ⟨hrd, hw⟩ := (show ∀ c, c < 256 → ixF c = 36 → (readable (cdF (fmL c))) ∧ (writable (cdF (fmL c))) by decide +kernel) c hc hk
  have hn : z.n1 = .string ⟨#[82, 79, 82]⟩ := hz.n1.trans (by rw [name_at c hc 36 hk [82, 79, 82] rfl]; rfl)
  unfold actA
  rw [hk]
  exact ⟨_, act_ROR t hn, fun _ _ => rfl, change_any t hz 5 (by decide) hn hrd hw (by omega)⟩
theorem ok_DBNZ (K : Cx) (c : Nat) (hc : c < 256) (hk : ixF c = 37) : ActOk K c actA := fun z s w nd no t hz hl => by
  obtain ⟨hrd, hw⟩ := (show ∀ c, c < 256 → ixF c = 37 → (readable (cdF (fmL c))) ∧ (writable (cdF (fmL c))) by decide +kernel) c hc hk
  have hn : z.n1 = .string ⟨#[68, 66, 78, 90]⟩ := hz.n1.trans (by rw [name_at c hc 37 hk [68, 66, 78, 90] rfl]; rfl)
  unfold actA
  rw [hk]
  exact ⟨_, act_DBNZ t hn, fun _ _ => rfl, branchDown_any t hz hrd hw (by omega)⟩
theorem ok_RET (K : Cx) (c : Nat) (hc : c < 256) (hk : ixF c = 38) : ActOk K c actA := fun z s w nd no t hz hl => by
  have hn : z.n1 = .string ⟨#[82, 69, 84]⟩ := hz.n1.trans (by rw [name_at c hc 38 hk [82, 69, 84] rfl]; rfl)
  unfold actA
  rw [hk]
  exact ⟨_, act_RET t hn, fun _ _ => rfl, back_any t (by omega)⟩
theorem ok_BVS (K : Cx) (c : Nat) (hc : c < 256) (hk : ixF c = 39) : ActOk K c actA := fun z s w nd no t hz hl => by
  have hn : z.n1 = .string ⟨#[66, 86, 83]⟩ := hz.n1.trans (by rw [name_at c hc 39 hk [66, 86, 83] rfl]; rfl)
  unfold actA
  rw [hk]
  exact ⟨_, act_BVS t hn, fun _ _ => rfl, branchBVS_any t hz hn (by omega)⟩
theorem ok_ADDW (K : Cx) (c : Nat) (hc : c < 256) (hk : ixF c = 40) : ActOk K c actA := fun z s w nd no t hz hl => by
  have hn : z.n1 = .string ⟨#[65, 68, 68, 87]⟩ := hz.n1.trans (by rw [name_at c hc 40 hk [65, 68, 68, 87] rfl]; rfl)
  unfold actA
  rw [hk]
  exact ⟨_, act_ADDW t hn, fun _ _ => rfl, addWord0_any t hz hn (by omega)⟩
theorem ok_RETI (K : Cx) (c : Nat) (hc : c < 256) (hk : ixF c = 41) : ActOk K c actA := fun z s w nd no t hz hl => by
  have hn : z.n1 = .string ⟨#[82, 69, 84, 73]⟩ := hz.n1.trans (by rw [name_at c hc 41 hk [82, 69, 84, 73] rfl]; rfl)
  unfold actA
  rw [hk]
  exact ⟨_, act_RETI t hn, fun _ _ => rfl, backFromTrap_any t (by omega)⟩
theorem ok_SETC (K : Cx) (c : Nat) (hc : c < 256) (hk : ixF c = 42) : ActOk K c actA := fun z s w nd no t hz hl => by
  have hn : z.n1 = .string ⟨#[83, 69, 84, 67]⟩ := hz.n1.trans (by rw [name_at c hc 42 hk [83, 69, 84, 67] rfl]; rfl)
  unfold actA
  rw [hk]
  exact ⟨_, act_SETC t hn, fun _ _ => rfl, putFlagSETC_any t hn (by omega)⟩
theorem ok_ADC (K : Cx) (c : Nat) (hc : c < 256) (hk : ixF c = 43) : ActOk K c actA := fun z s w nd no t hz hl => by
  obtain ⟨hr, hrd, hw⟩ := (show ∀ c, c < 256 → ixF c = 43 → (readable (coF (fmL c))) ∧ (readable (cdF (fmL c))) ∧ (writable (cdF (fmL c))) by decide +kernel) c hc hk
  have hn : z.n1 = .string ⟨#[65, 68, 67]⟩ := hz.n1.trans (by rw [name_at c hc 43 hk [65, 68, 67] rfl]; rfl)
  unfold actA
  rw [hk]
  exact ⟨_, act_ADC t hn, fun _ _ => rfl, combine_any t hz 3 (by decide) hn hr hrd hw (by omega)⟩
theorem ok_EOR1 (K : Cx) (c : Nat) (hc : c < 256) (hk : ixF c = 44) : ActOk K c actA := fun z s w nd no t hz hl => by
  obtain ⟨hr, hco⟩ := (show ∀ c, c < 256 → ixF c = 44 → (readable (coF (fmL c))) ∧ (coF (fmL c) < 256) by decide +kernel) c hc hk
  have hn : z.n1 = .string ⟨#[69, 79, 82, 49]⟩ := hz.n1.trans (by rw [name_at c hc 44 hk [69, 79, 82, 49] rfl]; rfl)
  unfold actA
  rw [hk]
  exact ⟨_, act_EOR1 t hn, fun _ _ => rfl, combineCarry_any 2 (by decide) t hz hn hr hco (by omega)⟩
theorem ok_POP (K : Cx) (c : Nat) (hc : c < 256) (hk : ixF c = 45) : ActOk K c actA := fun z s w nd no t hz hl => by
  have hw := (show ∀ c, c < 256 → ixF c = 45 → writable (cdF (fmL c)) by decide +kernel) c hc hk
  have hn : z.n1 = .string ⟨#[80, 79, 80]⟩ := hz.n1.trans (by rw [name_at c hc 45 hk [80, 79, 80] rfl]; rfl)
  unfold actA
  rw [hk]
  exact ⟨_, act_POP t hn, fun _ _ => rfl, popRegister_any t hz hw (by omega)⟩
theorem ok_BCC (K : Cx) (c : Nat) (hc : c < 256) (hk : ixF c = 46) : ActOk K c actA := fun z s w nd no t hz hl => by
  have hn : z.n1 = .string ⟨#[66, 67, 67]⟩ := hz.n1.trans (by rw [name_at c hc 46 hk [66, 67, 67] rfl]; rfl)
  unfold actA
  rw [hk]
  exact ⟨_, act_BCC t hn, fun _ _ => rfl, branchBCC_any t hz hn (by omega)⟩
theorem ok_SUBW (K : Cx) (c : Nat) (hc : c < 256) (hk : ixF c = 47) : ActOk K c actA := fun z s w nd no t hz hl => by
  have hn : z.n1 = .string ⟨#[83, 85, 66, 87]⟩ := hz.n1.trans (by rw [name_at c hc 47 hk [83, 85, 66, 87] rfl]; rfl)
  unfold actA
  rw [hk]
  exact ⟨_, act_SUBW t hn, fun _ _ => rfl, addWord1_any t hz hn (by omega)⟩
theorem ok_DIV (K : Cx) (c : Nat) (hc : c < 256) (hk : ixF c = 48) : ActOk K c actA := fun z s w nd no t hz hl => by
  have hn : z.n1 = .string ⟨#[68, 73, 86]⟩ := hz.n1.trans (by rw [name_at c hc 48 hk [68, 73, 86] rfl]; rfl)
  unfold actA
  rw [hk]
  exact ⟨_, act_DIV t hn, fun _ _ => rfl, divide_any t (by omega)⟩
theorem ok_XCN (K : Cx) (c : Nat) (hc : c < 256) (hk : ixF c = 49) : ActOk K c actA := fun z s w nd no t hz hl => by
  have hn : z.n1 = .string ⟨#[88, 67, 78]⟩ := hz.n1.trans (by rw [name_at c hc 49 hk [88, 67, 78] rfl]; rfl)
  unfold actA
  rw [hk]
  exact ⟨_, act_XCN t hn, fun _ _ => rfl, exchange_any t (by omega)⟩
theorem ok_EI (K : Cx) (c : Nat) (hc : c < 256) (hk : ixF c = 50) : ActOk K c actA := fun z s w nd no t hz hl => by
  have hn : z.n1 = .string ⟨#[69, 73]⟩ := hz.n1.trans (by rw [name_at c hc 50 hk [69, 73] rfl]; rfl)
  unfold actA
  rw [hk]
  exact ⟨_, act_EI t hn, fun _ _ => rfl, putFlagEI_any t hn (by omega)⟩
theorem ok_SBC (K : Cx) (c : Nat) (hc : c < 256) (hk : ixF c = 51) : ActOk K c actA := fun z s w nd no t hz hl => by
  obtain ⟨hr, hrd, hw⟩ := (show ∀ c, c < 256 → ixF c = 51 → (readable (coF (fmL c))) ∧ (readable (cdF (fmL c))) ∧ (writable (cdF (fmL c))) by decide +kernel) c hc hk
  have hn : z.n1 = .string ⟨#[83, 66, 67]⟩ := hz.n1.trans (by rw [name_at c hc 51 hk [83, 66, 67] rfl]; rfl)
  unfold actA
  rw [hk]
  exact ⟨_, act_SBC t hn, fun _ _ => rfl, combine_any t hz 4 (by decide) hn hr hrd hw (by omega)⟩
theorem ok_MOV1 (K : Cx) (c : Nat) (hc : c < 256) (hk : ixF c = 52) : ActOk K c actA := fun z s w nd no t hz hl => by
  obtain ⟨hr, hcd, hco⟩ := (show ∀ c, c < 256 → ixF c = 52 → (cdF (fmL c) = 67 ∧ readable (coF (fmL c)) ∨ cdF (fmL c) ≠ 67 ∧ readable (cdF (fmL c)) ∧ writable (cdF (fmL c))) ∧ (cdF (fmL c) < 256) ∧ (coF (fmL c) < 256) by decide +kernel) c hc hk
  have hn : z.n1 = .string ⟨#[77, 79, 86, 49]⟩ := hz.n1.trans (by rw [name_at c hc 52 hk [77, 79, 86, 49] rfl]; rfl)
  unfold actA
  rw [hk]
  exact ⟨_, act_MOV1 t hn, fun _ _ => rfl, moveBit_any t hz hr hcd hco (by omega)⟩
theorem ok_BCS (K : Cx) (c : Nat) (hc : c < 256) (hk : ixF c = 53) : ActOk K c actA := fun z s w nd no t hz hl => by
  have hn : z.n1 = .string ⟨#[66, 67, 83]⟩ := hz.n1.trans (by rw [name_at c hc 53 hk [66, 67, 83] rfl]; rfl)
  unfold actA
  rw [hk]
  exact ⟨_, act_BCS t hn, fun _ _ => rfl, branchBCS_any t hz hn (by omega)⟩
theorem ok_MOVW (K : Cx) (c : Nat) (hc : c < 256) (hk : ixF c = 54) : ActOk K c actA := fun z s w nd no t hz hl => by
  have hcd := (show ∀ c, c < 256 → ixF c = 54 → cdF (fmL c) < 256 by decide +kernel) c hc hk
  have hn : z.n1 = .string ⟨#[77, 79, 86, 87]⟩ := hz.n1.trans (by rw [name_at c hc 54 hk [77, 79, 86, 87] rfl]; rfl)
  unfold actA
  rw [hk]
  refine ⟨_, act_MOVW t hn, fun _ _ => rfl, ?_⟩
  show Calls _ _ _ _ (Post K z s w (if cdF (fmL c) = 68 then storeWordM nd else moveWordM no) unitV (fun _ => True) 12)
  by_cases h : cdF (fmL c) = 68
  · rw [if_pos h]
    exact moveWordD_any t hz h (by omega)
  · rw [if_neg h]
    exact moveWordW_any t hz hcd h (by omega)
theorem ok_DAS (K : Cx) (c : Nat) (hc : c < 256) (hk : ixF c = 55) : ActOk K c actA := fun z s w nd no t hz hl => by
  have hn : z.n1 = .string ⟨#[68, 65, 83]⟩ := hz.n1.trans (by rw [name_at c hc 55 hk [68, 65, 83] rfl]; rfl)
  unfold actA
  rw [hk]
  exact ⟨_, act_DAS t hn, fun _ _ => rfl, adjustDifference_any t (by omega)⟩
theorem ok_DI (K : Cx) (c : Nat) (hc : c < 256) (hk : ixF c = 56) : ActOk K c actA := fun z s w nd no t hz hl => by
  have hn : z.n1 = .string ⟨#[68, 73]⟩ := hz.n1.trans (by rw [name_at c hc 56 hk [68, 73] rfl]; rfl)
  unfold actA
  rw [hk]
  exact ⟨_, act_DI t hn, fun _ _ => rfl, putFlagDI_any t hn (by omega)⟩
theorem ok_MUL (K : Cx) (c : Nat) (hc : c < 256) (hk : ixF c = 57) : ActOk K c actA := fun z s w nd no t hz hl => by
  have hn : z.n1 = .string ⟨#[77, 85, 76]⟩ := hz.n1.trans (by rw [name_at c hc 57 hk [77, 85, 76] rfl]; rfl)
  unfold actA
  rw [hk]
  exact ⟨_, act_MUL t hn, fun _ _ => rfl, multiply_any t (by omega)⟩
theorem ok_BNE (K : Cx) (c : Nat) (hc : c < 256) (hk : ixF c = 58) : ActOk K c actA := fun z s w nd no t hz hl => by
  have hn : z.n1 = .string ⟨#[66, 78, 69]⟩ := hz.n1.trans (by rw [name_at c hc 58 hk [66, 78, 69] rfl]; rfl)
  unfold actA
  rw [hk]
  exact ⟨_, act_BNE t hn, fun _ _ => rfl, branchBNE_any t hz hn (by omega)⟩
theorem ok_DAA (K : Cx) (c : Nat) (hc : c < 256) (hk : ixF c = 59) : ActOk K c actA := fun z s w nd no t hz hl => by
  have hn : z.n1 = .string ⟨#[68, 65, 65]⟩ := hz.n1.trans (by rw [name_at c hc 59 hk [68, 65, 65] rfl]; rfl)
  unfold actA
  rw [hk]
  exact ⟨_, act_DAA t hn, fun _ _ => rfl, adjustSum_any t (by omega)⟩
theorem ok_CLRV (K : Cx) (c : Nat) (hc : c < 256) (hk : ixF c = 60) : ActOk K c actA := fun z s w nd no t hz hl => by
  have hn : z.n1 = .string ⟨#[67, 76, 82, 86]⟩ := hz.n1.trans (by rw [name_at c hc 60 hk [67, 76, 82, 86] rfl]; rfl)
  unfold actA
  rw [hk]
  exact ⟨_, act_CLRV t hn, fun _ _ => rfl, putFlagCLRV_any t hn (by omega)⟩
theorem ok_NOT1 (K : Cx) (c : Nat) (hc : c < 256) (hk : ixF c = 61) : ActOk K c actA := fun z s w nd no t hz hl => by
  obtain ⟨hrd, hw, hcd⟩ := (show ∀ c, c < 256 → ixF c = 61 → (readable (cdF (fmL c))) ∧ (writable (cdF (fmL c))) ∧ (cdF (fmL c) < 256) by decide +kernel) c hc hk
  have hn : z.n1 = .string ⟨#[78, 79, 84, 49]⟩ := hz.n1.trans (by rw [name_at c hc 61 hk [78, 79, 84, 49] rfl]; rfl)
  unfold actA
  rw [hk]
  exact ⟨_, act_NOT1 t hn, fun _ _ => rfl, changeBit_any 2 (by decide) t hz hn hrd hw hcd (by omega)⟩
theorem ok_NOTC (K : Cx) (c : Nat) (hc : c < 256) (hk : ixF c = 62) : ActOk K c actA := fun z s w nd no t hz hl => by
  have hn : z.n1 = .string ⟨#[78, 79, 84, 67]⟩ := hz.n1.trans (by rw [name_at c hc 62 hk [78, 79, 84, 67] rfl]; rfl)
  unfold actA
  rw [hk]
  exact ⟨_, act_NOTC t hn, fun _ _ => rfl, putFlagNOTC_any t hn (by omega)⟩
theorem ok_SLEEP (K : Cx) (c : Nat) (hc : c < 256) (hk : ixF c = 63) : ActOk K c actA := fun z s w nd no t hz hl => by
  have hn : z.n1 = .string ⟨#[83, 76, 69, 69, 80]⟩ := hz.n1.trans (by rw [name_at c hc 63 hk [83, 76, 69, 69, 80] rfl]; rfl)
  unfold actA
  rw [hk]
  exact ⟨_, act_SLEEP t hn, fun _ _ => rfl, halt_any t (by omega)⟩
theorem ok_BEQ (K : Cx) (c : Nat) (hc : c < 256) (hk : ixF c = 64) : ActOk K c actA := fun z s w nd no t hz hl => by
  have hn : z.n1 = .string ⟨#[66, 69, 81]⟩ := hz.n1.trans (by rw [name_at c hc 64 hk [66, 69, 81] rfl]; rfl)
  unfold actA
  rw [hk]
  exact ⟨_, act_BEQ t hn, fun _ _ => rfl, branchBEQ_any t hz hn (by omega)⟩
theorem ok_STOP (K : Cx) (c : Nat) (hc : c < 256) (hk : ixF c = 65) : ActOk K c actA := fun z s w nd no t hz hl => by
  have hn : z.n1 = .string ⟨#[83, 84, 79, 80]⟩ := hz.n1.trans (by rw [name_at c hc 65 hk [83, 84, 79, 80] rfl]; rfl)
  unfold actA
  rw [hk]
  exact ⟨_, act_STOP t hn, fun _ _ => rfl, halt_any t (by omega)⟩
end Go.Proofs.YtknlbmjncginnaaGreatDoor
namespace Go.Proofs.YtknlbmjncginnaaGreatDoor
open Go.RowKit Go.Shelf
set_option maxRecDepth 100000
set_option maxHeartbeats 4000000
set_option linter.unusedVariables false

theorem act_ok (K : Cx) (c : Nat) (hc : c < 256) : ActOk K c actA := by
  have hk := (ix_all c hc).1
  match h : ixF c with
  | 0 => exact ok_NOP K c hc h
  | 1 => exact ok_TCALL K c hc h
  | 2 => exact ok_SET1 K c hc h
  | 3 => exact ok_BBS K c hc h
  | 4 => exact ok_OR K c hc h
  | 5 => exact ok_OR1 K c hc h
  | 6 => exact ok_ASL K c hc h
  | 7 => exact ok_PUSH K c hc h
  | 8 => exact ok_TSET1 K c hc h
  | 9 => exact ok_BRK K c hc h
  | 10 => exact ok_BPL K c hc h
  | 11 => exact ok_CLR1 K c hc h
  | 12 => exact ok_BBC K c hc h
  | 13 => exact ok_DECW K c hc h
  | 14 => exact ok_DEC K c hc h
  | 15 => exact ok_CMP K c hc h
  | 16 => exact ok_JMP K c hc h
  | 17 => exact ok_CLRP K c hc h
  | 18 => exact ok_AND K c hc h
  | 19 => exact ok_ROL K c hc h
  | 20 => exact ok_CBNE K c hc h
  | 21 => exact ok_BRA K c hc h
  | 22 => exact ok_BMI K c hc h
  | 23 => exact ok_INCW K c hc h
  | 24 => exact ok_INC K c hc h
  | 25 => exact ok_CALL K c hc h
  | 26 => exact ok_SETP K c hc h
  | 27 => exact ok_EOR K c hc h
  | 28 => exact ok_AND1 K c hc h
  | 29 => exact ok_LSR K c hc h
  | 30 => exact ok_TCLR1 K c hc h
  | 31 => exact ok_PCALL K c hc h
  | 32 => exact ok_BVC K c hc h
  | 33 => exact ok_CMPW K c hc h
  | 34 => exact ok_MOV K c hc h
  | 35 => exact ok_CLRC K c hc h
  | 36 => exact ok_ROR K c hc h
  | 37 => exact ok_DBNZ K c hc h
  | 38 => exact ok_RET K c hc h
  | 39 => exact ok_BVS K c hc h
  | 40 => exact ok_ADDW K c hc h
  | 41 => exact ok_RETI K c hc h
  | 42 => exact ok_SETC K c hc h
  | 43 => exact ok_ADC K c hc h
  | 44 => exact ok_EOR1 K c hc h
  | 45 => exact ok_POP K c hc h
  | 46 => exact ok_BCC K c hc h
  | 47 => exact ok_SUBW K c hc h
  | 48 => exact ok_DIV K c hc h
  | 49 => exact ok_XCN K c hc h
  | 50 => exact ok_EI K c hc h
  | 51 => exact ok_SBC K c hc h
  | 52 => exact ok_MOV1 K c hc h
  | 53 => exact ok_BCS K c hc h
  | 54 => exact ok_MOVW K c hc h
  | 55 => exact ok_DAS K c hc h
  | 56 => exact ok_DI K c hc h
  | 57 => exact ok_MUL K c hc h
  | 58 => exact ok_BNE K c hc h
  | 59 => exact ok_DAA K c hc h
  | 60 => exact ok_CLRV K c hc h
  | 61 => exact ok_NOT1 K c hc h
  | 62 => exact ok_NOTC K c hc h
  | 63 => exact ok_SLEEP K c hc h
  | 64 => exact ok_BEQ K c hc h
  | 65 => exact ok_STOP K c hc h
  | k + 66 => exact absurd hk (by omega)
end Go.Proofs.YtknlbmjncginnaaGreatDoor
