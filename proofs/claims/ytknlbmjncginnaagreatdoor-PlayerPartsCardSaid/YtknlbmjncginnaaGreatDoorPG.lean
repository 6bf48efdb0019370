/-
  Branches, jumps, calls by a table, traps (gentm.py writes this text).
-/
import Derived.Test.YtknlbmjncginnaaGreatDoorPF
import Derived.StillTailTactics
namespace Go.Proofs.YtknlbmjncginnaaGreatDoor
open Go.RowKit Go.Shelf
set_option maxRecDepth 100000
set_option maxHeartbeats 1000000
set_option linter.unusedVariables false

section
variable {K : Cx} {z : Zs} {s : Ts} {w w' : World} {c cd nd co no : Nat} {nm fm : ByteArray}
theorem branchBPL_any (h : Tk K z s w) (hz : Zd K z w c nm fm cd nd co no) (hn : z.n1 = .string ⟨#[66, 80, 76]⟩) (hl : s.l.length ≤ 80) :
    Calls Tryz.prog 209 #[.pointer (some ⟨K.b, 0, none⟩)] w (Post K z s w (M.bind (M.ask fun r => hasP r.P 128) fun b => branchM (!b) no) unitV (fun _ => True) 12) := by
  obtain ⟨Q, hQ, F⟩ := post_name (Post K z s w (M.bind (M.ask fun r => hasP r.P 128) fun b => branchM (!b) no) unitV (fun _ => True) 12)
  rw [hQ]
  clear hQ
  replace F := Lib.hid F
  have t0 := Lib.hid h
  have k0 := Lib.hid (Kp.refl K w)
  have hz0 := Lib.hid hz
  have hl0 := Lib.hid hl
  have se0 := Lib.hid (show s.l.length ≤ s.l.length + 0 from Nat.le_refl _)
  clear h hz hl
  go_enter Tryz.func209, Tryz.ntmps209
  have c10 := t0.out.lookN.2.1
  rw [hn] at c10
  have ab := Lib.hid (Ran.ask (fun r => hasP r.P 128) s)
  have H1 := flag_any 128 128 rfl t0.out (by decide)
  replace H1 := Lib.hid H1
  go_wp2_with fail
  with_reducible refine H1.out.mono ?_
  rintro e w1 ⟨rfl, hw1⟩
  rw [hw1]
  clear hw1 w1 H1
  have H2 := branchIf_any (!hasP s.r.P 128) t0.out (hz0.out.stay t0.out k0.out) (by have := hl0.out; have := se0.out; omega)
  replace H2 := Lib.hid H2
  go_wp2_with fail
  with_reducible refine H2.out.mono ?_
  rintro e w2 ⟨rfl, t2, k2⟩
  have r2 := Ran.branch (!hasP s.r.P 128) no s
  have se2 : ((brS (!hasP s.r.P 128) no s)).l.length ≤ s.l.length + 2 := by have := se0.out; unfold brS; split <;> simp <;> omega
  generalize hs2 : (brS (!hasP s.r.P 128) no s) = s2 at r2 t2 se2
  replace hs2 := Lib.hid hs2
  replace k2 := Lib.hid (k0.out.trans k2)
  replace t2 := Lib.hid t2
  replace r2 := Lib.hid r2
  replace se2 := Lib.hid se2
  clear H2
  have hf := Lib.hid (F.out (.returned (unitV ())) _ (Post.done (ab.out.bind (r2.out)) t2.out k2.out trivial (by have := se2.out; omega)))
  unfold unitV at hf
  clear F
  go_wp2_with fail
  first | exact hf.out | (go_end0; exact hf.out) | (go_ret; exact hf.out)
theorem branchBMI_any (h : Tk K z s w) (hz : Zd K z w c nm fm cd nd co no) (hn : z.n1 = .string ⟨#[66, 77, 73]⟩) (hl : s.l.length ≤ 80) :
    Calls Tryz.prog 209 #[.pointer (some ⟨K.b, 0, none⟩)] w (Post K z s w (M.bind (M.ask fun r => hasP r.P 128) fun b => branchM b no) unitV (fun _ => True) 12) := by
  obtain ⟨Q, hQ, F⟩ := post_name (Post K z s w (M.bind (M.ask fun r => hasP r.P 128) fun b => branchM b no) unitV (fun _ => True) 12)
  rw [hQ]
  clear hQ
  replace F := Lib.hid F
  have t0 := Lib.hid h
  have k0 := Lib.hid (Kp.refl K w)
  have hz0 := Lib.hid hz
  have hl0 := Lib.hid hl
  have se0 := Lib.hid (show s.l.length ≤ s.l.length + 0 from Nat.le_refl _)
  clear h hz hl
  go_enter Tryz.func209, Tryz.ntmps209
  have c10 := t0.out.lookN.2.1
  rw [hn] at c10
  have ab := Lib.hid (Ran.ask (fun r => hasP r.P 128) s)
  have H1 := flag_any 128 128 rfl t0.out (by decide)
  replace H1 := Lib.hid H1
  go_wp2_with fail
  with_reducible refine H1.out.mono ?_
  rintro e w1 ⟨rfl, hw1⟩
  rw [hw1]
  clear hw1 w1 H1
  have H2 := branchIf_any (hasP s.r.P 128) t0.out (hz0.out.stay t0.out k0.out) (by have := hl0.out; have := se0.out; omega)
  replace H2 := Lib.hid H2
  go_wp2_with fail
  with_reducible refine H2.out.mono ?_
  rintro e w2 ⟨rfl, t2, k2⟩
  have r2 := Ran.branch (hasP s.r.P 128) no s
  have se2 : ((brS (hasP s.r.P 128) no s)).l.length ≤ s.l.length + 2 := by have := se0.out; unfold brS; split <;> simp <;> omega
  generalize hs2 : (brS (hasP s.r.P 128) no s) = s2 at r2 t2 se2
  replace hs2 := Lib.hid hs2
  replace k2 := Lib.hid (k0.out.trans k2)
  replace t2 := Lib.hid t2
  replace r2 := Lib.hid r2
  replace se2 := Lib.hid se2
  clear H2
  have hf := Lib.hid (F.out (.returned (unitV ())) _ (Post.done (ab.out.bind (r2.out)) t2.out k2.out trivial (by have := se2.out; omega)))
  unfold unitV at hf
  clear F
  go_wp2_with fail
  first | exact hf.out | (go_end0; exact hf.out) | (go_ret; exact hf.out)
theorem branchBVC_any (h : Tk K z s w) (hz : Zd K z w c nm fm cd nd co no) (hn : z.n1 = .string ⟨#[66, 86, 67]⟩) (hl : s.l.length ≤ 80) :
    Calls Tryz.prog 209 #[.pointer (some ⟨K.b, 0, none⟩)] w (Post K z s w (M.bind (M.ask fun r => hasP r.P 64) fun b => branchM (!b) no) unitV (fun _ => True) 12) := by
  obtain ⟨Q, hQ, F⟩ := post_name (Post K z s w (M.bind (M.ask fun r => hasP r.P 64) fun b => branchM (!b) no) unitV (fun _ => True) 12)
  rw [hQ]
  clear hQ
  replace F := Lib.hid F
  have t0 := Lib.hid h
  have k0 := Lib.hid (Kp.refl K w)
  have hz0 := Lib.hid hz
  have hl0 := Lib.hid hl
  have se0 := Lib.hid (show s.l.length ≤ s.l.length + 0 from Nat.le_refl _)
  clear h hz hl
  go_enter Tryz.func209, Tryz.ntmps209
  have c10 := t0.out.lookN.2.1
  rw [hn] at c10
  have ab := Lib.hid (Ran.ask (fun r => hasP r.P 64) s)
  have H1 := flag_any 64 64 rfl t0.out (by decide)
  replace H1 := Lib.hid H1
  go_wp2_with fail
  with_reducible refine H1.out.mono ?_
  rintro e w1 ⟨rfl, hw1⟩
  rw [hw1]
  clear hw1 w1 H1
  have H2 := branchIf_any (!hasP s.r.P 64) t0.out (hz0.out.stay t0.out k0.out) (by have := hl0.out; have := se0.out; omega)
  replace H2 := Lib.hid H2
  go_wp2_with fail
  with_reducible refine H2.out.mono ?_
  rintro e w2 ⟨rfl, t2, k2⟩
  have r2 := Ran.branch (!hasP s.r.P 64) no s
  have se2 : ((brS (!hasP s.r.P 64) no s)).l.length ≤ s.l.length + 2 := by have := se0.out; unfold brS; split <;> simp <;> omega
  generalize hs2 : (brS (!hasP s.r.P 64) no s) = s2 at r2 t2 se2
  replace hs2 := Lib.hid hs2
  replace k2 := Lib.hid (k0.out.trans k2)
  replace t2 := Lib.hid t2
  replace r2 := Lib.hid r2
  replace se2 := Lib.hid se2
  clear H2
  have hf := Lib.hid (F.out (.returned (unitV ())) _ (Post.done (ab.out.bind (r2.out)) t2.out k2.out trivial (by have := se2.out; omega)))
  unfold unitV at hf
  clear F
  go_wp2_with fail
  first | exact hf.out | (go_end0; exact hf.out) | (go_ret; exact hf.out)
theorem branchBVS_any (h : Tk K z s w) (hz : Zd K z w c nm fm cd nd co no) (hn : z.n1 = .string ⟨#[66, 86, 83]⟩) (hl : s.l.length ≤ 80) :
    Calls Tryz.prog 209 #[.pointer (some ⟨K.b, 0, none⟩)] w (Post K z s w (M.bind (M.ask fun r => hasP r.P 64) fun b => branchM b no) unitV (fun _ => True) 12) := by
  obtain ⟨Q, hQ, F⟩ := post_name (Post K z s w (M.bind (M.ask fun r => hasP r.P 64) fun b => branchM b no) unitV (fun _ => True) 12)
  rw [hQ]
  clear hQ
  replace F := Lib.hid F
  have t0 := Lib.hid h
  have k0 := Lib.hid (Kp.refl K w)
  have hz0 := Lib.hid hz
  have hl0 := Lib.hid hl
  have se0 := Lib.hid (show s.l.length ≤ s.l.length + 0 from Nat.le_refl _)
  clear h hz hl
  go_enter Tryz.func209, Tryz.ntmps209
  have c10 := t0.out.lookN.2.1
  rw [hn] at c10
  have ab := Lib.hid (Ran.ask (fun r => hasP r.P 64) s)
  have H1 := flag_any 64 64 rfl t0.out (by decide)
  replace H1 := Lib.hid H1
  go_wp2_with fail
  with_reducible refine H1.out.mono ?_
  rintro e w1 ⟨rfl, hw1⟩
  rw [hw1]
  clear hw1 w1 H1
  have H2 := branchIf_any (hasP s.r.P 64) t0.out (hz0.out.stay t0.out k0.out) (by have := hl0.out; have := se0.out; omega)
  replace H2 := Lib.hid H2
  go_wp2_with fail
  with_reducible refine H2.out.mono ?_
  rintro e w2 ⟨rfl, t2, k2⟩
  have r2 := Ran.branch (hasP s.r.P 64) no s
  have se2 : ((brS (hasP s.r.P 64) no s)).l.length ≤ s.l.length + 2 := by have := se0.out; unfold brS; split <;> simp <;> omega
  generalize hs2 : (brS (hasP s.r.P 64) no s) = s2 at r2 t2 se2
  replace hs2 := Lib.hid hs2
  replace k2 := Lib.hid (k0.out.trans k2)
  replace t2 := Lib.hid t2
  replace r2 := Lib.hid r2
  replace se2 := Lib.hid se2
  clear H2
  have hf := Lib.hid (F.out (.returned (unitV ())) _ (Post.done (ab.out.bind (r2.out)) t2.out k2.out trivial (by have := se2.out; omega)))
  unfold unitV at hf
  clear F
  go_wp2_with fail
  first | exact hf.out | (go_end0; exact hf.out) | (go_ret; exact hf.out)
theorem branchBCC_any (h : Tk K z s w) (hz : Zd K z w c nm fm cd nd co no) (hn : z.n1 = .string ⟨#[66, 67, 67]⟩) (hl : s.l.length ≤ 80) :
    Calls Tryz.prog 209 #[.pointer (some ⟨K.b, 0, none⟩)] w (Post K z s w (M.bind (M.ask fun r => hasP r.P 1) fun b => branchM (!b) no) unitV (fun _ => True) 12) := by
  obtain ⟨Q, hQ, F⟩ := post_name (Post K z s w (M.bind (M.ask fun r => hasP r.P 1) fun b => branchM (!b) no) unitV (fun _ => True) 12)
  rw [hQ]
  clear hQ
  replace F := Lib.hid F
  have t0 := Lib.hid h
  have k0 := Lib.hid (Kp.refl K w)
  have hz0 := Lib.hid hz
  have hl0 := Lib.hid hl
  have se0 := Lib.hid (show s.l.length ≤ s.l.length + 0 from Nat.le_refl _)
  clear h hz hl
  go_enter Tryz.func209, Tryz.ntmps209
  have c10 := t0.out.lookN.2.1
  rw [hn] at c10
  have ab := Lib.hid (Ran.ask (fun r => hasP r.P 1) s)
  have H1 := flag_any 1 1 rfl t0.out (by decide)
  replace H1 := Lib.hid H1
  go_wp2_with fail
  with_reducible refine H1.out.mono ?_
  rintro e w1 ⟨rfl, hw1⟩
  rw [hw1]
  clear hw1 w1 H1
  have H2 := branchIf_any (!hasP s.r.P 1) t0.out (hz0.out.stay t0.out k0.out) (by have := hl0.out; have := se0.out; omega)
  replace H2 := Lib.hid H2
  go_wp2_with fail
  with_reducible refine H2.out.mono ?_
  rintro e w2 ⟨rfl, t2, k2⟩
  have r2 := Ran.branch (!hasP s.r.P 1) no s
  have se2 : ((brS (!hasP s.r.P 1) no s)).l.length ≤ s.l.length + 2 := by have := se0.out; unfold brS; split <;> simp <;> omega
  generalize hs2 : (brS (!hasP s.r.P 1) no s) = s2 at r2 t2 se2
  replace hs2 := Lib.hid hs2
  replace k2 := Lib.hid (k0.out.trans k2)
  replace t2 := Lib.hid t2
  replace r2 := Lib.hid r2
  replace se2 := Lib.hid se2
  clear H2
  have hf := Lib.hid (F.out (.returned (unitV ())) _ (Post.done (ab.out.bind (r2.out)) t2.out k2.out trivial (by have := se2.out; omega)))
  unfold unitV at hf
  clear F
  go_wp2_with fail
  first | exact hf.out | (go_end0; exact hf.out) | (go_ret; exact hf.out)
theorem branchBCS_any (h : Tk K z s w) (hz : Zd K z w c nm fm cd nd co no) (hn : z.n1 = .string ⟨#[66, 67, 83]⟩) (hl : s.l.length ≤ 80) :
    Calls Tryz.prog 209 #[.pointer (some ⟨K.b, 0, none⟩)] w (Post K z s w (M.bind (M.ask fun r => hasP r.P 1) fun b => branchM b no) unitV (fun _ => True) 12) := by
  obtain ⟨Q, hQ, F⟩ := post_name (Post K z s w (M.bind (M.ask fun r => hasP r.P 1) fun b => branchM b no) unitV (fun _ => True) 12)
  rw [hQ]
  clear hQ
  replace F := Lib.hid F
  have t0 := Lib.hid h
  have k0 := Lib.hid (Kp.refl K w)
  have hz0 := Lib.hid hz
  have hl0 := Lib.hid hl
  have se0 := Lib.hid (show s.l.length ≤ s.l.length + 0 from Nat.le_refl _)
  clear h hz hl
  go_enter Tryz.func209, Tryz.ntmps209
  have c10 := t0.out.lookN.2.1
  rw [hn] at c10
  have ab := Lib.hid (Ran.ask (fun r => hasP r.P 1) s)
  have H1 := flag_any 1 1 rfl t0.out (by decide)
  replace H1 := Lib.hid H1
  go_wp2_with fail
  with_reducible refine H1.out.mono ?_
  rintro e w1 ⟨rfl, hw1⟩
  rw [hw1]
  clear hw1 w1 H1
  have H2 := branchIf_any (hasP s.r.P 1) t0.out (hz0.out.stay t0.out k0.out) (by have := hl0.out; have := se0.out; omega)
  replace H2 := Lib.hid H2
  go_wp2_with fail
  with_reducible refine H2.out.mono ?_
  rintro e w2 ⟨rfl, t2, k2⟩
  have r2 := Ran.branch (hasP s.r.P 1) no s
  have se2 : ((brS (hasP s.r.P 1) no s)).l.length ≤ s.l.length + 2 := by have := se0.out; unfold brS; split <;> simp <;> omega
  generalize hs2 : (brS (hasP s.r.P 1) no s) = s2 at r2 t2 se2
  replace hs2 := Lib.hid hs2
  replace k2 := Lib.hid (k0.out.trans k2)
  replace t2 := Lib.hid t2
  replace r2 := Lib.hid r2
  replace se2 := Lib.hid se2
  clear H2
  have hf := Lib.hid (F.out (.returned (unitV ())) _ (Post.done (ab.out.bind (r2.out)) t2.out k2.out trivial (by have := se2.out; omega)))
  unfold unitV at hf
  clear F
  go_wp2_with fail
  first | exact hf.out | (go_end0; exact hf.out) | (go_ret; exact hf.out)
theorem branchBNE_any (h : Tk K z s w) (hz : Zd K z w c nm fm cd nd co no) (hn : z.n1 = .string ⟨#[66, 78, 69]⟩) (hl : s.l.length ≤ 80) :
    Calls Tryz.prog 209 #[.pointer (some ⟨K.b, 0, none⟩)] w (Post K z s w (M.bind (M.ask fun r => hasP r.P 2) fun b => branchM (!b) no) unitV (fun _ => True) 12) := by
  obtain ⟨Q, hQ, F⟩ := post_name (Post K z s w (M.bind (M.ask fun r => hasP r.P 2) fun b => branchM (!b) no) unitV (fun _ => True) 12)
  rw [hQ]
  clear hQ
  replace F := Lib.hid F
  have t0 := Lib.hid h
  have k0 := Lib.hid (Kp.refl K w)
  have hz0 := Lib.hid hz
  have hl0 := Lib.hid hl
  have se0 := Lib.hid (show s.l.length ≤ s.l.length + 0 from Nat.le_refl _)
  clear h hz hl
  go_enter Tryz.func209, Tryz.ntmps209
  have c10 := t0.out.lookN.2.1
  rw [hn] at c10
  have ab := Lib.hid (Ran.ask (fun r => hasP r.P 2) s)
  have H1 := flag_any 2 2 rfl t0.out (by decide)
  replace H1 := Lib.hid H1
  go_wp2_with fail
  with_reducible refine H1.out.mono ?_
  rintro e w1 ⟨rfl, hw1⟩
  rw [hw1]
  clear hw1 w1 H1
  have H2 := branchIf_any (!hasP s.r.P 2) t0.out (hz0.out.stay t0.out k0.out) (by have := hl0.out; have := se0.out; omega)
  replace H2 := Lib.hid H2
  go_wp2_with fail
  with_reducible refine H2.out.mono ?_
  rintro e w2 ⟨rfl, t2, k2⟩
  have r2 := Ran.branch (!hasP s.r.P 2) no s
  have se2 : ((brS (!hasP s.r.P 2) no s)).l.length ≤ s.l.length + 2 := by have := se0.out; unfold brS; split <;> simp <;> omega
  generalize hs2 : (brS (!hasP s.r.P 2) no s) = s2 at r2 t2 se2
  replace hs2 := Lib.hid hs2
  replace k2 := Lib.hid (k0.out.trans k2)
  replace t2 := Lib.hid t2
  replace r2 := Lib.hid r2
  replace se2 := Lib.hid se2
  clear H2
  have hf := Lib.hid (F.out (.returned (unitV ())) _ (Post.done (ab.out.bind (r2.out)) t2.out k2.out trivial (by have := se2.out; omega)))
  unfold unitV at hf
  clear F
  go_wp2_with fail
  first | exact hf.out | (go_end0; exact hf.out) | (go_ret; exact hf.out)
theorem branchBEQ_any (h : Tk K z s w) (hz : Zd K z w c nm fm cd nd co no) (hn : z.n1 = .string ⟨#[66, 69, 81]⟩) (hl : s.l.length ≤ 80) :
    Calls Tryz.prog 209 #[.pointer (some ⟨K.b, 0, none⟩)] w (Post K z s w (M.bind (M.ask fun r => hasP r.P 2) fun b => branchM b no) unitV (fun _ => True) 12) := by
  obtain ⟨Q, hQ, F⟩ := post_name (Post K z s w (M.bind (M.ask fun r => hasP r.P 2) fun b => branchM b no) unitV (fun _ => True) 12)
  rw [hQ]
  clear hQ
  replace F := Lib.hid F
  have t0 := Lib.hid h
  have k0 := Lib.hid (Kp.refl K w)
  have hz0 := Lib.hid hz
  have hl0 := Lib.hid hl
  have se0 := Lib.hid (show s.l.length ≤ s.l.length + 0 from Nat.le_refl _)
  clear h hz hl
  go_enter Tryz.func209, Tryz.ntmps209
  have c10 := t0.out.lookN.2.1
  rw [hn] at c10
  have ab := Lib.hid (Ran.ask (fun r => hasP r.P 2) s)
  have H1 := flag_any 2 2 rfl t0.out (by decide)
  replace H1 := Lib.hid H1
  go_wp2_with fail
  with_reducible refine H1.out.mono ?_
  rintro e w1 ⟨rfl, hw1⟩
  rw [hw1]
  clear hw1 w1 H1
  have H2 := branchIf_any (hasP s.r.P 2) t0.out (hz0.out.stay t0.out k0.out) (by have := hl0.out; have := se0.out; omega)
  replace H2 := Lib.hid H2
  go_wp2_with fail
  with_reducible refine H2.out.mono ?_
  rintro e w2 ⟨rfl, t2, k2⟩
  have r2 := Ran.branch (hasP s.r.P 2) no s
  have se2 : ((brS (hasP s.r.P 2) no s)).l.length ≤ s.l.length + 2 := by have := se0.out; unfold brS; split <;> simp <;> omega
  generalize hs2 : (brS (hasP s.r.P 2) no s) = s2 at r2 t2 se2
  replace hs2 := Lib.hid hs2
  replace k2 := Lib.hid (k0.out.trans k2)
  replace t2 := Lib.hid t2
  replace r2 := Lib.hid r2
  replace se2 := Lib.hid se2
  clear H2
  have hf := Lib.hid (F.out (.returned (unitV ())) _ (Post.done (ab.out.bind (r2.out)) t2.out k2.out trivial (by have := se2.out; omega)))
  unfold unitV at hf
  clear F
  go_wp2_with fail
  first | exact hf.out | (go_end0; exact hf.out) | (go_ret; exact hf.out)
theorem branchBRA_any (h : Tk K z s w) (hz : Zd K z w c nm fm cd nd co no) (hn : z.n1 = .string ⟨#[66, 82, 65]⟩) (hl : s.l.length ≤ 80) :
    Calls Tryz.prog 209 #[.pointer (some ⟨K.b, 0, none⟩)] w (Post K z s w (branchM true no) unitV (fun _ => True) 12) := by
  obtain ⟨Q, hQ, F⟩ := post_name (Post K z s w (branchM true no) unitV (fun _ => True) 12)
  rw [hQ]
  clear hQ
  replace F := Lib.hid F
  have t0 := Lib.hid h
  have k0 := Lib.hid (Kp.refl K w)
  have hz0 := Lib.hid hz
  have hl0 := Lib.hid hl
  have se0 := Lib.hid (show s.l.length ≤ s.l.length + 0 from Nat.le_refl _)
  clear h hz hl
  go_enter Tryz.func209, Tryz.ntmps209
  have c10 := t0.out.lookN.2.1
  rw [hn] at c10
  have H1 := branchIf_any (true) t0.out (hz0.out.stay t0.out k0.out) (by have := hl0.out; have := se0.out; omega)
  replace H1 := Lib.hid H1
  go_wp2_with fail
  with_reducible refine H1.out.mono ?_
  rintro e w1 ⟨rfl, t1, k1⟩
  have r1 := Ran.branch (true) no s
  have se1 : ((brS (true) no s)).l.length ≤ s.l.length + 2 := by have := se0.out; unfold brS; split <;> simp <;> omega
  generalize hs1 : (brS (true) no s) = s1 at r1 t1 se1
  replace hs1 := Lib.hid hs1
  replace k1 := Lib.hid (k0.out.trans k1)
  replace t1 := Lib.hid t1
  replace r1 := Lib.hid r1
  replace se1 := Lib.hid se1
  clear H1
  have hf := Lib.hid (F.out (.returned (unitV ())) _ (Post.done (r1.out) t1.out k1.out trivial (by have := se1.out; omega)))
  unfold unitV at hf
  clear F
  go_wp2_with fail
  first | exact hf.out | (go_end0; exact hf.out) | (go_ret; exact hf.out)
theorem branchDown_any (h : Tk K z s w) (hz : Zd K z w c nm fm cd nd co no) (hrd : readable cd) (hw : writable cd) (hl : s.l.length ≤ 80) :
    Calls Tryz.prog 212 #[.pointer (some ⟨K.b, 0, none⟩)] w (Post K z s w (M.bind (Go.Proofs.YtknlbmjncginnaaGreatDoor.readO cd nd) fun v => M.bind (writeO cd nd ((v + 255) % 256)) fun _ => branchM (!decide ((v + 255) % 256 = 0)) no) unitV (fun _ => True) 12) := by
  obtain ⟨Q, hQ, F⟩ := post_name (Post K z s w (M.bind (Go.Proofs.YtknlbmjncginnaaGreatDoor.readO cd nd) fun v => M.bind (writeO cd nd ((v + 255) % 256)) fun _ => branchM (!decide ((v + 255) % 256 = 0)) no) unitV (fun _ => True) 12)
  rw [hQ]
  clear hQ
  replace F := Lib.hid F
  have t0 := Lib.hid h
  have k0 := Lib.hid (Kp.refl K w)
  have hz0 := Lib.hid hz
  have hl0 := Lib.hid hl
  have se0 := Lib.hid (show s.l.length ≤ s.l.length + 0 from Nat.le_refl _)
  clear h hz hl
  go_enter Tryz.func212, Tryz.ntmps212
  obtain ⟨kf1, cp1, cf1, hen1, H1⟩ := (hz0.out.stay t0.out k0.out).readD t0.out hrd (by have := hl0.out; have := se0.out; omega)
  replace H1 := Lib.hid H1
  go_wp2_with fail
  with_reducible refine H1.out.mono ?_
  rintro e w1 ⟨s1, t1, k1, l1, (⟨v1, r1, q1, rfl⟩ | ⟨g1, rfl⟩)⟩
  rotate_left
  · skip
    have hf := Lib.hid (F.out lackE _ ⟨s1, t1, k0.out.trans k1, (by have := se0.out; omega), .inr ⟨Gave.bind g1, rfl⟩⟩)
    clear F
    unfold lackE at hf ⊢
    go_wp2_with fail
    first | exact hf.out | exact ⟨rfl, hf.out⟩
  replace k1 := Lib.hid (k0.out.trans k1)
  have se1 := Lib.hid (show s1.l.length ≤ s.l.length + 3 from (by have := se0.out; omega))
  replace t1 := Lib.hid t1
  replace r1 := Lib.hid r1
  clear H1 l1
  clear cf1 hen1
  unfold byteV
  have hv1 := Lib.hid q1
  obtain ⟨x1, hx1, x1b, x1w⟩ : ∃ x : Nat, (v1 + 255) % 256 = x ∧ x < 256 ∧ ((v1 : Int) - 1) % 256 = (x : Int) := ⟨_, rfl, Nat.mod_lt _ (by decide), (by omega)⟩
  replace hx1 := Lib.hid hx1
  obtain ⟨b, hb⟩ : ∃ x : Bool, (!decide (x1 = 0)) = x := ⟨_, rfl⟩
  replace hb := Lib.hid hb
  have hbe : ((x1 : Int) != 0) = b := by
    rw [← hb.out]
    by_cases e : x1 = 0
    · simp [e]
    · simp [e]
  obtain ⟨kf2, cp2, cf2, hen2, H2⟩ := (hz0.out.stay t0.out k1.out).writeD t1.out hw (x1) x1b (by have := hl0.out; have := se1.out; omega)
  replace H2 := Lib.hid H2
  go_wp2_with fail
  with_reducible refine H2.out.mono ?_
  rintro e w2 ⟨s2, t2, k2, l2, (⟨_u2, r2, q2, rfl⟩ | ⟨g2, rfl⟩)⟩
  rotate_left
  · skip
    have e_x1 := hx1.out
    (try subst e_x1)
    have e_b := hb.out
    (try subst e_b)
    have hf := Lib.hid (F.out lackE _ ⟨s2, t2, k1.out.trans k2, (by have := se1.out; omega), .inr ⟨Gave.then r1.out (Gave.bind g2), rfl⟩⟩)
    clear F
    unfold lackE at hf ⊢
    go_wp2_with fail
    first | exact hf.out | exact ⟨rfl, hf.out⟩
  replace k2 := Lib.hid (k1.out.trans k2)
  have se2 := Lib.hid (show s2.l.length ≤ s.l.length + 6 from (by have := se1.out; omega))
  replace t2 := Lib.hid t2
  replace r2 := Lib.hid r2
  clear H2 l2
  clear cf2 hen2
  unfold unitV
  have H3 := branchIf_any (b) t2.out (hz0.out.stay t0.out k2.out) (by have := hl0.out; have := se2.out; omega)
  replace H3 := Lib.hid H3
  go_wp2_with fail
  with_reducible refine H3.out.mono ?_
  rintro e w3 ⟨rfl, t3, k3⟩
  have r3 := Ran.branch (b) no s2
  have se3 : ((brS (b) no s2)).l.length ≤ s.l.length + 8 := by have := se2.out; unfold brS; split <;> simp <;> omega
  generalize hs3 : (brS (b) no s2) = s3 at r3 t3 se3
  replace hs3 := Lib.hid hs3
  replace k3 := Lib.hid (k2.out.trans k3)
  replace t3 := Lib.hid t3
  replace r3 := Lib.hid r3
  replace se3 := Lib.hid se3
  clear H3
  have e_x1 := hx1.out
  try subst e_x1
  have e_b := hb.out
  try subst e_b
  have hf := Lib.hid (F.out (.returned (unitV ())) _ (Post.done (r1.out.bind (r2.out.bind (r3.out))) t3.out k3.out trivial (by have := se3.out; omega)))
  unfold unitV at hf
  clear F
  go_wp2_with fail
  first | exact hf.out | (go_end0; exact hf.out) | (go_ret; exact hf.out)
theorem pushPcS_len2 (s : Ts) : (pushPcS s).l.length = s.l.length + 2 := by unfold pushPcS; simp
theorem jumpA_any (h : Tk K z s w) (hz : Zd K z w c nm fm cd nd co no) (hco : co < 256) (hne : co ≠ 42) (hl : s.l.length ≤ 80) :
    Calls Tryz.prog 213 #[.pointer (some ⟨K.b, 0, none⟩)] w (Post K z s w (M.set fun r => { r with Pc := no }) unitV (fun _ => True) 12) := by
  obtain ⟨Q, hQ, F⟩ := post_name (Post K z s w (M.set fun r => { r with Pc := no }) unitV (fun _ => True) 12)
  rw [hQ]
  clear hQ
  replace F := Lib.hid F
  have n42 : ((co : Int) == 42) = false := by rw [beq_eq_false_iff_ne]; omega
  have t0 := Lib.hid h
  have k0 := Lib.hid (Kp.refl K w)
  have hz0 := Lib.hid hz
  have hl0 := Lib.hid hl
  have se0 := Lib.hid (show s.l.length ≤ s.l.length + 0 from Nat.le_refl _)
  clear h hz hl
  go_enter Tryz.func213, Tryz.ntmps213
  have c5 := t0.out.look.2.1.1
  have f5 := t0.out.look.2.2 5
  have d18 := t0.out.lookO.1.trans (by rw [hz0.out.o0])
  have d19 := t0.out.lookO.2.1.trans (by rw [hz0.out.o1])
  have d20 := t0.out.lookO.2.2.1
  have d21 := t0.out.lookO.2.2.2
  have hno := Lib.hid hz0.out.no
  have t1 := t0.out.toPc no hno.out
  have r1 := Ran.set (fun r => { r with Pc := no }) s
  have se1 := (show ({ s with r := { s.r with Pc := no } } : Ts).l.length ≤ s.l.length + 0 from se0.out)
  generalize hs1 : ({ s with r := { s.r with Pc := no } } : Ts) = s1 at r1 t1 se1
  have k1 := Lib.hid (k0.out.set 5 (.int .u16 (no : Nat)))
  replace hs1 := Lib.hid hs1
  replace t1 := Lib.hid t1
  replace r1 := Lib.hid r1
  replace se1 := Lib.hid se1
  have hf := Lib.hid (F.out (.returned (unitV ())) _ (Post.done (r1.out) t1.out k1.out trivial (by have := se1.out; omega)))
  unfold unitV at hf
  clear F
  go_wp2_with fail
  first | exact hf.out | (go_end0; exact hf.out) | (go_ret; exact hf.out)
theorem callByTable_any (h : Tk K z s w) (hz : Zd K z w c nm fm cd nd co no) (hl : s.l.length ≤ 80) :
    Calls Tryz.prog 215 #[.pointer (some ⟨K.b, 0, none⟩)] w (Post K z s w (M.bind pushPcM fun _ => M.bind (wordAtM (65502 - 2 * (c / 16))) fun v => M.set fun r => { r with Pc := v }) unitV (fun _ => True) 12) := by
  obtain ⟨Q, hQ, F⟩ := post_name (Post K z s w (M.bind pushPcM fun _ => M.bind (wordAtM (65502 - 2 * (c / 16))) fun v => M.set fun r => { r with Pc := v }) unitV (fun _ => True) 12)
  rw [hQ]
  clear hQ
  replace F := Lib.hid F
  have t0 := Lib.hid h
  have k0 := Lib.hid (Kp.refl K w)
  have hz0 := Lib.hid hz
  have hl0 := Lib.hid hl
  have se0 := Lib.hid (show s.l.length ≤ s.l.length + 0 from Nat.le_refl _)
  clear h hz hl
  go_enter Tryz.func215, Tryz.ntmps215
  have H1 := pushPc_any t0.out (by have := hl0.out; have := se0.out; omega)
  replace H1 := Lib.hid H1
  go_wp2_with fail
  with_reducible refine H1.out.mono ?_
  rintro e w1 ⟨rfl, t1, k1⟩
  have r1 := Ran.pushPc s t0.out.ok
  have se1 : (pushPcS s).l.length ≤ s.l.length + 2 := by have := se0.out; rw [pushPcS_len2]; omega
  generalize hs1 : pushPcS s = s1 at r1 t1 se1
  replace hs1 := Lib.hid hs1
  replace k1 := Lib.hid (k0.out.trans k1)
  replace t1 := Lib.hid t1
  replace r1 := Lib.hid r1
  replace se1 := Lib.hid se1
  clear H1
  have c9 := t1.out.lookN.1.trans (by rw [hz0.out.n0])
  obtain ⟨x1, hx1, x1b⟩ : ∃ x : Nat, 65502 - 2 * (c / 16) = x ∧ x < 65536 := ⟨_, rfl, (by omega)⟩
  replace hx1 := Lib.hid hx1
  have hcc := Lib.hid hz0.out.c
  have w1 : IntKind.u16.wrap (65502 - IntKind.u16.wrap (2 * ((c : Int) / 16))) = (x1 : Int) := by have := hx1.out; have := hcc.out; simp only [IntKind.wrap_u16]; omega
  have w2 : (65502 : Int) - 2 * ((c : Int) / 16) = (x1 : Int) := by have := hx1.out; have := hcc.out; omega
  have hcb : c < 256 := hcc.out
  have H2 := wordAt_any x1 t1.out x1b (by have := hl0.out; have := se1.out; omega)
  replace H2 := Lib.hid H2
  go_wp2_with fail
  with_reducible refine H2.out.mono ?_
  rintro e w2 ⟨s2, t2, k2, l2, (⟨vw, r2, q2, rfl⟩ | ⟨g2, rfl⟩)⟩
  rotate_left
  · skip
    have e_x1 := hx1.out
    (try subst e_x1)
    have hf := Lib.hid (F.out lackE _ ⟨s2, t2, k1.out.trans k2, (by have := se1.out; omega), .inr ⟨Gave.then r1.out (Gave.bind g2), rfl⟩⟩)
    clear F
    unfold lackE at hf ⊢
    go_wp2_with fail
    first | exact hf.out | exact ⟨rfl, hf.out⟩
  replace k2 := Lib.hid (k1.out.trans k2)
  have se2 := Lib.hid (show s2.l.length ≤ s.l.length + 4 from (by have := se1.out; omega))
  replace t2 := Lib.hid t2
  replace r2 := Lib.hid r2
  clear H2 l2
  unfold wordV
  have hvw := Lib.hid q2
  have c5 := t2.out.look.2.1.1
  have f5 := t2.out.look.2.2 5
  have t3 := t2.out.toPc vw hvw.out
  have r3 := Ran.set (fun r => { r with Pc := vw }) s2
  have se3 := (show ({ s2 with r := { s2.r with Pc := vw } } : Ts).l.length ≤ s.l.length + 4 from se2.out)
  generalize hs3 : ({ s2 with r := { s2.r with Pc := vw } } : Ts) = s3 at r3 t3 se3
  have k3 := Lib.hid (k2.out.set 5 (.int .u16 (vw : Nat)))
  replace hs3 := Lib.hid hs3
  replace t3 := Lib.hid t3
  replace r3 := Lib.hid r3
  replace se3 := Lib.hid se3
  have e_x1 := hx1.out
  try subst e_x1
  have hf := Lib.hid (F.out (.returned (unitV ())) _ (Post.done (r1.out.bind (r2.out.bind (r3.out))) t3.out k3.out trivial (by have := se3.out; omega)))
  unfold unitV at hf
  clear F
  go_wp2_with fail
  first | exact hf.out | (go_end0; exact hf.out) | (go_ret; exact hf.out)
theorem trap_any (h : Tk K z s w) (hz : Zd K z w c nm fm cd nd co no) (hl : s.l.length ≤ 80) :
    Calls Tryz.prog 216 #[.pointer (some ⟨K.b, 0, none⟩)] w (Post K z s w (M.bind pushPcM fun _ => M.bind (M.get fun r => pushM r.P) fun _ => M.bind (M.set (putR 16 true)) fun _ => M.bind (M.set (putR 4 false)) fun _ => M.bind (wordAtM 65502) fun v => M.set fun r => { r with Pc := v }) unitV (fun _ => True) 12) := by
  obtain ⟨Q, hQ, F⟩ := post_name (Post K z s w (M.bind pushPcM fun _ => M.bind (M.get fun r => pushM r.P) fun _ => M.bind (M.set (putR 16 true)) fun _ => M.bind (M.set (putR 4 false)) fun _ => M.bind (wordAtM 65502) fun v => M.set fun r => { r with Pc := v }) unitV (fun _ => True) 12)
  rw [hQ]
  clear hQ
  replace F := Lib.hid F
  have t0 := Lib.hid h
  have k0 := Lib.hid (Kp.refl K w)
  have hz0 := Lib.hid hz
  have hl0 := Lib.hid hl
  have se0 := Lib.hid (show s.l.length ≤ s.l.length + 0 from Nat.le_refl _)
  clear h hz hl
  go_enter Tryz.func216, Tryz.ntmps216
  have H1 := pushPc_any t0.out (by have := hl0.out; have := se0.out; omega)
  replace H1 := Lib.hid H1
  go_wp2_with fail
  with_reducible refine H1.out.mono ?_
  rintro e w1 ⟨rfl, t1, k1⟩
  have r1 := Ran.pushPc s t0.out.ok
  have se1 : (pushPcS s).l.length ≤ s.l.length + 2 := by have := se0.out; rw [pushPcS_len2]; omega
  generalize hs1 : pushPcS s = s1 at r1 t1 se1
  replace hs1 := Lib.hid hs1
  replace k1 := Lib.hid (k0.out.trans k1)
  replace t1 := Lib.hid t1
  replace r1 := Lib.hid r1
  replace se1 := Lib.hid se1
  clear H1
  have c4 := t1.out.look.1.2.2.2.2
  have hP := Lib.hid t1.out.ok.P
  have H2 := push_any s1.r.P t1.out hP.out (by have := hl0.out; have := se1.out; omega)
  replace H2 := Lib.hid H2
  go_wp2_with fail
  with_reducible refine H2.out.mono ?_
  rintro e w2 ⟨rfl, t2, k2⟩
  have r2 := Ran.get (k := fun r => pushM r.P) (Ran.push s1.r.P s1 t1.out.ok.S hP.out)
  have se2 : (({ s1 with l := s1.l ++ [(2, 256 + s1.r.S, s1.r.P)], r := { s1.r with S := (s1.r.S + 255) % 256 } } : Ts)).l.length ≤ s.l.length + 3 := by have := se1.out; simp; omega
  generalize hs2 : ({ s1 with l := s1.l ++ [(2, 256 + s1.r.S, s1.r.P)], r := { s1.r with S := (s1.r.S + 255) % 256 } } : Ts) = s2 at r2 t2 se2
  replace hs2 := Lib.hid hs2
  replace k2 := Lib.hid (k1.out.trans k2)
  replace t2 := Lib.hid t2
  replace r2 := Lib.hid r2
  replace se2 := Lib.hid se2
  clear H2
  have H3 := put_any 16 16 rfl true t2.out (by decide)
  replace H3 := Lib.hid H3
  go_wp2_with fail
  with_reducible refine H3.out.mono ?_
  rintro e w3 ⟨rfl, t3, k3⟩
  have r3 := Ran.set (putR 16 true) s2
  have se3 := (show ({ s2 with r := (putR 16 true) s2.r } : Ts).l.length ≤ s.l.length + 3 from se2.out)
  generalize hs3 : ({ s2 with r := (putR 16 true) s2.r } : Ts) = s3 at r3 t3 se3
  replace hs3 := Lib.hid hs3
  replace k3 := Lib.hid (k2.out.trans k3)
  replace t3 := Lib.hid t3
  replace r3 := Lib.hid r3
  replace se3 := Lib.hid se3
  clear H3
  have H4 := put_any 4 4 rfl false t3.out (by decide)
  replace H4 := Lib.hid H4
  go_wp2_with fail
  with_reducible refine H4.out.mono ?_
  rintro e w4 ⟨rfl, t4, k4⟩
  have r4 := Ran.set (putR 4 false) s3
  have se4 := (show ({ s3 with r := (putR 4 false) s3.r } : Ts).l.length ≤ s.l.length + 3 from se3.out)
  generalize hs4 : ({ s3 with r := (putR 4 false) s3.r } : Ts) = s4 at r4 t4 se4
  replace hs4 := Lib.hid hs4
  replace k4 := Lib.hid (k3.out.trans k4)
  replace t4 := Lib.hid t4
  replace r4 := Lib.hid r4
  replace se4 := Lib.hid se4
  clear H4
  have h9 := wordAt_any 65502 t4.out (by decide) (by have := hl0.out; have := se4.out; omega)
  rw [show ((65502 : Nat) : Int) = 65502 from rfl] at h9
  have H5 := h9
  replace H5 := Lib.hid H5
  go_wp2_with fail
  with_reducible refine H5.out.mono ?_
  rintro e w5 ⟨s5, t5, k5, l5, (⟨vw, r5, q5, rfl⟩ | ⟨g5, rfl⟩)⟩
  rotate_left
  · skip
    have hf := Lib.hid (F.out lackE _ ⟨s5, t5, k4.out.trans k5, (by have := se4.out; omega), .inr ⟨Gave.then r1.out (Gave.then r2.out (Gave.then r3.out (Gave.then r4.out (Gave.bind g5)))), rfl⟩⟩)
    clear F
    unfold lackE at hf ⊢
    go_wp2_with fail
    first | exact hf.out | exact ⟨rfl, hf.out⟩
  replace k5 := Lib.hid (k4.out.trans k5)
  have se5 := Lib.hid (show s5.l.length ≤ s.l.length + 5 from (by have := se4.out; omega))
  replace t5 := Lib.hid t5
  replace r5 := Lib.hid r5
  clear H5 l5
  unfold wordV
  clear h9
  have hvw := Lib.hid q5
  have c5 := t5.out.look.2.1.1
  have f5 := t5.out.look.2.2 5
  have t6 := t5.out.toPc vw hvw.out
  have r6 := Ran.set (fun r => { r with Pc := vw }) s5
  have se6 := (show ({ s5 with r := { s5.r with Pc := vw } } : Ts).l.length ≤ s.l.length + 5 from se5.out)
  generalize hs6 : ({ s5 with r := { s5.r with Pc := vw } } : Ts) = s6 at r6 t6 se6
  have k6 := Lib.hid (k5.out.set 5 (.int .u16 (vw : Nat)))
  replace hs6 := Lib.hid hs6
  replace t6 := Lib.hid t6
  replace r6 := Lib.hid r6
  replace se6 := Lib.hid se6
  have hf := Lib.hid (F.out (.returned (unitV ())) _ (Post.done (r1.out.bind (r2.out.bind (r3.out.bind (r4.out.bind (r5.out.bind (r6.out)))))) t6.out k6.out trivial (by have := se6.out; omega)))
  unfold unitV at hf
  clear F
  go_wp2_with fail
  first | exact hf.out | (go_end0; exact hf.out) | (go_ret; exact hf.out)
end
end Go.Proofs.YtknlbmjncginnaaGreatDoor
namespace Go.Proofs.YtknlbmjncginnaaGreatDoor
open Go.RowKit Go.Shelf
set_option maxRecDepth 100000
set_option maxHeartbeats 1000000
set_option linter.unusedVariables false

section
variable {K : Cx} {z : Zs} {s : Ts} {w w' : World} {c cd nd co no : Nat} {nm fm : ByteArray}
def exchangeM : M Unit := M.bind (M.ask fun r => r.A * 16 % 256 ||| r.A / 16) fun v => M.bind (M.set fun r => { r with A := v }) fun _ => M.set (tellR v)
theorem exchange_any (h : Tk K z s w) (hl : s.l.length ≤ 80) :
    Calls Tryz.prog 145 #[.pointer (some ⟨K.b, 0, none⟩)] w (Post K z s w (exchangeM) unitV (fun _ => True) 12) := by
  obtain ⟨Q, hQ, F⟩ := post_name (Post K z s w (exchangeM) unitV (fun _ => True) 12)
  rw [hQ]
  clear hQ
  replace F := Lib.hid F
  have t0 := Lib.hid h
  have k0 := Lib.hid (Kp.refl K w)
  have hl0 := Lib.hid hl
  have se0 := Lib.hid (show s.l.length ≤ s.l.length + 0 from Nat.le_refl _)
  clear h hl
  go_enter Tryz.func145, Tryz.ntmps145
  have hA := Lib.hid t0.out.ok.A
  have c0 := t0.out.look.1.1
  obtain ⟨x1, hx1, x1b, x1w⟩ : ∃ x : Nat, s.r.A * 16 % 256 = x ∧ x < 256 ∧ IntKind.u8.wrap ((s.r.A : Int) * 16) = (x : Int) := ⟨_, rfl, Nat.mod_lt _ (by decide), (by simp only [IntKind.wrap_u8]; omega)⟩
  replace hx1 := Lib.hid hx1
  have x1v : (s.r.A : Int) * 16 % 256 = (x1 : Int) := by have := hx1.out; omega
  obtain ⟨x2, hx2, x2b, x2w⟩ : ∃ x : Nat, s.r.A / 16 = x ∧ x < 256 ∧ (s.r.A : Int) / 16 = (x : Int) := ⟨_, rfl, (by have := hA.out; omega), (by omega)⟩
  replace hx2 := Lib.hid hx2
  obtain ⟨x3, hx3, x3b, x3w⟩ : ∃ x : Nat, x1 ||| x2 = x ∧ x < 256 ∧ bits .or .u8 (x1 : Int) (x2 : Int) = (x : Int) := ⟨_, rfl, or_lt256 _ _ x1b x2b, u8_or_nat x1 x2 x1b x2b⟩
  replace hx3 := Lib.hid hx3
  have a3 := Lib.hid (show Ran (M.ask fun r : Rp => r.A * 16 % 256 ||| r.A / 16) s x3 s from by rw [← hx3.out, ← hx1.out, ← hx2.out]; exact Ran.ask (fun r : Rp => r.A * 16 % 256 ||| r.A / 16) s)
  go_upto_region 0 with (fail)
  have t1 := Lib.hid t0.out.drew
  have k1 := Lib.hid k0.out.drew
  go_still_tail 17, (by kernel_rfl)
  show wpList _ _ _ _ _ w.drew
  generalize w.drew = wd1 at *
  clear c0 hA
  have c0 := t1.out.look.1.1
  have f0 := t1.out.look.2.2 0
  have t2 := t1.out.toA x3 x3b
  have r2 := Ran.set (fun r => { r with A := x3 }) s
  have se2 := (show ({ s with r := { s.r with A := x3 } } : Ts).l.length ≤ s.l.length + 0 from se0.out)
  generalize hs2 : ({ s with r := { s.r with A := x3 } } : Ts) = s2 at r2 t2 se2
  have k2 := Lib.hid (k1.out.set 0 (.int .u8 (x3 : Nat)))
  replace hs2 := Lib.hid hs2
  replace t2 := Lib.hid t2
  replace r2 := Lib.hid r2
  replace se2 := Lib.hid se2
  have H3 := tell_any x3 t2.out x3b
  replace H3 := Lib.hid H3
  go_wp2_with fail
  with_reducible refine H3.out.mono ?_
  rintro e w3 ⟨rfl, t3, k3⟩
  have r3 := Ran.set (tellR x3) s2
  have se3 := (show ({ s2 with r := (tellR x3) s2.r } : Ts).l.length ≤ s.l.length + 0 from se2.out)
  generalize hs3 : ({ s2 with r := (tellR x3) s2.r } : Ts) = s3 at r3 t3 se3
  replace hs3 := Lib.hid hs3
  replace k3 := Lib.hid (k2.out.trans k3)
  replace t3 := Lib.hid t3
  replace r3 := Lib.hid r3
  replace se3 := Lib.hid se3
  clear H3
  have e_x1 := hx1.out
  try subst e_x1
  have e_x2 := hx2.out
  try subst e_x2
  have e_x3 := hx3.out
  try subst e_x3
  have hf := Lib.hid (F.out (.returned (unitV ())) _ (Post.done (a3.out.bind (r2.out.bind (r3.out))) t3.out k3.out trivial (by have := se3.out; omega)))
  unfold unitV at hf
  clear F
  go_wp2_with fail
  first | exact hf.out | (go_end0; exact hf.out) | (go_ret; exact hf.out)
def multiplyM : M Unit := M.bind (M.ask fun r => r.Y * r.A) fun v => M.bind (M.set (layR v)) fun _ => M.bind (M.ask fun r => r.Y) fun y => M.set (tellR y)
theorem multiply_any (h : Tk K z s w) (hl : s.l.length ≤ 80) :
    Calls Tryz.prog 154 #[.pointer (some ⟨K.b, 0, none⟩)] w (Post K z s w (multiplyM) unitV (fun _ => True) 12) := by
  obtain ⟨Q, hQ, F⟩ := post_name (Post K z s w (multiplyM) unitV (fun _ => True) 12)
  rw [hQ]
  clear hQ
  replace F := Lib.hid F
  have t0 := Lib.hid h
  have k0 := Lib.hid (Kp.refl K w)
  have hl0 := Lib.hid hl
  have se0 := Lib.hid (show s.l.length ≤ s.l.length + 0 from Nat.le_refl _)
  clear h hl
  go_enter Tryz.func154, Tryz.ntmps154
  have hA := Lib.hid t0.out.ok.A
  have hY := Lib.hid t0.out.ok.Y
  have c0 := t0.out.look.1.1
  have c2 := t0.out.look.1.2.2.1
  obtain ⟨x1, hx1, x1b⟩ : ∃ x : Nat, s.r.Y * s.r.A = x ∧ x < 65536 := ⟨_, rfl, (by have h1 := hA.out; have h2 := hY.out; have h3 := Nat.mul_le_mul (show s.r.Y ≤ 255 by omega) (show s.r.A ≤ 255 by omega); omega)⟩
  replace hx1 := Lib.hid hx1
  have e1 : IntKind.u16.wrap ((s.r.Y : Int) * (s.r.A : Int)) = (x1 : Int) := by have := hx1.out; rw [← Int.natCast_mul, this]; simp only [IntKind.wrap_u16]; omega
  have e2 : IntKind.u16.wrap (s.r.Y : Int) = (s.r.Y : Int) := by have := hY.out; simp only [IntKind.wrap_u16]; omega
  have e3 : IntKind.u16.wrap (s.r.A : Int) = (s.r.A : Int) := by have := hA.out; simp only [IntKind.wrap_u16]; omega
  have a1 := Lib.hid (show Ran (M.ask (fun r : Rp => r.Y * r.A)) s x1 s from by have ha := Ran.ask (fun r : Rp => r.Y * r.A) s; (try dsimp only at ha); rw [hx1.out] at ha; exact ha)
  go_upto_region 0 with (fail)
  have t1 := Lib.hid t0.out.drew
  have k1 := Lib.hid k0.out.drew
  go_still_tail 14, (by kernel_rfl)
  show wpList _ _ _ _ _ w.drew
  generalize w.drew = wd1 at *
  clear c0 c2 hA hY
  have H2 := layYA_any x1 t1.out x1b
  replace H2 := Lib.hid H2
  go_wp2_with fail
  with_reducible refine H2.out.mono ?_
  rintro e w2 ⟨rfl, t2, k2⟩
  have r2 := Ran.set (layR x1) s
  have se2 := (show ({ s with r := (layR x1) s.r } : Ts).l.length ≤ s.l.length + 0 from se0.out)
  generalize hs2 : ({ s with r := (layR x1) s.r } : Ts) = s2 at r2 t2 se2
  replace hs2 := Lib.hid hs2
  replace k2 := Lib.hid (k1.out.trans k2)
  replace t2 := Lib.hid t2
  replace r2 := Lib.hid r2
  replace se2 := Lib.hid se2
  clear H2
  obtain ⟨y1, hy1, y1b⟩ : ∃ x : Nat, s2.r.Y = x ∧ x < 256 := ⟨_, rfl, t2.out.ok.Y⟩
  replace hy1 := Lib.hid hy1
  have ay := Lib.hid (show Ran (M.ask (fun r : Rp => r.Y)) s2 y1 s2 from by have ha := Ran.ask (fun r : Rp => r.Y) s2; (try dsimp only at ha); rw [hy1.out] at ha; exact ha)
  have c2 := t2.out.look.1.2.2.1
  rw [hy1.out] at c2
  have H3 := tell_any y1 t2.out y1b
  replace H3 := Lib.hid H3
  go_wp2_with fail
  with_reducible refine H3.out.mono ?_
  rintro e w3 ⟨rfl, t3, k3⟩
  have r3 := Ran.set (tellR y1) s2
  have se3 := (show ({ s2 with r := (tellR y1) s2.r } : Ts).l.length ≤ s.l.length + 0 from se2.out)
  generalize hs3 : ({ s2 with r := (tellR y1) s2.r } : Ts) = s3 at r3 t3 se3
  replace hs3 := Lib.hid hs3
  replace k3 := Lib.hid (k2.out.trans k3)
  replace t3 := Lib.hid t3
  replace r3 := Lib.hid r3
  replace se3 := Lib.hid se3
  clear H3
  have e_x1 := hx1.out
  try subst e_x1
  have e_y1 := hy1.out
  try subst e_y1
  have hf := Lib.hid (F.out (.returned (unitV ())) _ (Post.done (a1.out.bind (r2.out.bind (ay.out.bind (r3.out)))) t3.out k3.out trivial (by have := se3.out; omega)))
  unfold unitV at hf
  clear F
  go_wp2_with fail
  first | exact hf.out | (go_end0; exact hf.out) | (go_ret; exact hf.out)
def wordUp (k v : Nat) : Nat := match k with | 0 => (v + 1) % 65536 | _ => (v + 65535) % 65536
theorem wordUp_lt (k v : Nat) : wordUp k v < 65536 := by
  unfold wordUp
  split <;> omega
theorem wordUp_m0 (v : Nat) : ((v : Int) + 1) % 65536 = ((wordUp 0 v : Nat) : Int) := by
  show _ = (((v + 1) % 65536 : Nat) : Int)
  omega
theorem wordUp_m1 (v : Nat) : ((v : Int) - 1) % 65536 = ((wordUp 1 v : Nat) : Int) := by
  show _ = (((v + 65535) % 65536 : Nat) : Int)
  omega
theorem wordUp_w0 (v : Nat) : IntKind.u16.wrap ((v : Int) + 1) = ((wordUp 0 v : Nat) : Int) := by
  rw [IntKind.wrap_u16]
  exact wordUp_m0 v
theorem wordUp_w1 (v : Nat) : IntKind.u16.wrap ((v : Int) - 1) = ((wordUp 1 v : Nat) : Int) := by
  rw [IntKind.wrap_u16]
  exact wordUp_m1 v
def changeWordM (k nd : Nat) : M Unit := M.bind (wordInPageM (nd % 256)) fun v => M.bind (writeWordM nd (wordUp k v)) fun _ => M.set (tellWR (wordUp k v))
theorem changeWord0_any (h : Tk K z s w) (hz : Zd K z w c nm fm cd nd co no) (hn : z.n1 = .string ⟨#[73, 78, 67, 87]⟩) (hl : s.l.length ≤ 80) :
    Calls Tryz.prog 153 #[.pointer (some ⟨K.b, 0, none⟩)] w (Post K z s w (changeWordM 0 nd) unitV (fun _ => True) 12) := by
  obtain ⟨Q, hQ, F⟩ := post_name (Post K z s w (changeWordM 0 nd) unitV (fun _ => True) 12)
  rw [hQ]
  clear hQ
  replace F := Lib.hid F
  have t0 := Lib.hid h
  have k0 := Lib.hid (Kp.refl K w)
  have hz0 := Lib.hid hz
  have hl0 := Lib.hid hl
  have se0 := Lib.hid (show s.l.length ≤ s.l.length + 0 from Nat.le_refl _)
  clear h hz hl
  go_enter Tryz.func153, Tryz.ntmps153
  have d14 := t0.out.lookD.1.trans (by rw [hz0.out.d0])
  have d15 := t0.out.lookD.2.1.trans (by rw [hz0.out.d1])
  have d16 := t0.out.lookD.2.2.1
  have d17 := t0.out.lookD.2.2.2
  have H1 := wordOf_any cd nd z.d2 z.d3 t0.out hz0.out.nd (by have := hl0.out; have := se0.out; omega)
  replace H1 := Lib.hid H1
  go_wp2_with fail
  with_reducible refine H1.out.mono ?_
  rintro e w1 ⟨s1, t1, k1, l1, (⟨vw, r1, q1, rfl⟩ | ⟨g1, rfl⟩)⟩
  rotate_left
  · skip
    have hf := Lib.hid (F.out lackE _ ⟨s1, t1, k0.out.trans k1, (by have := se0.out; omega), .inr ⟨Gave.bind g1, rfl⟩⟩)
    clear F
    unfold lackE at hf ⊢
    go_wp2_with fail
    first | exact hf.out | exact ⟨rfl, hf.out⟩
  replace k1 := Lib.hid (k0.out.trans k1)
  have se1 := Lib.hid (show s1.l.length ≤ s.l.length + 2 from (by have := se0.out; omega))
  replace t1 := Lib.hid t1
  replace r1 := Lib.hid r1
  clear H1 l1
  unfold wordV
  clear d14 d15 d16 d17
  have hvw := Lib.hid (show vw < 65536 from q1)
  have c10 := t1.out.lookN.2.1
  rw [hn] at c10
  obtain ⟨x1, hx1, x1b, x1w⟩ : ∃ x : Nat, wordUp 0 vw = x ∧ x < 65536 ∧ IntKind.u16.wrap ((vw : Int) + 1) = (x : Int) := ⟨_, rfl, wordUp_lt _ _, wordUp_w0 vw⟩
  replace hx1 := Lib.hid hx1
  have x1z : ((vw : Int) + 1) % 65536 = (x1 : Int) := (wordUp_m0 vw).trans (by rw [hx1.out])
  have d14 := t1.out.lookD.1.trans (by rw [hz0.out.d0])
  have d15 := t1.out.lookD.2.1.trans (by rw [hz0.out.d1])
  have d16 := t1.out.lookD.2.2.1
  have d17 := t1.out.lookD.2.2.2
  have H2 := writeWord_any cd nd x1 z.d2 z.d3 t1.out hz0.out.nd x1b (by have := hl0.out; have := se1.out; omega)
  replace H2 := Lib.hid H2
  go_wp2_with fail
  with_reducible refine H2.out.mono ?_
  rintro e w2 ⟨rfl, t2, k2⟩
  have r2 := Ran.writeWord s1 nd x1 x1b
  have se2 : ((wrS s1 nd x1)).l.length ≤ s.l.length + 4 := by have := se1.out; unfold wrS; simp; omega
  generalize hs2 : (wrS s1 nd x1) = s2 at r2 t2 se2
  replace hs2 := Lib.hid hs2
  replace k2 := Lib.hid (k1.out.trans k2)
  replace t2 := Lib.hid t2
  replace r2 := Lib.hid r2
  replace se2 := Lib.hid se2
  clear H2
  clear d14 d15 d16 d17
  have H3 := tellWord_any x1 t2.out x1b
  replace H3 := Lib.hid H3
  go_wp2_with fail
  with_reducible refine H3.out.mono ?_
  rintro e w3 ⟨rfl, t3, k3⟩
  have r3 := Ran.set (tellWR x1) s2
  have se3 := (show ({ s2 with r := (tellWR x1) s2.r } : Ts).l.length ≤ s.l.length + 4 from se2.out)
  generalize hs3 : ({ s2 with r := (tellWR x1) s2.r } : Ts) = s3 at r3 t3 se3
  replace hs3 := Lib.hid hs3
  replace k3 := Lib.hid (k2.out.trans k3)
  replace t3 := Lib.hid t3
  replace r3 := Lib.hid r3
  replace se3 := Lib.hid se3
  clear H3
  have e_x1 := hx1.out
  try subst e_x1
  have hf := Lib.hid (F.out (.returned (unitV ())) _ (Post.done (r1.out.bind (r2.out.bind (r3.out))) t3.out k3.out trivial (by have := se3.out; omega)))
  unfold unitV at hf
  clear F
  go_wp2_with fail
  first | exact hf.out | (go_end0; exact hf.out) | (go_ret; exact hf.out)
theorem changeWord1_any (h : Tk K z s w) (hz : Zd K z w c nm fm cd nd co no) (hn : z.n1 = .string ⟨#[68, 69, 67, 87]⟩) (hl : s.l.length ≤ 80) :
    Calls Tryz.prog 153 #[.pointer (some ⟨K.b, 0, none⟩)] w (Post K z s w (changeWordM 1 nd) unitV (fun _ => True) 12) := by
  obtain ⟨Q, hQ, F⟩ := post_name (Post K z s w (changeWordM 1 nd) unitV (fun _ => True) 12)
  rw [hQ]
  clear hQ
  replace F := Lib.hid F
  have t0 := Lib.hid h
  have k0 := Lib.hid (Kp.refl K w)
  have hz0 := Lib.hid hz
  have hl0 := Lib.hid hl
  have se0 := Lib.hid (show s.l.length ≤ s.l.length + 0 from Nat.le_refl _)
  clear h hz hl
  go_enter Tryz.func153, Tryz.ntmps153
  have d14 := t0.out.lookD.1.trans (by rw [hz0.out.d0])
  have d15 := t0.out.lookD.2.1.trans (by rw [hz0.out.d1])
  have d16 := t0.out.lookD.2.2.1
  have d17 := t0.out.lookD.2.2.2
  have H1 := wordOf_any cd nd z.d2 z.d3 t0.out hz0.out.nd (by have := hl0.out; have := se0.out; omega)
  replace H1 := Lib.hid H1
  go_wp2_with fail
  with_reducible refine H1.out.mono ?_
  rintro e w1 ⟨s1, t1, k1, l1, (⟨vw, r1, q1, rfl⟩ | ⟨g1, rfl⟩)⟩
  rotate_left
  · skip
    have hf := Lib.hid (F.out lackE _ ⟨s1, t1, k0.out.trans k1, (by have := se0.out; omega), .inr ⟨Gave.bind g1, rfl⟩⟩)
    clear F
    unfold lackE at hf ⊢
    go_wp2_with fail
    first | exact hf.out | exact ⟨rfl, hf.out⟩
  replace k1 := Lib.hid (k0.out.trans k1)
  have se1 := Lib.hid (show s1.l.length ≤ s.l.length + 2 from (by have := se0.out; omega))
  replace t1 := Lib.hid t1
  replace r1 := Lib.hid r1
  clear H1 l1
  unfold wordV
  clear d14 d15 d16 d17
  have hvw := Lib.hid (show vw < 65536 from q1)
  have c10 := t1.out.lookN.2.1
  rw [hn] at c10
  obtain ⟨x1, hx1, x1b, x1w⟩ : ∃ x : Nat, wordUp 1 vw = x ∧ x < 65536 ∧ IntKind.u16.wrap ((vw : Int) - 1) = (x : Int) := ⟨_, rfl, wordUp_lt _ _, wordUp_w1 vw⟩
  replace hx1 := Lib.hid hx1
  have x1z : ((vw : Int) - 1) % 65536 = (x1 : Int) := (wordUp_m1 vw).trans (by rw [hx1.out])
  have d14 := t1.out.lookD.1.trans (by rw [hz0.out.d0])
  have d15 := t1.out.lookD.2.1.trans (by rw [hz0.out.d1])
  have d16 := t1.out.lookD.2.2.1
  have d17 := t1.out.lookD.2.2.2
  have H2 := writeWord_any cd nd x1 z.d2 z.d3 t1.out hz0.out.nd x1b (by have := hl0.out; have := se1.out; omega)
  replace H2 := Lib.hid H2
  go_wp2_with fail
  with_reducible refine H2.out.mono ?_
  rintro e w2 ⟨rfl, t2, k2⟩
  have r2 := Ran.writeWord s1 nd x1 x1b
  have se2 : ((wrS s1 nd x1)).l.length ≤ s.l.length + 4 := by have := se1.out; unfold wrS; simp; omega
  generalize hs2 : (wrS s1 nd x1) = s2 at r2 t2 se2
  replace hs2 := Lib.hid hs2
  replace k2 := Lib.hid (k1.out.trans k2)
  replace t2 := Lib.hid t2
  replace r2 := Lib.hid r2
  replace se2 := Lib.hid se2
  clear H2
  clear d14 d15 d16 d17
  have H3 := tellWord_any x1 t2.out x1b
  replace H3 := Lib.hid H3
  go_wp2_with fail
  with_reducible refine H3.out.mono ?_
  rintro e w3 ⟨rfl, t3, k3⟩
  have r3 := Ran.set (tellWR x1) s2
  have se3 := (show ({ s2 with r := (tellWR x1) s2.r } : Ts).l.length ≤ s.l.length + 4 from se2.out)
  generalize hs3 : ({ s2 with r := (tellWR x1) s2.r } : Ts) = s3 at r3 t3 se3
  replace hs3 := Lib.hid hs3
  replace k3 := Lib.hid (k2.out.trans k3)
  replace t3 := Lib.hid t3
  replace r3 := Lib.hid r3
  replace se3 := Lib.hid se3
  clear H3
  have e_x1 := hx1.out
  try subst e_x1
  have hf := Lib.hid (F.out (.returned (unitV ())) _ (Post.done (r1.out.bind (r2.out.bind (r3.out))) t3.out k3.out trivial (by have := se3.out; omega)))
  unfold unitV at hf
  clear F
  go_wp2_with fail
  first | exact hf.out | (go_end0; exact hf.out) | (go_ret; exact hf.out)
end
end Go.Proofs.YtknlbmjncginnaaGreatDoor
namespace Go.Proofs.YtknlbmjncginnaaGreatDoor
open Go.RowKit Go.Shelf
set_option maxRecDepth 100000
set_option maxHeartbeats 1000000
set_option linter.unusedVariables false

section
variable {K : Cx} {z : Zs} {s : Ts} {w w' : World} {c cd nd co no : Nat} {nm fm : ByteArray}
theorem and15 (x : Nat) (hx : x < 256) : bits .and .u8 (x : Int) 15 = ((x % 16 : Nat) : Int) :=
  (u8_and_nat x 15 hx (by decide)).trans (by rw [show (15 : Nat) = 2 ^ 4 - 1 from rfl, Nat.and_two_pow_sub_one_eq_mod])
/-- Dividing: how often, what is left over; the registers behind it. -/
def divQ (r : Rp) : Nat := if r.X = 0 then 65535 else yaR r / r.X
def divL (r : Rp) : Nat := if r.X = 0 then r.A else yaR r % r.X
def divR (r : Rp) : Rp := tellR (divQ r % 256) { putR 64 (decide (255 < divQ r)) (putR 8 (decide (r.X % 16 ≤ r.Y % 16)) r) with A := divQ r % 256, Y := divL r }
theorem divide_zero_any (h : Tk K z s w) (h0 : s.r.X = 0) (hl : s.l.length ≤ 80) :
    Calls Tryz.prog 155 #[.pointer (some ⟨K.b, 0, none⟩)] w (Post K z s w (M.set divR) unitV (fun _ => True) 12) := by
  obtain ⟨Q, hQ, F⟩ := post_name (Post K z s w (M.set divR) unitV (fun _ => True) 12)
  rw [hQ]
  clear hQ
  replace F := Lib.hid F
  have t0 := Lib.hid h
  have k0 := Lib.hid (Kp.refl K w)
  have hl0 := Lib.hid hl
  have se0 := Lib.hid (show s.l.length ≤ s.l.length + 0 from Nat.le_refl _)
  clear h hl
  go_enter Tryz.func155, Tryz.ntmps155
  replace h0 := Lib.hid h0
  have hA := Lib.hid t0.out.ok.A
  have hX := Lib.hid t0.out.ok.X
  have hY := Lib.hid t0.out.ok.Y
  have c1 := t0.out.look.1.2.1
  have c2 := t0.out.look.1.2.2.1
  obtain ⟨yl, hyl⟩ : ∃ x : Nat, s.r.Y % 16 = x := ⟨_, rfl⟩
  obtain ⟨xl, hxl⟩ : ∃ x : Nat, s.r.X % 16 = x := ⟨_, rfl⟩
  obtain ⟨b1, hb1⟩ : ∃ b, decide (xl ≤ yl) = b := ⟨_, rfl⟩
  have v1 : bits .and .u8 (s.r.Y : Int) 15 = (yl : Int) := by rw [← hyl]; exact and15 _ hY.out
  have v2 : bits .and .u8 (s.r.X : Int) 15 = (xl : Int) := by rw [← hxl]; exact and15 _ hX.out
  have u1 : decide ((yl : Int) ≥ (xl : Int)) = b1 := by rw [← hb1, Bool.eq_iff_iff]; simp only [decide_eq_true_eq]; omega
  have u1b : decide ((xl : Int) ≤ (yl : Int)) = b1 := u1
  have u1c : decide (xl ≤ yl) = b1 := hb1
  have hb1x := Lib.hid (show decide (s.r.X % 16 ≤ s.r.Y % 16) = b1 from by rw [hxl, hyl]; exact hb1)
  replace hyl := Lib.hid hyl
  replace hxl := Lib.hid hxl
  replace hb1 := Lib.hid hb1
  go_upto_region 0 with (fail)
  have t1 := Lib.hid t0.out.drew
  have k1 := Lib.hid k0.out.drew
  go_still_tail 14, (by kernel_rfl)
  show wpList _ _ _ _ _ w.drew
  generalize w.drew = wd1 at *
  have H2 := put_any 8 8 rfl b1 t1.out (by decide)
  replace H2 := Lib.hid H2
  go_wp2_with fail
  with_reducible refine H2.out.mono ?_
  rintro e w2 ⟨rfl, t2, k2⟩
  have r2 := Ran.set (putR 8 b1) s
  have se2 := (show ({ s with r := (putR 8 b1) s.r } : Ts).l.length ≤ s.l.length + 0 from se0.out)
  generalize hs2 : ({ s with r := (putR 8 b1) s.r } : Ts) = s2 at r2 t2 se2
  replace hs2 := Lib.hid hs2
  replace k2 := Lib.hid (k1.out.trans k2)
  replace t2 := Lib.hid t2
  replace r2 := Lib.hid r2
  replace se2 := Lib.hid se2
  clear H2
  clear c1 c2 u1 u1b u1c v1 v2
  have c0 := t2.out.look.1.1
  have c1 := t2.out.look.1.2.1
  have c2 := t2.out.look.1.2.2.1
  have eA : s2.r.A = s.r.A := by rw [← hs2.out]; rfl
  have eX : s2.r.X = s.r.X := by rw [← hs2.out]; rfl
  have eY : s2.r.Y = s.r.Y := by rw [← hs2.out]; rfl
  rw [eA] at c0
  rw [eX] at c1
  rw [eY] at c2
  go_upto_region 1 with (fail)
  go_quiet (fail)
  have bq3 : Below w2.heap.size w2 (w2.drewN nq) := below_drewN (Below.refl _ _) _
  have t3 := Lib.hid (t2.out.below bq3)
  have k3 := Lib.hid (k2.out.trans (Kp.below bq3))
  clear bq3
  generalize w2.drewN nq = wd3 at *
  clear c0 c1 c2
  have c0 := t3.out.look.1.1
  have c1 := t3.out.look.1.2.1
  have c2 := t3.out.look.1.2.2.1
  rw [eA] at c0
  rw [eX] at c1
  rw [eY] at c2
  rw [h0.out, show ((0 : Nat) : Int) = 0 from rfl] at c1
  have c0n := c0
  have H4 := put_any 64 64 rfl true t3.out (by decide)
  replace H4 := Lib.hid H4
  go_wp2_with fail
  with_reducible refine H4.out.mono ?_
  rintro e w4 ⟨rfl, t4, k4⟩
  have r4 := Ran.set (putR 64 true) s2
  have se4 := (show ({ s2 with r := (putR 64 true) s2.r } : Ts).l.length ≤ s.l.length + 0 from se2.out)
  generalize hs4 : ({ s2 with r := (putR 64 true) s2.r } : Ts) = s4 at r4 t4 se4
  replace hs4 := Lib.hid hs4
  replace k4 := Lib.hid (k3.out.trans k4)
  replace t4 := Lib.hid t4
  replace r4 := Lib.hid r4
  replace se4 := Lib.hid se4
  clear H4
  clear c0 c1 c2 c0n
  have c0 := t4.out.look.1.1
  have c2 := t4.out.look.1.2.2.1
  have f0 := t4.out.look.2.2 0
  have f2 := t4.out.look.2.2 2
  have t5 := t4.out.toA 255 (by decide)
  have r5 := Ran.set (fun r => { r with A := 255 }) s4
  have se5 := (show ({ s4 with r := { s4.r with A := 255 } } : Ts).l.length ≤ s.l.length + 0 from se4.out)
  generalize hs5 : ({ s4 with r := { s4.r with A := 255 } } : Ts) = s5 at r5 t5 se5
  have k5 := Lib.hid (k4.out.set 0 (.int .u8 (255 : Nat)))
  replace hs5 := Lib.hid hs5
  replace t5 := Lib.hid t5
  replace r5 := Lib.hid r5
  replace se5 := Lib.hid se5
  simp only [show ((255 : Nat) : Int) = 255 from rfl] at t5 k5
  have t6 := t5.out.toY s.r.A hA.out
  have r6 := Ran.set (fun r => { r with Y := s.r.A }) s5
  have se6 := (show ({ s5 with r := { s5.r with Y := s.r.A } } : Ts).l.length ≤ s.l.length + 0 from se5.out)
  generalize hs6 : ({ s5 with r := { s5.r with Y := s.r.A } } : Ts) = s6 at r6 t6 se6
  have k6 := Lib.hid (k5.out.set 2 (.int .u8 (s.r.A : Nat)))
  replace hs6 := Lib.hid hs6
  replace t6 := Lib.hid t6
  replace r6 := Lib.hid r6
  replace se6 := Lib.hid se6
  have HT := tell_any 255 t6.out (by decide)
  simp only [show ((255 : Nat) : Int) = 255 from rfl] at HT
  have H7 := HT
  replace H7 := Lib.hid H7
  go_wp2_with fail
  with_reducible refine H7.out.mono ?_
  rintro e w7 ⟨rfl, t7, k7⟩
  have r7 := Ran.set (tellR 255) s6
  have se7 := (show ({ s6 with r := (tellR 255) s6.r } : Ts).l.length ≤ s.l.length + 0 from se6.out)
  generalize hs7 : ({ s6 with r := (tellR 255) s6.r } : Ts) = s7 at r7 t7 se7
  replace hs7 := Lib.hid hs7
  replace k7 := Lib.hid (k6.out.trans k7)
  replace t7 := Lib.hid t7
  replace r7 := Lib.hid r7
  replace se7 := Lib.hid se7
  clear H7
  have hE : ({ s with r := divR s.r } : Ts) = s7 := by
    rw [← hs7.out, ← hs6.out, ← hs5.out, ← hs4.out, ← hs2.out]
    show _ = ({ s with r := tellR 255 { putR 64 true (putR 8 b1 s.r) with A := 255, Y := s.r.A } } : Ts)
    unfold divR divQ divL
    rw [if_pos h0.out, if_pos h0.out, hb1x.out]
    rfl
  have hR := Ran.set divR s
  rw [hE] at hR
  have hf := Lib.hid (F.out (.returned (unitV ())) _ (Post.done hR t7.out k7.out trivial (by have := se7.out; omega)))
  unfold unitV at hf
  clear F
  go_wp2_with fail
  first | exact hf.out | (go_end0; exact hf.out) | (go_ret; exact hf.out)
theorem divide_some_any (h : Tk K z s w) (h0 : s.r.X ≠ 0) (hl : s.l.length ≤ 80) :
    Calls Tryz.prog 155 #[.pointer (some ⟨K.b, 0, none⟩)] w (Post K z s w (M.set divR) unitV (fun _ => True) 12) := by
  obtain ⟨Q, hQ, F⟩ := post_name (Post K z s w (M.set divR) unitV (fun _ => True) 12)
  rw [hQ]
  clear hQ
  replace F := Lib.hid F
  have t0 := Lib.hid h
  have k0 := Lib.hid (Kp.refl K w)
  have hl0 := Lib.hid hl
  have se0 := Lib.hid (show s.l.length ≤ s.l.length + 0 from Nat.le_refl _)
  clear h hl
  go_enter Tryz.func155, Tryz.ntmps155
  replace h0 := Lib.hid h0
  have hA := Lib.hid t0.out.ok.A
  have hX := Lib.hid t0.out.ok.X
  have hY := Lib.hid t0.out.ok.Y
  have c1 := t0.out.look.1.2.1
  have c2 := t0.out.look.1.2.2.1
  obtain ⟨yl, hyl⟩ : ∃ x : Nat, s.r.Y % 16 = x := ⟨_, rfl⟩
  obtain ⟨xl, hxl⟩ : ∃ x : Nat, s.r.X % 16 = x := ⟨_, rfl⟩
  obtain ⟨b1, hb1⟩ : ∃ b, decide (xl ≤ yl) = b := ⟨_, rfl⟩
  have v1 : bits .and .u8 (s.r.Y : Int) 15 = (yl : Int) := by rw [← hyl]; exact and15 _ hY.out
  have v2 : bits .and .u8 (s.r.X : Int) 15 = (xl : Int) := by rw [← hxl]; exact and15 _ hX.out
  have u1 : decide ((yl : Int) ≥ (xl : Int)) = b1 := by rw [← hb1, Bool.eq_iff_iff]; simp only [decide_eq_true_eq]; omega
  have u1b : decide ((xl : Int) ≤ (yl : Int)) = b1 := u1
  have u1c : decide (xl ≤ yl) = b1 := hb1
  have hb1x := Lib.hid (show decide (s.r.X % 16 ≤ s.r.Y % 16) = b1 from by rw [hxl, hyl]; exact hb1)
  replace hyl := Lib.hid hyl
  replace hxl := Lib.hid hxl
  replace hb1 := Lib.hid hb1
  go_upto_region 0 with (fail)
  have t1 := Lib.hid t0.out.drew
  have k1 := Lib.hid k0.out.drew
  go_still_tail 14, (by kernel_rfl)
  show wpList _ _ _ _ _ w.drew
  generalize w.drew = wd1 at *
  have H2 := put_any 8 8 rfl b1 t1.out (by decide)
  replace H2 := Lib.hid H2
  go_wp2_with fail
  with_reducible refine H2.out.mono ?_
  rintro e w2 ⟨rfl, t2, k2⟩
  have r2 := Ran.set (putR 8 b1) s
  have se2 := (show ({ s with r := (putR 8 b1) s.r } : Ts).l.length ≤ s.l.length + 0 from se0.out)
  generalize hs2 : ({ s with r := (putR 8 b1) s.r } : Ts) = s2 at r2 t2 se2
  replace hs2 := Lib.hid hs2
  replace k2 := Lib.hid (k1.out.trans k2)
  replace t2 := Lib.hid t2
  replace r2 := Lib.hid r2
  replace se2 := Lib.hid se2
  clear H2
  clear c1 c2 u1 u1b u1c v1 v2
  have c0 := t2.out.look.1.1
  have c1 := t2.out.look.1.2.1
  have c2 := t2.out.look.1.2.2.1
  have eA : s2.r.A = s.r.A := by rw [← hs2.out]; rfl
  have eX : s2.r.X = s.r.X := by rw [← hs2.out]; rfl
  have eY : s2.r.Y = s.r.Y := by rw [← hs2.out]; rfl
  rw [eA] at c0
  rw [eX] at c1
  rw [eY] at c2
  go_upto_region 1 with (fail)
  go_quiet (fail)
  have bq3 : Below w2.heap.size w2 (w2.drewN nq) := below_drewN (Below.refl _ _) _
  have t3 := Lib.hid (t2.out.below bq3)
  have k3 := Lib.hid (k2.out.trans (Kp.below bq3))
  clear bq3
  generalize w2.drewN nq = wd3 at *
  clear c0 c1 c2
  have c0 := t3.out.look.1.1
  have c1 := t3.out.look.1.2.1
  have c2 := t3.out.look.1.2.2.1
  rw [eA] at c0
  rw [eX] at c1
  rw [eY] at c2
  obtain ⟨xx, hx⟩ : ∃ x, s.r.X = x := ⟨_, rfl⟩
  rw [hx] at c1
  have hx0 : xx ≠ 0 := by rw [← hx]; exact h0.out
  have hxb : xx < 256 := by rw [← hx]; exact hX.out
  replace hx := Lib.hid hx
  have wx : IntKind.u16.wrap (xx : Int) = (xx : Int) := by simp only [IntKind.wrap_u16]; omega
  have n0 : ((xx : Int) != 0) = true := by rw [bne_iff_ne]; omega
  have n1 : ((xx : Int) == 0) = false := by rw [beq_eq_false_iff_ne]; omega
  have n2 : ¬ ((xx : Int) = 0) := by omega
  obtain ⟨yy, hyy, yyb⟩ : ∃ x : Nat, yaR s2.r = x ∧ x < 65536 := ⟨_, rfl, yaR_lt t3.out.ok⟩
  replace hyy := Lib.hid hyy
  have hys := Lib.hid (show yaR s.r = yy from by rw [← hyy.out, ← hs2.out]; rfl)
  obtain ⟨q, hq, qb⟩ : ∃ x : Nat, yy / xx = x ∧ x < 65536 := ⟨_, rfl, Nat.lt_of_le_of_lt (Nat.div_le_self _ _) yyb⟩
  replace hq := Lib.hid hq
  obtain ⟨rr, hrr, rrb⟩ : ∃ x : Nat, yy % xx = x ∧ x < 256 := ⟨_, rfl, Nat.lt_trans (Nat.mod_lt _ (Nat.pos_of_ne_zero hx0)) hxb⟩
  replace hrr := Lib.hid hrr
  obtain ⟨q8, hq8, q8b, q8w⟩ : ∃ x : Nat, q % 256 = x ∧ x < 256 ∧ IntKind.u8.wrap (q : Int) = (x : Int) := ⟨_, rfl, Nat.mod_lt _ (by decide), (by simp only [IntKind.wrap_u8]; omega)⟩
  replace hq8 := Lib.hid hq8
  have q8z : (q : Int) % 256 = (q8 : Int) := by have := hq8.out; omega
  have wr : IntKind.u8.wrap (rr : Int) = (rr : Int) := by simp only [IntKind.wrap_u8]; omega
  have wr2 : (rr : Int) % 256 = (rr : Int) := by omega
  have d1 : (yy : Int) / (xx : Int) = (q : Int) := by rw [← hq.out]; exact (Int.natCast_ediv yy xx).symm
  have d2 : (yy : Int) % (xx : Int) = (rr : Int) := by rw [← hrr.out]; exact (Int.natCast_emod yy xx).symm
  have d3 : Int.tdiv (yy : Int) (xx : Int) = (q : Int) := by rw [Int.tdiv_eq_ediv_of_nonneg (by omega)]; exact d1
  have d4 : Int.tmod (yy : Int) (xx : Int) = (rr : Int) := by rw [Int.tmod_eq_emod_of_nonneg (by omega)]; exact d2
  have wq : IntKind.u16.wrap (q : Int) = (q : Int) := by simp only [IntKind.wrap_u16]; omega
  obtain ⟨b2, hb2⟩ : ∃ b, decide (255 < q) = b := ⟨_, rfl⟩
  have z1 : decide ((q : Int) > 255) = b2 := by rw [← hb2, Bool.eq_iff_iff]; simp only [decide_eq_true_eq]; omega
  have z2 : decide (255 < (q : Int)) = b2 := z1
  replace hb2 := Lib.hid hb2
  have HY := Lib.hid fun (W : World) (tW : Tk K z s2 W) => (show Calls Tryz.prog 202 #[.pointer (some ⟨K.b, 0, none⟩)] W (fun e w' => e = .returned (.int .u16 (yy : Nat)) ∧ ∃ q, w' = W.drewN q) from by rw [← hyy.out]; exact ya_any tW)
  go_upto_region 4 with (fail)
  go_quiet ((go_at_call 202; exact Calls.quiet_of (HY.out _ (t3.out.below (below_drewN (Below.refl _ _) _)))))
  have bq4 : Below wd3.heap.size wd3 (wd3.drewN nq) := below_drewN (Below.refl _ _) _
  have t4 := Lib.hid (t3.out.below bq4)
  have k4 := Lib.hid (k3.out.trans (Kp.below bq4))
  clear bq4
  generalize wd3.drewN nq = wd4 at *
  have H5 := put_any 64 64 rfl b2 t4.out (by decide)
  replace H5 := Lib.hid H5
  go_wp2_with fail
  with_reducible refine H5.out.mono ?_
  rintro e w5 ⟨rfl, t5, k5⟩
  have r5 := Ran.set (putR 64 b2) s2
  have se5 := (show ({ s2 with r := (putR 64 b2) s2.r } : Ts).l.length ≤ s.l.length + 0 from se2.out)
  generalize hs5 : ({ s2 with r := (putR 64 b2) s2.r } : Ts) = s5 at r5 t5 se5
  replace hs5 := Lib.hid hs5
  replace k5 := Lib.hid (k4.out.trans k5)
  replace t5 := Lib.hid t5
  replace r5 := Lib.hid r5
  replace se5 := Lib.hid se5
  clear H5
  clear c0 c1 c2
  have c0 := t5.out.look.1.1
  have c2 := t5.out.look.1.2.2.1
  have f0 := t5.out.look.2.2 0
  have f2 := t5.out.look.2.2 2
  have t6 := t5.out.toA q8 q8b
  have r6 := Ran.set (fun r => { r with A := q8 }) s5
  have se6 := (show ({ s5 with r := { s5.r with A := q8 } } : Ts).l.length ≤ s.l.length + 0 from se5.out)
  generalize hs6 : ({ s5 with r := { s5.r with A := q8 } } : Ts) = s6 at r6 t6 se6
  have k6 := Lib.hid (k5.out.set 0 (.int .u8 (q8 : Nat)))
  replace hs6 := Lib.hid hs6
  replace t6 := Lib.hid t6
  replace r6 := Lib.hid r6
  replace se6 := Lib.hid se6
  have t7 := t6.out.toY rr rrb
  have r7 := Ran.set (fun r => { r with Y := rr }) s6
  have se7 := (show ({ s6 with r := { s6.r with Y := rr } } : Ts).l.length ≤ s.l.length + 0 from se6.out)
  generalize hs7 : ({ s6 with r := { s6.r with Y := rr } } : Ts) = s7 at r7 t7 se7
  have k7 := Lib.hid (k6.out.set 2 (.int .u8 (rr : Nat)))
  replace hs7 := Lib.hid hs7
  replace t7 := Lib.hid t7
  replace r7 := Lib.hid r7
  replace se7 := Lib.hid se7
  have H8 := tell_any q8 t7.out q8b
  replace H8 := Lib.hid H8
  go_wp2_with fail
  with_reducible refine H8.out.mono ?_
  rintro e w8 ⟨rfl, t8, k8⟩
  have r8 := Ran.set (tellR q8) s7
  have se8 := (show ({ s7 with r := (tellR q8) s7.r } : Ts).l.length ≤ s.l.length + 0 from se7.out)
  generalize hs8 : ({ s7 with r := (tellR q8) s7.r } : Ts) = s8 at r8 t8 se8
  replace hs8 := Lib.hid hs8
  replace k8 := Lib.hid (k7.out.trans k8)
  replace t8 := Lib.hid t8
  replace r8 := Lib.hid r8
  replace se8 := Lib.hid se8
  clear H8
  have hE : ({ s with r := divR s.r } : Ts) = s8 := by
    rw [← hs8.out, ← hs7.out, ← hs6.out, ← hs5.out, ← hs2.out]
    show _ = ({ s with r := tellR q8 { putR 64 b2 (putR 8 b1 s.r) with A := q8, Y := rr } } : Ts)
    unfold divR divQ divL
    rw [if_neg h0.out, if_neg h0.out, hb1x.out, hys.out, hx.out, hq.out, hrr.out, hq8.out, hb2.out]
  have hR := Ran.set divR s
  rw [hE] at hR
  have hf := Lib.hid (F.out (.returned (unitV ())) _ (Post.done hR t8.out k8.out trivial (by have := se8.out; omega)))
  unfold unitV at hf
  clear F
  go_wp2_with fail
  first | exact hf.out | (go_end0; exact hf.out) | (go_ret; exact hf.out)
theorem divide_any (h : Tk K z s w) (hl : s.l.length ≤ 80) :
    Calls Tryz.prog 155 #[.pointer (some ⟨K.b, 0, none⟩)] w (Post K z s w (M.set divR) unitV (fun _ => True) 12) := by
  by_cases h0 : s.r.X = 0
  · exact divide_zero_any h h0 hl
  · exact divide_some_any h h0 hl
end
end Go.Proofs.YtknlbmjncginnaaGreatDoor
