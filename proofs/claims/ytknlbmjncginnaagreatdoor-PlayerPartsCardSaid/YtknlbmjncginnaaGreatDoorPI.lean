/-
  Decimal adjusting (gentm.py writes this text).
-/
import Derived.Test.YtknlbmjncginnaaGreatDoorPF
import Derived.StillTailTactics
namespace Go.Proofs.YtknlbmjncginnaaGreatDoor
open Go.RowKit Go.Shelf
set_option maxRecDepth 100000
set_option maxHeartbeats 1000000
set_option linter.unusedVariables false

section
variable {K : Cx} {z : Zs} {s : Ts} {w w' : World} {c cd nd co no : Nat} {nm fm : ByteArray}
/-- Decimal adjusting: of a sum (0), of a difference (1): the upper digit, the lower one, all. -/
def adjA (k : Nat) (r : Rp) : Rp := match k with
  | 0 => bif hasP r.P 1 || decide (153 < r.A) then { r with A := (r.A + 96) % 256, P := flagP r.P 1 true } else r
  | _ => bif !hasP r.P 1 || decide (153 < r.A) then { r with A := (r.A + 160) % 256, P := flagP r.P 1 false } else r
def adjB (k : Nat) (r : Rp) : Rp := match k with
  | 0 => bif hasP r.P 8 || decide (9 < r.A % 16) then { r with A := (r.A + 6) % 256 } else r
  | _ => bif !hasP r.P 8 || decide (9 < r.A % 16) then { r with A := (r.A + 250) % 256 } else r
def adjR (k : Nat) (r : Rp) : Rp := tellR (adjB k (adjA k r)).A (adjB k (adjA k r))
theorem adjustSum_flag_flag_any (h : Tk K z s w) (h1 : hasP s.r.P 1 = true) (h2 : hasP (flagP s.r.P 1 true) 8 = true) (hl : s.l.length ≤ 80) :
    Calls Tryz.prog 143 #[.pointer (some ⟨K.b, 0, none⟩)] w (Post K z s w (M.set (adjR 0)) unitV (fun _ => True) 12) := by
  obtain ⟨Q, hQ, F⟩ := post_name (Post K z s w (M.set (adjR 0)) unitV (fun _ => True) 12)
  rw [hQ]
  clear hQ
  replace F := Lib.hid F
  have t0 := Lib.hid h
  have k0 := Lib.hid (Kp.refl K w)
  have hl0 := Lib.hid hl
  have se0 := Lib.hid (show s.l.length ≤ s.l.length + 0 from Nat.le_refl _)
  clear h hl
  go_enter Tryz.func143, Tryz.ntmps143
  have hA0 := Lib.hid t0.out.ok.A
  have HF := flag_any 1 1 rfl t0.out (by decide)
  rw [h1] at HF
  have c0 := t0.out.look.1.1
  have f0 := t0.out.look.2.2 0
  obtain ⟨x1, hx1, x1b, x1w⟩ : ∃ x : Nat, (s.r.A + 96) % 256 = x ∧ x < 256 ∧ IntKind.u8.wrap ((s.r.A : Int) + 96) = (x : Int) := ⟨_, rfl, Nat.mod_lt _ (by decide), (by simp only [IntKind.wrap_u8]; omega)⟩
  replace hx1 := Lib.hid hx1
  have x1z : ((s.r.A : Int) + 96) % 256 = (x1 : Int) := by have := hx1.out; omega
  have H1 := HF
  replace H1 := Lib.hid H1
  go_wp2_with fail
  with_reducible refine H1.out.mono ?_
  rintro e w1 ⟨rfl, hw1⟩
  rw [hw1]
  clear hw1 w1 H1
  have t2 := t0.out.toA x1 x1b
  have r2 := Ran.set (fun r => { r with A := x1 }) s
  have se2 := (show ({ s with r := { s.r with A := x1 } } : Ts).l.length ≤ s.l.length + 0 from se0.out)
  generalize hs2 : ({ s with r := { s.r with A := x1 } } : Ts) = s2 at r2 t2 se2
  have k2 := Lib.hid (k0.out.set 0 (.int .u8 (x1 : Nat)))
  replace hs2 := Lib.hid hs2
  replace t2 := Lib.hid t2
  replace r2 := Lib.hid r2
  replace se2 := Lib.hid se2
  have hq1 := hs2
  have H3 := put_any 1 1 rfl true t2.out (by decide)
  replace H3 := Lib.hid H3
  go_wp2_with fail
  with_reducible refine H3.out.mono ?_
  rintro e w3 ⟨rfl, t3, k3⟩
  have r3 := Ran.set (putR 1 true) s2
  have se3 := (show ({ s2 with r := (putR 1 true) s2.r } : Ts).l.length ≤ s.l.length + 0 from se2.out)
  generalize hs3 : ({ s2 with r := (putR 1 true) s2.r } : Ts) = s3 at r3 t3 se3
  replace hs3 := Lib.hid hs3
  replace k3 := Lib.hid (k2.out.trans k3)
  replace t3 := Lib.hid t3
  replace r3 := Lib.hid r3
  replace se3 := Lib.hid se3
  clear H3
  have eA : s3.r.A = x1 := by rw [← hs3.out, ← hq1.out]; rfl
  have eP : hasP s3.r.P 8 = true := by rw [← hs3.out, ← hq1.out]; exact h2
  clear c0 f0
  replace h2 := Lib.hid h2
  have c0 := t3.out.look.1.1
  rw [eA] at c0
  have f0 := t3.out.look.2.2 0
  have HG := flag_any 8 8 rfl t3.out (by decide)
  rw [eP] at HG
  clear eP
  clear eA
  obtain ⟨x2, hx2, x2b, x2w⟩ : ∃ x : Nat, (x1 + 6) % 256 = x ∧ x < 256 ∧ IntKind.u8.wrap ((x1 : Int) + 6) = (x : Int) := ⟨_, rfl, Nat.mod_lt _ (by decide), (by simp only [IntKind.wrap_u8]; omega)⟩
  replace hx2 := Lib.hid hx2
  have x2z : ((x1 : Int) + 6) % 256 = (x2 : Int) := by have := hx2.out; omega
  have H4 := HG
  replace H4 := Lib.hid H4
  go_wp2_with fail
  with_reducible refine H4.out.mono ?_
  rintro e w4 ⟨rfl, hw4⟩
  rw [hw4]
  clear hw4 w4 H4
  have t5 := t3.out.toA x2 x2b
  have r5 := Ran.set (fun r => { r with A := x2 }) s3
  have se5 := (show ({ s3 with r := { s3.r with A := x2 } } : Ts).l.length ≤ s.l.length + 0 from se3.out)
  generalize hs5 : ({ s3 with r := { s3.r with A := x2 } } : Ts) = s5 at r5 t5 se5
  have k5 := Lib.hid (k3.out.set 0 (.int .u8 (x2 : Nat)))
  replace hs5 := Lib.hid hs5
  replace t5 := Lib.hid t5
  replace r5 := Lib.hid r5
  replace se5 := Lib.hid se5
  have hq2 := hs5
  have H6 := tell_any x2 t5.out x2b
  replace H6 := Lib.hid H6
  go_wp2_with fail
  with_reducible refine H6.out.mono ?_
  rintro e w6 ⟨rfl, t6, k6⟩
  have r6 := Ran.set (tellR x2) s5
  have se6 := (show ({ s5 with r := (tellR x2) s5.r } : Ts).l.length ≤ s.l.length + 0 from se5.out)
  generalize hs6 : ({ s5 with r := (tellR x2) s5.r } : Ts) = s6 at r6 t6 se6
  replace hs6 := Lib.hid hs6
  replace k6 := Lib.hid (k5.out.trans k6)
  replace t6 := Lib.hid t6
  replace r6 := Lib.hid r6
  replace se6 := Lib.hid se6
  clear H6
  have hE : ({ s with r := adjR 0 s.r } : Ts) = s6 := by
    have x1e := hx1.out
    have x2e := hx2.out
    have h2e := h2.out
    rw [← hs6.out, ← hs5.out, ← hs3.out, ← hs2.out]
    try dsimp only
    rw [← x2e]
    rw [← x1e]
    have q1 : (hasP s.r.P 1 || decide (153 < s.r.A)) = true := by rw [h1]; rfl
    have q2 : (hasP (flagP s.r.P 1 true) 8 || decide (9 < ((s.r.A + 96) % 256) % 16)) = true := by rw [h2e]; rfl
    have e1 : adjA 0 s.r = { s.r with A := (s.r.A + 96) % 256, P := flagP s.r.P 1 true } := by unfold adjA; simp only [q1]; rfl
    have e2 : adjB 0 ({ s.r with A := (s.r.A + 96) % 256, P := flagP s.r.P 1 true }) = { s.r with A := ((s.r.A + 96) % 256 + 6) % 256, P := flagP s.r.P 1 true } := by unfold adjB; simp only [q2]; rfl
    have e3 : adjR 0 s.r = tellR (adjB 0 (adjA 0 s.r)).A (adjB 0 (adjA 0 s.r)) := rfl
    rw [e3, e1, e2]
    all_goals rfl
  have hR := Ran.set (adjR 0) s
  rw [hE] at hR
  have hf := Lib.hid (F.out (.returned (unitV ())) _ (Post.done hR t6.out k6.out trivial (by have := se6.out; omega)))
  unfold unitV at hf
  clear F
  go_wp2_with fail
  first | exact hf.out | (go_end0; exact hf.out) | (go_ret; exact hf.out)
theorem adjustSum_flag_big_any (h : Tk K z s w) (h1 : hasP s.r.P 1 = true) (h2 : hasP (flagP s.r.P 1 true) 8 = false) (g2 : 9 < ((s.r.A + 96) % 256) % 16) (hl : s.l.length ≤ 80) :
    Calls Tryz.prog 143 #[.pointer (some ⟨K.b, 0, none⟩)] w (Post K z s w (M.set (adjR 0)) unitV (fun _ => True) 12) := by
  obtain ⟨Q, hQ, F⟩ := post_name (Post K z s w (M.set (adjR 0)) unitV (fun _ => True) 12)
  rw [hQ]
  clear hQ
  replace F := Lib.hid F
  have t0 := Lib.hid h
  have k0 := Lib.hid (Kp.refl K w)
  have hl0 := Lib.hid hl
  have se0 := Lib.hid (show s.l.length ≤ s.l.length + 0 from Nat.le_refl _)
  clear h hl
  go_enter Tryz.func143, Tryz.ntmps143
  have hA0 := Lib.hid t0.out.ok.A
  have HF := flag_any 1 1 rfl t0.out (by decide)
  rw [h1] at HF
  have c0 := t0.out.look.1.1
  have f0 := t0.out.look.2.2 0
  obtain ⟨x1, hx1, x1b, x1w⟩ : ∃ x : Nat, (s.r.A + 96) % 256 = x ∧ x < 256 ∧ IntKind.u8.wrap ((s.r.A : Int) + 96) = (x : Int) := ⟨_, rfl, Nat.mod_lt _ (by decide), (by simp only [IntKind.wrap_u8]; omega)⟩
  replace hx1 := Lib.hid hx1
  have x1z : ((s.r.A : Int) + 96) % 256 = (x1 : Int) := by have := hx1.out; omega
  have H1 := HF
  replace H1 := Lib.hid H1
  go_wp2_with fail
  with_reducible refine H1.out.mono ?_
  rintro e w1 ⟨rfl, hw1⟩
  rw [hw1]
  clear hw1 w1 H1
  have t2 := t0.out.toA x1 x1b
  have r2 := Ran.set (fun r => { r with A := x1 }) s
  have se2 := (show ({ s with r := { s.r with A := x1 } } : Ts).l.length ≤ s.l.length + 0 from se0.out)
  generalize hs2 : ({ s with r := { s.r with A := x1 } } : Ts) = s2 at r2 t2 se2
  have k2 := Lib.hid (k0.out.set 0 (.int .u8 (x1 : Nat)))
  replace hs2 := Lib.hid hs2
  replace t2 := Lib.hid t2
  replace r2 := Lib.hid r2
  replace se2 := Lib.hid se2
  have hq1 := hs2
  have H3 := put_any 1 1 rfl true t2.out (by decide)
  replace H3 := Lib.hid H3
  go_wp2_with fail
  with_reducible refine H3.out.mono ?_
  rintro e w3 ⟨rfl, t3, k3⟩
  have r3 := Ran.set (putR 1 true) s2
  have se3 := (show ({ s2 with r := (putR 1 true) s2.r } : Ts).l.length ≤ s.l.length + 0 from se2.out)
  generalize hs3 : ({ s2 with r := (putR 1 true) s2.r } : Ts) = s3 at r3 t3 se3
  replace hs3 := Lib.hid hs3
  replace k3 := Lib.hid (k2.out.trans k3)
  replace t3 := Lib.hid t3
  replace r3 := Lib.hid r3
  replace se3 := Lib.hid se3
  clear H3
  have eA : s3.r.A = x1 := by rw [← hs3.out, ← hq1.out]; rfl
  have eP : hasP s3.r.P 8 = false := by rw [← hs3.out, ← hq1.out]; exact h2
  clear c0 f0
  rw [hx1.out] at g2
  have u2 : decide ((x1 : Int) % 16 > 9) = true := by exact decide_eq_true (by omega)
  have u2b : decide (9 < (x1 : Int) % 16) = true := u2
  replace g2 := Lib.hid g2
  replace h2 := Lib.hid h2
  have c0 := t3.out.look.1.1
  rw [eA] at c0
  have f0 := t3.out.look.2.2 0
  have HG := flag_any 8 8 rfl t3.out (by decide)
  rw [eP] at HG
  clear eP
  clear eA
  obtain ⟨x2, hx2, x2b, x2w⟩ : ∃ x : Nat, (x1 + 6) % 256 = x ∧ x < 256 ∧ IntKind.u8.wrap ((x1 : Int) + 6) = (x : Int) := ⟨_, rfl, Nat.mod_lt _ (by decide), (by simp only [IntKind.wrap_u8]; omega)⟩
  replace hx2 := Lib.hid hx2
  have x2z : ((x1 : Int) + 6) % 256 = (x2 : Int) := by have := hx2.out; omega
  have H4 := HG
  replace H4 := Lib.hid H4
  go_wp2_with fail
  with_reducible refine H4.out.mono ?_
  rintro e w4 ⟨rfl, hw4⟩
  rw [hw4]
  clear hw4 w4 H4
  have t5 := t3.out.toA x2 x2b
  have r5 := Ran.set (fun r => { r with A := x2 }) s3
  have se5 := (show ({ s3 with r := { s3.r with A := x2 } } : Ts).l.length ≤ s.l.length + 0 from se3.out)
  generalize hs5 : ({ s3 with r := { s3.r with A := x2 } } : Ts) = s5 at r5 t5 se5
  have k5 := Lib.hid (k3.out.set 0 (.int .u8 (x2 : Nat)))
  replace hs5 := Lib.hid hs5
  replace t5 := Lib.hid t5
  replace r5 := Lib.hid r5
  replace se5 := Lib.hid se5
  have hq2 := hs5
  have H6 := tell_any x2 t5.out x2b
  replace H6 := Lib.hid H6
  go_wp2_with fail
  with_reducible refine H6.out.mono ?_
  rintro e w6 ⟨rfl, t6, k6⟩
  have r6 := Ran.set (tellR x2) s5
  have se6 := (show ({ s5 with r := (tellR x2) s5.r } : Ts).l.length ≤ s.l.length + 0 from se5.out)
  generalize hs6 : ({ s5 with r := (tellR x2) s5.r } : Ts) = s6 at r6 t6 se6
  replace hs6 := Lib.hid hs6
  replace k6 := Lib.hid (k5.out.trans k6)
  replace t6 := Lib.hid t6
  replace r6 := Lib.hid r6
  replace se6 := Lib.hid se6
  clear H6
  have hE : ({ s with r := adjR 0 s.r } : Ts) = s6 := by
    have x1e := hx1.out
    have x2e := hx2.out
    have g2e := g2.out
    rw [← x1e] at g2e
    have h2e := h2.out
    rw [← hs6.out, ← hs5.out, ← hs3.out, ← hs2.out]
    try dsimp only
    rw [← x2e]
    rw [← x1e]
    have q1 : (hasP s.r.P 1 || decide (153 < s.r.A)) = true := by rw [h1]; rfl
    have q2 : (hasP (flagP s.r.P 1 true) 8 || decide (9 < ((s.r.A + 96) % 256) % 16)) = true := by rw [h2e, decide_eq_true g2e]; rfl
    have e1 : adjA 0 s.r = { s.r with A := (s.r.A + 96) % 256, P := flagP s.r.P 1 true } := by unfold adjA; simp only [q1]; rfl
    have e2 : adjB 0 ({ s.r with A := (s.r.A + 96) % 256, P := flagP s.r.P 1 true }) = { s.r with A := ((s.r.A + 96) % 256 + 6) % 256, P := flagP s.r.P 1 true } := by unfold adjB; simp only [q2]; rfl
    have e3 : adjR 0 s.r = tellR (adjB 0 (adjA 0 s.r)).A (adjB 0 (adjA 0 s.r)) := rfl
    rw [e3, e1, e2]
    all_goals rfl
  have hR := Ran.set (adjR 0) s
  rw [hE] at hR
  have hf := Lib.hid (F.out (.returned (unitV ())) _ (Post.done hR t6.out k6.out trivial (by have := se6.out; omega)))
  unfold unitV at hf
  clear F
  go_wp2_with fail
  first | exact hf.out | (go_end0; exact hf.out) | (go_ret; exact hf.out)
theorem adjustSum_flag_no_any (h : Tk K z s w) (h1 : hasP s.r.P 1 = true) (h2 : hasP (flagP s.r.P 1 true) 8 = false) (g2 : ¬ 9 < ((s.r.A + 96) % 256) % 16) (hl : s.l.length ≤ 80) :
    Calls Tryz.prog 143 #[.pointer (some ⟨K.b, 0, none⟩)] w (Post K z s w (M.set (adjR 0)) unitV (fun _ => True) 12) := by
  obtain ⟨Q, hQ, F⟩ := post_name (Post K z s w (M.set (adjR 0)) unitV (fun _ => True) 12)
  rw [hQ]
  clear hQ
  replace F := Lib.hid F
  have t0 := Lib.hid h
  have k0 := Lib.hid (Kp.refl K w)
  have hl0 := Lib.hid hl
  have se0 := Lib.hid (show s.l.length ≤ s.l.length + 0 from Nat.le_refl _)
  clear h hl
  go_enter Tryz.func143, Tryz.ntmps143
  have hA0 := Lib.hid t0.out.ok.A
  have HF := flag_any 1 1 rfl t0.out (by decide)
  rw [h1] at HF
  have c0 := t0.out.look.1.1
  have f0 := t0.out.look.2.2 0
  obtain ⟨x1, hx1, x1b, x1w⟩ : ∃ x : Nat, (s.r.A + 96) % 256 = x ∧ x < 256 ∧ IntKind.u8.wrap ((s.r.A : Int) + 96) = (x : Int) := ⟨_, rfl, Nat.mod_lt _ (by decide), (by simp only [IntKind.wrap_u8]; omega)⟩
  replace hx1 := Lib.hid hx1
  have x1z : ((s.r.A : Int) + 96) % 256 = (x1 : Int) := by have := hx1.out; omega
  have H1 := HF
  replace H1 := Lib.hid H1
  go_wp2_with fail
  with_reducible refine H1.out.mono ?_
  rintro e w1 ⟨rfl, hw1⟩
  rw [hw1]
  clear hw1 w1 H1
  have t2 := t0.out.toA x1 x1b
  have r2 := Ran.set (fun r => { r with A := x1 }) s
  have se2 := (show ({ s with r := { s.r with A := x1 } } : Ts).l.length ≤ s.l.length + 0 from se0.out)
  generalize hs2 : ({ s with r := { s.r with A := x1 } } : Ts) = s2 at r2 t2 se2
  have k2 := Lib.hid (k0.out.set 0 (.int .u8 (x1 : Nat)))
  replace hs2 := Lib.hid hs2
  replace t2 := Lib.hid t2
  replace r2 := Lib.hid r2
  replace se2 := Lib.hid se2
  have hq1 := hs2
  have H3 := put_any 1 1 rfl true t2.out (by decide)
  replace H3 := Lib.hid H3
  go_wp2_with fail
  with_reducible refine H3.out.mono ?_
  rintro e w3 ⟨rfl, t3, k3⟩
  have r3 := Ran.set (putR 1 true) s2
  have se3 := (show ({ s2 with r := (putR 1 true) s2.r } : Ts).l.length ≤ s.l.length + 0 from se2.out)
  generalize hs3 : ({ s2 with r := (putR 1 true) s2.r } : Ts) = s3 at r3 t3 se3
  replace hs3 := Lib.hid hs3
  replace k3 := Lib.hid (k2.out.trans k3)
  replace t3 := Lib.hid t3
  replace r3 := Lib.hid r3
  replace se3 := Lib.hid se3
  clear H3
  have eA : s3.r.A = x1 := by rw [← hs3.out, ← hq1.out]; rfl
  have eP : hasP s3.r.P 8 = false := by rw [← hs3.out, ← hq1.out]; exact h2
  clear c0 f0
  rw [hx1.out] at g2
  have u2 : decide ((x1 : Int) % 16 > 9) = false := by exact decide_eq_false (by omega)
  have u2b : decide (9 < (x1 : Int) % 16) = false := u2
  replace g2 := Lib.hid g2
  replace h2 := Lib.hid h2
  have c0 := t3.out.look.1.1
  rw [eA] at c0
  have f0 := t3.out.look.2.2 0
  have HG := flag_any 8 8 rfl t3.out (by decide)
  rw [eP] at HG
  clear eP
  clear eA
  have H4 := HG
  replace H4 := Lib.hid H4
  go_wp2_with fail
  with_reducible refine H4.out.mono ?_
  rintro e w4 ⟨rfl, hw4⟩
  rw [hw4]
  clear hw4 w4 H4
  have H5 := tell_any x1 t3.out x1b
  replace H5 := Lib.hid H5
  go_wp2_with fail
  with_reducible refine H5.out.mono ?_
  rintro e w5 ⟨rfl, t5, k5⟩
  have r5 := Ran.set (tellR x1) s3
  have se5 := (show ({ s3 with r := (tellR x1) s3.r } : Ts).l.length ≤ s.l.length + 0 from se3.out)
  generalize hs5 : ({ s3 with r := (tellR x1) s3.r } : Ts) = s5 at r5 t5 se5
  replace hs5 := Lib.hid hs5
  replace k5 := Lib.hid (k3.out.trans k5)
  replace t5 := Lib.hid t5
  replace r5 := Lib.hid r5
  replace se5 := Lib.hid se5
  clear H5
  have hE : ({ s with r := adjR 0 s.r } : Ts) = s5 := by
    have x1e := hx1.out
    have g2e := g2.out
    rw [← x1e] at g2e
    have h2e := h2.out
    rw [← hs5.out, ← hs3.out, ← hs2.out]
    try dsimp only
    rw [← x1e]
    have q1 : (hasP s.r.P 1 || decide (153 < s.r.A)) = true := by rw [h1]; rfl
    have q2 : (hasP (flagP s.r.P 1 true) 8 || decide (9 < ((s.r.A + 96) % 256) % 16)) = false := by rw [h2e, decide_eq_false g2e]; rfl
    have e1 : adjA 0 s.r = { s.r with A := (s.r.A + 96) % 256, P := flagP s.r.P 1 true } := by unfold adjA; simp only [q1]; rfl
    have e2 : adjB 0 ({ s.r with A := (s.r.A + 96) % 256, P := flagP s.r.P 1 true }) = { s.r with A := (s.r.A + 96) % 256, P := flagP s.r.P 1 true } := by unfold adjB; simp only [q2]; rfl
    have e3 : adjR 0 s.r = tellR (adjB 0 (adjA 0 s.r)).A (adjB 0 (adjA 0 s.r)) := rfl
    rw [e3, e1, e2]
    all_goals rfl
  have hR := Ran.set (adjR 0) s
  rw [hE] at hR
  have hf := Lib.hid (F.out (.returned (unitV ())) _ (Post.done hR t5.out k5.out trivial (by have := se5.out; omega)))
  unfold unitV at hf
  clear F
  go_wp2_with fail
  first | exact hf.out | (go_end0; exact hf.out) | (go_ret; exact hf.out)
theorem adjustSum_big_flag_any (h : Tk K z s w) (h1 : hasP s.r.P 1 = false) (g1 : 153 < s.r.A) (h2 : hasP (flagP s.r.P 1 true) 8 = true) (hl : s.l.length ≤ 80) :
    Calls Tryz.prog 143 #[.pointer (some ⟨K.b, 0, none⟩)] w (Post K z s w (M.set (adjR 0)) unitV (fun _ => True) 12) := by
  obtain ⟨Q, hQ, F⟩ := post_name (Post K z s w (M.set (adjR 0)) unitV (fun _ => True) 12)
  rw [hQ]
  clear hQ
  replace F := Lib.hid F
  have t0 := Lib.hid h
  have k0 := Lib.hid (Kp.refl K w)
  have hl0 := Lib.hid hl
  have se0 := Lib.hid (show s.l.length ≤ s.l.length + 0 from Nat.le_refl _)
  clear h hl
  go_enter Tryz.func143, Tryz.ntmps143
  have hA0 := Lib.hid t0.out.ok.A
  have HF := flag_any 1 1 rfl t0.out (by decide)
  rw [h1] at HF
  have c0 := t0.out.look.1.1
  have f0 := t0.out.look.2.2 0
  have u1 : decide ((s.r.A : Int) > 153) = true := by exact decide_eq_true (by omega)
  have u1b : decide (153 < (s.r.A : Int)) = true := u1
  replace g1 := Lib.hid g1
  obtain ⟨x1, hx1, x1b, x1w⟩ : ∃ x : Nat, (s.r.A + 96) % 256 = x ∧ x < 256 ∧ IntKind.u8.wrap ((s.r.A : Int) + 96) = (x : Int) := ⟨_, rfl, Nat.mod_lt _ (by decide), (by simp only [IntKind.wrap_u8]; omega)⟩
  replace hx1 := Lib.hid hx1
  have x1z : ((s.r.A : Int) + 96) % 256 = (x1 : Int) := by have := hx1.out; omega
  have H1 := HF
  replace H1 := Lib.hid H1
  go_wp2_with fail
  with_reducible refine H1.out.mono ?_
  rintro e w1 ⟨rfl, hw1⟩
  rw [hw1]
  clear hw1 w1 H1
  have t2 := t0.out.toA x1 x1b
  have r2 := Ran.set (fun r => { r with A := x1 }) s
  have se2 := (show ({ s with r := { s.r with A := x1 } } : Ts).l.length ≤ s.l.length + 0 from se0.out)
  generalize hs2 : ({ s with r := { s.r with A := x1 } } : Ts) = s2 at r2 t2 se2
  have k2 := Lib.hid (k0.out.set 0 (.int .u8 (x1 : Nat)))
  replace hs2 := Lib.hid hs2
  replace t2 := Lib.hid t2
  replace r2 := Lib.hid r2
  replace se2 := Lib.hid se2
  have hq1 := hs2
  have H3 := put_any 1 1 rfl true t2.out (by decide)
  replace H3 := Lib.hid H3
  go_wp2_with fail
  with_reducible refine H3.out.mono ?_
  rintro e w3 ⟨rfl, t3, k3⟩
  have r3 := Ran.set (putR 1 true) s2
  have se3 := (show ({ s2 with r := (putR 1 true) s2.r } : Ts).l.length ≤ s.l.length + 0 from se2.out)
  generalize hs3 : ({ s2 with r := (putR 1 true) s2.r } : Ts) = s3 at r3 t3 se3
  replace hs3 := Lib.hid hs3
  replace k3 := Lib.hid (k2.out.trans k3)
  replace t3 := Lib.hid t3
  replace r3 := Lib.hid r3
  replace se3 := Lib.hid se3
  clear H3
  have eA : s3.r.A = x1 := by rw [← hs3.out, ← hq1.out]; rfl
  have eP : hasP s3.r.P 8 = true := by rw [← hs3.out, ← hq1.out]; exact h2
  clear c0 f0
  replace h2 := Lib.hid h2
  have c0 := t3.out.look.1.1
  rw [eA] at c0
  have f0 := t3.out.look.2.2 0
  have HG := flag_any 8 8 rfl t3.out (by decide)
  rw [eP] at HG
  clear eP
  clear eA
  obtain ⟨x2, hx2, x2b, x2w⟩ : ∃ x : Nat, (x1 + 6) % 256 = x ∧ x < 256 ∧ IntKind.u8.wrap ((x1 : Int) + 6) = (x : Int) := ⟨_, rfl, Nat.mod_lt _ (by decide), (by simp only [IntKind.wrap_u8]; omega)⟩
  replace hx2 := Lib.hid hx2
  have x2z : ((x1 : Int) + 6) % 256 = (x2 : Int) := by have := hx2.out; omega
  have H4 := HG
  replace H4 := Lib.hid H4
  go_wp2_with fail
  with_reducible refine H4.out.mono ?_
  rintro e w4 ⟨rfl, hw4⟩
  rw [hw4]
  clear hw4 w4 H4
  have t5 := t3.out.toA x2 x2b
  have r5 := Ran.set (fun r => { r with A := x2 }) s3
  have se5 := (show ({ s3 with r := { s3.r with A := x2 } } : Ts).l.length ≤ s.l.length + 0 from se3.out)
  generalize hs5 : ({ s3 with r := { s3.r with A := x2 } } : Ts) = s5 at r5 t5 se5
  have k5 := Lib.hid (k3.out.set 0 (.int .u8 (x2 : Nat)))
  replace hs5 := Lib.hid hs5
  replace t5 := Lib.hid t5
  replace r5 := Lib.hid r5
  replace se5 := Lib.hid se5
  have hq2 := hs5
  have H6 := tell_any x2 t5.out x2b
  replace H6 := Lib.hid H6
  go_wp2_with fail
  with_reducible refine H6.out.mono ?_
  rintro e w6 ⟨rfl, t6, k6⟩
  have r6 := Ran.set (tellR x2) s5
  have se6 := (show ({ s5 with r := (tellR x2) s5.r } : Ts).l.length ≤ s.l.length + 0 from se5.out)
  generalize hs6 : ({ s5 with r := (tellR x2) s5.r } : Ts) = s6 at r6 t6 se6
  replace hs6 := Lib.hid hs6
  replace k6 := Lib.hid (k5.out.trans k6)
  replace t6 := Lib.hid t6
  replace r6 := Lib.hid r6
  replace se6 := Lib.hid se6
  clear H6
  have hE : ({ s with r := adjR 0 s.r } : Ts) = s6 := by
    have x1e := hx1.out
    have x2e := hx2.out
    have h2e := h2.out
    have g1e := g1.out
    rw [← hs6.out, ← hs5.out, ← hs3.out, ← hs2.out]
    try dsimp only
    rw [← x2e]
    rw [← x1e]
    have q1 : (hasP s.r.P 1 || decide (153 < s.r.A)) = true := by rw [h1, decide_eq_true g1e]; rfl
    have q2 : (hasP (flagP s.r.P 1 true) 8 || decide (9 < ((s.r.A + 96) % 256) % 16)) = true := by rw [h2e]; rfl
    have e1 : adjA 0 s.r = { s.r with A := (s.r.A + 96) % 256, P := flagP s.r.P 1 true } := by unfold adjA; simp only [q1]; rfl
    have e2 : adjB 0 ({ s.r with A := (s.r.A + 96) % 256, P := flagP s.r.P 1 true }) = { s.r with A := ((s.r.A + 96) % 256 + 6) % 256, P := flagP s.r.P 1 true } := by unfold adjB; simp only [q2]; rfl
    have e3 : adjR 0 s.r = tellR (adjB 0 (adjA 0 s.r)).A (adjB 0 (adjA 0 s.r)) := rfl
    rw [e3, e1, e2]
    all_goals rfl
  have hR := Ran.set (adjR 0) s
  rw [hE] at hR
  have hf := Lib.hid (F.out (.returned (unitV ())) _ (Post.done hR t6.out k6.out trivial (by have := se6.out; omega)))
  unfold unitV at hf
  clear F
  go_wp2_with fail
  first | exact hf.out | (go_end0; exact hf.out) | (go_ret; exact hf.out)
theorem adjustSum_big_big_any (h : Tk K z s w) (h1 : hasP s.r.P 1 = false) (g1 : 153 < s.r.A) (h2 : hasP (flagP s.r.P 1 true) 8 = false) (g2 : 9 < ((s.r.A + 96) % 256) % 16) (hl : s.l.length ≤ 80) :
    Calls Tryz.prog 143 #[.pointer (some ⟨K.b, 0, none⟩)] w (Post K z s w (M.set (adjR 0)) unitV (fun _ => True) 12) := by
  obtain ⟨Q, hQ, F⟩ := post_name (Post K z s w (M.set (adjR 0)) unitV (fun _ => True) 12)
  rw [hQ]
  clear hQ
  replace F := Lib.hid F
  have t0 := Lib.hid h
  have k0 := Lib.hid (Kp.refl K w)
  have hl0 := Lib.hid hl
  have se0 := Lib.hid (show s.l.length ≤ s.l.length + 0 from Nat.le_refl _)
  clear h hl
  go_enter Tryz.func143, Tryz.ntmps143
  have hA0 := Lib.hid t0.out.ok.A
  have HF := flag_any 1 1 rfl t0.out (by decide)
  rw [h1] at HF
  have c0 := t0.out.look.1.1
  have f0 := t0.out.look.2.2 0
  have u1 : decide ((s.r.A : Int) > 153) = true := by exact decide_eq_true (by omega)
  have u1b : decide (153 < (s.r.A : Int)) = true := u1
  replace g1 := Lib.hid g1
  obtain ⟨x1, hx1, x1b, x1w⟩ : ∃ x : Nat, (s.r.A + 96) % 256 = x ∧ x < 256 ∧ IntKind.u8.wrap ((s.r.A : Int) + 96) = (x : Int) := ⟨_, rfl, Nat.mod_lt _ (by decide), (by simp only [IntKind.wrap_u8]; omega)⟩
  replace hx1 := Lib.hid hx1
  have x1z : ((s.r.A : Int) + 96) % 256 = (x1 : Int) := by have := hx1.out; omega
  have H1 := HF
  replace H1 := Lib.hid H1
  go_wp2_with fail
  with_reducible refine H1.out.mono ?_
  rintro e w1 ⟨rfl, hw1⟩
  rw [hw1]
  clear hw1 w1 H1
  have t2 := t0.out.toA x1 x1b
  have r2 := Ran.set (fun r => { r with A := x1 }) s
  have se2 := (show ({ s with r := { s.r with A := x1 } } : Ts).l.length ≤ s.l.length + 0 from se0.out)
  generalize hs2 : ({ s with r := { s.r with A := x1 } } : Ts) = s2 at r2 t2 se2
  have k2 := Lib.hid (k0.out.set 0 (.int .u8 (x1 : Nat)))
  replace hs2 := Lib.hid hs2
  replace t2 := Lib.hid t2
  replace r2 := Lib.hid r2
  replace se2 := Lib.hid se2
  have hq1 := hs2
  have H3 := put_any 1 1 rfl true t2.out (by decide)
  replace H3 := Lib.hid H3
  go_wp2_with fail
  with_reducible refine H3.out.mono ?_
  rintro e w3 ⟨rfl, t3, k3⟩
  have r3 := Ran.set (putR 1 true) s2
  have se3 := (show ({ s2 with r := (putR 1 true) s2.r } : Ts).l.length ≤ s.l.length + 0 from se2.out)
  generalize hs3 : ({ s2 with r := (putR 1 true) s2.r } : Ts) = s3 at r3 t3 se3
  replace hs3 := Lib.hid hs3
  replace k3 := Lib.hid (k2.out.trans k3)
  replace t3 := Lib.hid t3
  replace r3 := Lib.hid r3
  replace se3 := Lib.hid se3
  clear H3
  have eA : s3.r.A = x1 := by rw [← hs3.out, ← hq1.out]; rfl
  have eP : hasP s3.r.P 8 = false := by rw [← hs3.out, ← hq1.out]; exact h2
  clear c0 f0
  rw [hx1.out] at g2
  have u2 : decide ((x1 : Int) % 16 > 9) = true := by exact decide_eq_true (by omega)
  have u2b : decide (9 < (x1 : Int) % 16) = true := u2
  replace g2 := Lib.hid g2
  replace h2 := Lib.hid h2
  have c0 := t3.out.look.1.1
  rw [eA] at c0
  have f0 := t3.out.look.2.2 0
  have HG := flag_any 8 8 rfl t3.out (by decide)
  rw [eP] at HG
  clear eP
  clear eA
  obtain ⟨x2, hx2, x2b, x2w⟩ : ∃ x : Nat, (x1 + 6) % 256 = x ∧ x < 256 ∧ IntKind.u8.wrap ((x1 : Int) + 6) = (x : Int) := ⟨_, rfl, Nat.mod_lt _ (by decide), (by simp only [IntKind.wrap_u8]; omega)⟩
  replace hx2 := Lib.hid hx2
  have x2z : ((x1 : Int) + 6) % 256 = (x2 : Int) := by have := hx2.out; omega
  have H4 := HG
  replace H4 := Lib.hid H4
  go_wp2_with fail
  with_reducible refine H4.out.mono ?_
  rintro e w4 ⟨rfl, hw4⟩
  rw [hw4]
  clear hw4 w4 H4
  have t5 := t3.out.toA x2 x2b
  have r5 := Ran.set (fun r => { r with A := x2 }) s3
  have se5 := (show ({ s3 with r := { s3.r with A := x2 } } : Ts).l.length ≤ s.l.length + 0 from se3.out)
  generalize hs5 : ({ s3 with r := { s3.r with A := x2 } } : Ts) = s5 at r5 t5 se5
  have k5 := Lib.hid (k3.out.set 0 (.int .u8 (x2 : Nat)))
  replace hs5 := Lib.hid hs5
  replace t5 := Lib.hid t5
  replace r5 := Lib.hid r5
  replace se5 := Lib.hid se5
  have hq2 := hs5
  have H6 := tell_any x2 t5.out x2b
  replace H6 := Lib.hid H6
  go_wp2_with fail
  with_reducible refine H6.out.mono ?_
  rintro e w6 ⟨rfl, t6, k6⟩
  have r6 := Ran.set (tellR x2) s5
  have se6 := (show ({ s5 with r := (tellR x2) s5.r } : Ts).l.length ≤ s.l.length + 0 from se5.out)
  generalize hs6 : ({ s5 with r := (tellR x2) s5.r } : Ts) = s6 at r6 t6 se6
  replace hs6 := Lib.hid hs6
  replace k6 := Lib.hid (k5.out.trans k6)
  replace t6 := Lib.hid t6
  replace r6 := Lib.hid r6
  replace se6 := Lib.hid se6
  clear H6
  have hE : ({ s with r := adjR 0 s.r } : Ts) = s6 := by
    have x1e := hx1.out
    have x2e := hx2.out
    have g2e := g2.out
    rw [← x1e] at g2e
    have h2e := h2.out
    have g1e := g1.out
    rw [← hs6.out, ← hs5.out, ← hs3.out, ← hs2.out]
    try dsimp only
    rw [← x2e]
    rw [← x1e]
    have q1 : (hasP s.r.P 1 || decide (153 < s.r.A)) = true := by rw [h1, decide_eq_true g1e]; rfl
    have q2 : (hasP (flagP s.r.P 1 true) 8 || decide (9 < ((s.r.A + 96) % 256) % 16)) = true := by rw [h2e, decide_eq_true g2e]; rfl
    have e1 : adjA 0 s.r = { s.r with A := (s.r.A + 96) % 256, P := flagP s.r.P 1 true } := by unfold adjA; simp only [q1]; rfl
    have e2 : adjB 0 ({ s.r with A := (s.r.A + 96) % 256, P := flagP s.r.P 1 true }) = { s.r with A := ((s.r.A + 96) % 256 + 6) % 256, P := flagP s.r.P 1 true } := by unfold adjB; simp only [q2]; rfl
    have e3 : adjR 0 s.r = tellR (adjB 0 (adjA 0 s.r)).A (adjB 0 (adjA 0 s.r)) := rfl
    rw [e3, e1, e2]
    all_goals rfl
  have hR := Ran.set (adjR 0) s
  rw [hE] at hR
  have hf := Lib.hid (F.out (.returned (unitV ())) _ (Post.done hR t6.out k6.out trivial (by have := se6.out; omega)))
  unfold unitV at hf
  clear F
  go_wp2_with fail
  first | exact hf.out | (go_end0; exact hf.out) | (go_ret; exact hf.out)
theorem adjustSum_big_no_any (h : Tk K z s w) (h1 : hasP s.r.P 1 = false) (g1 : 153 < s.r.A) (h2 : hasP (flagP s.r.P 1 true) 8 = false) (g2 : ¬ 9 < ((s.r.A + 96) % 256) % 16) (hl : s.l.length ≤ 80) :
    Calls Tryz.prog 143 #[.pointer (some ⟨K.b, 0, none⟩)] w (Post K z s w (M.set (adjR 0)) unitV (fun _ => True) 12) := by
  obtain ⟨Q, hQ, F⟩ := post_name (Post K z s w (M.set (adjR 0)) unitV (fun _ => True) 12)
  rw [hQ]
  clear hQ
  replace F := Lib.hid F
  have t0 := Lib.hid h
  have k0 := Lib.hid (Kp.refl K w)
  have hl0 := Lib.hid hl
  have se0 := Lib.hid (show s.l.length ≤ s.l.length + 0 from Nat.le_refl _)
  clear h hl
  go_enter Tryz.func143, Tryz.ntmps143
  have hA0 := Lib.hid t0.out.ok.A
  have HF := flag_any 1 1 rfl t0.out (by decide)
  rw [h1] at HF
  have c0 := t0.out.look.1.1
  have f0 := t0.out.look.2.2 0
  have u1 : decide ((s.r.A : Int) > 153) = true := by exact decide_eq_true (by omega)
  have u1b : decide (153 < (s.r.A : Int)) = true := u1
  replace g1 := Lib.hid g1
  obtain ⟨x1, hx1, x1b, x1w⟩ : ∃ x : Nat, (s.r.A + 96) % 256 = x ∧ x < 256 ∧ IntKind.u8.wrap ((s.r.A : Int) + 96) = (x : Int) := ⟨_, rfl, Nat.mod_lt _ (by decide), (by simp only [IntKind.wrap_u8]; omega)⟩
  replace hx1 := Lib.hid hx1
  have x1z : ((s.r.A : Int) + 96) % 256 = (x1 : Int) := by have := hx1.out; omega
  have H1 := HF
  replace H1 := Lib.hid H1
  go_wp2_with fail
  with_reducible refine H1.out.mono ?_
  rintro e w1 ⟨rfl, hw1⟩
  rw [hw1]
  clear hw1 w1 H1
  have t2 := t0.out.toA x1 x1b
  have r2 := Ran.set (fun r => { r with A := x1 }) s
  have se2 := (show ({ s with r := { s.r with A := x1 } } : Ts).l.length ≤ s.l.length + 0 from se0.out)
  generalize hs2 : ({ s with r := { s.r with A := x1 } } : Ts) = s2 at r2 t2 se2
  have k2 := Lib.hid (k0.out.set 0 (.int .u8 (x1 : Nat)))
  replace hs2 := Lib.hid hs2
  replace t2 := Lib.hid t2
  replace r2 := Lib.hid r2
  replace se2 := Lib.hid se2
  have hq1 := hs2
  have H3 := put_any 1 1 rfl true t2.out (by decide)
  replace H3 := Lib.hid H3
  go_wp2_with fail
  with_reducible refine H3.out.mono ?_
  rintro e w3 ⟨rfl, t3, k3⟩
  have r3 := Ran.set (putR 1 true) s2
  have se3 := (show ({ s2 with r := (putR 1 true) s2.r } : Ts).l.length ≤ s.l.length + 0 from se2.out)
  generalize hs3 : ({ s2 with r := (putR 1 true) s2.r } : Ts) = s3 at r3 t3 se3
  replace hs3 := Lib.hid hs3
  replace k3 := Lib.hid (k2.out.trans k3)
  replace t3 := Lib.hid t3
  replace r3 := Lib.hid r3
  replace se3 := Lib.hid se3
  clear H3
  have eA : s3.r.A = x1 := by rw [← hs3.out, ← hq1.out]; rfl
  have eP : hasP s3.r.P 8 = false := by rw [← hs3.out, ← hq1.out]; exact h2
  clear c0 f0
  rw [hx1.out] at g2
  have u2 : decide ((x1 : Int) % 16 > 9) = false := by exact decide_eq_false (by omega)
  have u2b : decide (9 < (x1 : Int) % 16) = false := u2
  replace g2 := Lib.hid g2
  replace h2 := Lib.hid h2
  have c0 := t3.out.look.1.1
  rw [eA] at c0
  have f0 := t3.out.look.2.2 0
  have HG := flag_any 8 8 rfl t3.out (by decide)
  rw [eP] at HG
  clear eP
  clear eA
  have H4 := HG
  replace H4 := Lib.hid H4
  go_wp2_with fail
  with_reducible refine H4.out.mono ?_
  rintro e w4 ⟨rfl, hw4⟩
  rw [hw4]
  clear hw4 w4 H4
  have H5 := tell_any x1 t3.out x1b
  replace H5 := Lib.hid H5
  go_wp2_with fail
  with_reducible refine H5.out.mono ?_
  rintro e w5 ⟨rfl, t5, k5⟩
  have r5 := Ran.set (tellR x1) s3
  have se5 := (show ({ s3 with r := (tellR x1) s3.r } : Ts).l.length ≤ s.l.length + 0 from se3.out)
  generalize hs5 : ({ s3 with r := (tellR x1) s3.r } : Ts) = s5 at r5 t5 se5
  replace hs5 := Lib.hid hs5
  replace k5 := Lib.hid (k3.out.trans k5)
  replace t5 := Lib.hid t5
  replace r5 := Lib.hid r5
  replace se5 := Lib.hid se5
  clear H5
  have hE : ({ s with r := adjR 0 s.r } : Ts) = s5 := by
    have x1e := hx1.out
    have g2e := g2.out
    rw [← x1e] at g2e
    have h2e := h2.out
    have g1e := g1.out
    rw [← hs5.out, ← hs3.out, ← hs2.out]
    try dsimp only
    rw [← x1e]
    have q1 : (hasP s.r.P 1 || decide (153 < s.r.A)) = true := by rw [h1, decide_eq_true g1e]; rfl
    have q2 : (hasP (flagP s.r.P 1 true) 8 || decide (9 < ((s.r.A + 96) % 256) % 16)) = false := by rw [h2e, decide_eq_false g2e]; rfl
    have e1 : adjA 0 s.r = { s.r with A := (s.r.A + 96) % 256, P := flagP s.r.P 1 true } := by unfold adjA; simp only [q1]; rfl
    have e2 : adjB 0 ({ s.r with A := (s.r.A + 96) % 256, P := flagP s.r.P 1 true }) = { s.r with A := (s.r.A + 96) % 256, P := flagP s.r.P 1 true } := by unfold adjB; simp only [q2]; rfl
    have e3 : adjR 0 s.r = tellR (adjB 0 (adjA 0 s.r)).A (adjB 0 (adjA 0 s.r)) := rfl
    rw [e3, e1, e2]
    all_goals rfl
  have hR := Ran.set (adjR 0) s
  rw [hE] at hR
  have hf := Lib.hid (F.out (.returned (unitV ())) _ (Post.done hR t5.out k5.out trivial (by have := se5.out; omega)))
  unfold unitV at hf
  clear F
  go_wp2_with fail
  first | exact hf.out | (go_end0; exact hf.out) | (go_ret; exact hf.out)
theorem adjustSum_no_flag_any (h : Tk K z s w) (h1 : hasP s.r.P 1 = false) (g1 : ¬ 153 < s.r.A) (h2 : hasP (s.r.P) 8 = true) (hl : s.l.length ≤ 80) :
    Calls Tryz.prog 143 #[.pointer (some ⟨K.b, 0, none⟩)] w (Post K z s w (M.set (adjR 0)) unitV (fun _ => True) 12) := by
  obtain ⟨Q, hQ, F⟩ := post_name (Post K z s w (M.set (adjR 0)) unitV (fun _ => True) 12)
  rw [hQ]
  clear hQ
  replace F := Lib.hid F
  have t0 := Lib.hid h
  have k0 := Lib.hid (Kp.refl K w)
  have hl0 := Lib.hid hl
  have se0 := Lib.hid (show s.l.length ≤ s.l.length + 0 from Nat.le_refl _)
  clear h hl
  go_enter Tryz.func143, Tryz.ntmps143
  have hA0 := Lib.hid t0.out.ok.A
  have HF := flag_any 1 1 rfl t0.out (by decide)
  rw [h1] at HF
  have c0 := t0.out.look.1.1
  have f0 := t0.out.look.2.2 0
  have u1 : decide ((s.r.A : Int) > 153) = false := by exact decide_eq_false (by omega)
  have u1b : decide (153 < (s.r.A : Int)) = false := u1
  replace g1 := Lib.hid g1
  obtain ⟨x1, hx1, x1b⟩ : ∃ x : Nat, s.r.A = x ∧ x < 256 := ⟨_, rfl, hA0.out⟩
  replace hx1 := Lib.hid hx1
  have H1 := HF
  replace H1 := Lib.hid H1
  go_wp2_with fail
  with_reducible refine H1.out.mono ?_
  rintro e w1 ⟨rfl, hw1⟩
  rw [hw1]
  clear hw1 w1 H1
  rw [hx1.out] at u1 u1b
  have eA : s.r.A = x1 := hx1.out
  have eP : hasP s.r.P 8 = true := h2
  clear c0 f0
  replace h2 := Lib.hid h2
  have c0 := t0.out.look.1.1
  rw [eA] at c0
  have f0 := t0.out.look.2.2 0
  have HG := flag_any 8 8 rfl t0.out (by decide)
  rw [eP] at HG
  clear eP
  replace eA := Lib.hid eA
  obtain ⟨x2, hx2, x2b, x2w⟩ : ∃ x : Nat, (x1 + 6) % 256 = x ∧ x < 256 ∧ IntKind.u8.wrap ((x1 : Int) + 6) = (x : Int) := ⟨_, rfl, Nat.mod_lt _ (by decide), (by simp only [IntKind.wrap_u8]; omega)⟩
  replace hx2 := Lib.hid hx2
  have x2z : ((x1 : Int) + 6) % 256 = (x2 : Int) := by have := hx2.out; omega
  have H2 := HG
  replace H2 := Lib.hid H2
  go_wp2_with fail
  with_reducible refine H2.out.mono ?_
  rintro e w2 ⟨rfl, hw2⟩
  rw [hw2]
  clear hw2 w2 H2
  have t3 := t0.out.toA x2 x2b
  have r3 := Ran.set (fun r => { r with A := x2 }) s
  have se3 := (show ({ s with r := { s.r with A := x2 } } : Ts).l.length ≤ s.l.length + 0 from se0.out)
  generalize hs3 : ({ s with r := { s.r with A := x2 } } : Ts) = s3 at r3 t3 se3
  have k3 := Lib.hid (k0.out.set 0 (.int .u8 (x2 : Nat)))
  replace hs3 := Lib.hid hs3
  replace t3 := Lib.hid t3
  replace r3 := Lib.hid r3
  replace se3 := Lib.hid se3
  have hq2 := hs3
  have H4 := tell_any x2 t3.out x2b
  replace H4 := Lib.hid H4
  go_wp2_with fail
  with_reducible refine H4.out.mono ?_
  rintro e w4 ⟨rfl, t4, k4⟩
  have r4 := Ran.set (tellR x2) s3
  have se4 := (show ({ s3 with r := (tellR x2) s3.r } : Ts).l.length ≤ s.l.length + 0 from se3.out)
  generalize hs4 : ({ s3 with r := (tellR x2) s3.r } : Ts) = s4 at r4 t4 se4
  replace hs4 := Lib.hid hs4
  replace k4 := Lib.hid (k3.out.trans k4)
  replace t4 := Lib.hid t4
  replace r4 := Lib.hid r4
  replace se4 := Lib.hid se4
  clear H4
  have hE : ({ s with r := adjR 0 s.r } : Ts) = s4 := by
    have x1e := hx1.out
    have x2e := hx2.out
    have h2e := h2.out
    have g1e := g1.out
    rw [← hs4.out, ← hs3.out]
    try dsimp only
    rw [← x2e]
    rw [← x1e]
    have q1 : (hasP s.r.P 1 || decide (153 < s.r.A)) = false := by rw [h1, decide_eq_false g1e]; rfl
    have q2 : (hasP (s.r.P) 8 || decide (9 < s.r.A % 16)) = true := by rw [h2e]; rfl
    have e1 : adjA 0 s.r = s.r := by unfold adjA; simp only [q1]; rfl
    have e2 : adjB 0 (s.r) = { s.r with A := (s.r.A + 6) % 256, P := s.r.P } := by unfold adjB; simp only [q2]; rfl
    have e3 : adjR 0 s.r = tellR (adjB 0 (adjA 0 s.r)).A (adjB 0 (adjA 0 s.r)) := rfl
    rw [e3, e1, e2]
    all_goals rfl
  have hR := Ran.set (adjR 0) s
  rw [hE] at hR
  have hf := Lib.hid (F.out (.returned (unitV ())) _ (Post.done hR t4.out k4.out trivial (by have := se4.out; omega)))
  unfold unitV at hf
  clear F
  go_wp2_with fail
  first | exact hf.out | (go_end0; exact hf.out) | (go_ret; exact hf.out)
theorem adjustSum_no_big_any (h : Tk K z s w) (h1 : hasP s.r.P 1 = false) (g1 : ¬ 153 < s.r.A) (h2 : hasP (s.r.P) 8 = false) (g2 : 9 < s.r.A % 16) (hl : s.l.length ≤ 80) :
    Calls Tryz.prog 143 #[.pointer (some ⟨K.b, 0, none⟩)] w (Post K z s w (M.set (adjR 0)) unitV (fun _ => True) 12) := by
  obtain ⟨Q, hQ, F⟩ := post_name (Post K z s w (M.set (adjR 0)) unitV (fun _ => True) 12)
  rw [hQ]
  clear hQ
  replace F := Lib.hid F
  have t0 := Lib.hid h
  have k0 := Lib.hid (Kp.refl K w)
  have hl0 := Lib.hid hl
  have se0 := Lib.hid (show s.l.length ≤ s.l.length + 0 from Nat.le_refl _)
  clear h hl
  go_enter Tryz.func143, Tryz.ntmps143
  have hA0 := Lib.hid t0.out.ok.A
  have HF := flag_any 1 1 rfl t0.out (by decide)
  rw [h1] at HF
  have c0 := t0.out.look.1.1
  have f0 := t0.out.look.2.2 0
  have u1 : decide ((s.r.A : Int) > 153) = false := by exact decide_eq_false (by omega)
  have u1b : decide (153 < (s.r.A : Int)) = false := u1
  replace g1 := Lib.hid g1
  obtain ⟨x1, hx1, x1b⟩ : ∃ x : Nat, s.r.A = x ∧ x < 256 := ⟨_, rfl, hA0.out⟩
  replace hx1 := Lib.hid hx1
  have H1 := HF
  replace H1 := Lib.hid H1
  go_wp2_with fail
  with_reducible refine H1.out.mono ?_
  rintro e w1 ⟨rfl, hw1⟩
  rw [hw1]
  clear hw1 w1 H1
  rw [hx1.out] at u1 u1b
  have eA : s.r.A = x1 := hx1.out
  have eP : hasP s.r.P 8 = false := h2
  clear c0 f0
  rw [hx1.out] at g2
  have u2 : decide ((x1 : Int) % 16 > 9) = true := by exact decide_eq_true (by omega)
  have u2b : decide (9 < (x1 : Int) % 16) = true := u2
  replace g2 := Lib.hid g2
  replace h2 := Lib.hid h2
  have c0 := t0.out.look.1.1
  rw [eA] at c0
  have f0 := t0.out.look.2.2 0
  have HG := flag_any 8 8 rfl t0.out (by decide)
  rw [eP] at HG
  clear eP
  replace eA := Lib.hid eA
  obtain ⟨x2, hx2, x2b, x2w⟩ : ∃ x : Nat, (x1 + 6) % 256 = x ∧ x < 256 ∧ IntKind.u8.wrap ((x1 : Int) + 6) = (x : Int) := ⟨_, rfl, Nat.mod_lt _ (by decide), (by simp only [IntKind.wrap_u8]; omega)⟩
  replace hx2 := Lib.hid hx2
  have x2z : ((x1 : Int) + 6) % 256 = (x2 : Int) := by have := hx2.out; omega
  have H2 := HG
  replace H2 := Lib.hid H2
  go_wp2_with fail
  with_reducible refine H2.out.mono ?_
  rintro e w2 ⟨rfl, hw2⟩
  rw [hw2]
  clear hw2 w2 H2
  have t3 := t0.out.toA x2 x2b
  have r3 := Ran.set (fun r => { r with A := x2 }) s
  have se3 := (show ({ s with r := { s.r with A := x2 } } : Ts).l.length ≤ s.l.length + 0 from se0.out)
  generalize hs3 : ({ s with r := { s.r with A := x2 } } : Ts) = s3 at r3 t3 se3
  have k3 := Lib.hid (k0.out.set 0 (.int .u8 (x2 : Nat)))
  replace hs3 := Lib.hid hs3
  replace t3 := Lib.hid t3
  replace r3 := Lib.hid r3
  replace se3 := Lib.hid se3
  have hq2 := hs3
  have H4 := tell_any x2 t3.out x2b
  replace H4 := Lib.hid H4
  go_wp2_with fail
  with_reducible refine H4.out.mono ?_
  rintro e w4 ⟨rfl, t4, k4⟩
  have r4 := Ran.set (tellR x2) s3
  have se4 := (show ({ s3 with r := (tellR x2) s3.r } : Ts).l.length ≤ s.l.length + 0 from se3.out)
  generalize hs4 : ({ s3 with r := (tellR x2) s3.r } : Ts) = s4 at r4 t4 se4
  replace hs4 := Lib.hid hs4
  replace k4 := Lib.hid (k3.out.trans k4)
  replace t4 := Lib.hid t4
  replace r4 := Lib.hid r4
  replace se4 := Lib.hid se4
  clear H4
  have hE : ({ s with r := adjR 0 s.r } : Ts) = s4 := by
    have x1e := hx1.out
    have x2e := hx2.out
    have g2e := g2.out
    rw [← x1e] at g2e
    have h2e := h2.out
    have g1e := g1.out
    rw [← hs4.out, ← hs3.out]
    try dsimp only
    rw [← x2e]
    rw [← x1e]
    have q1 : (hasP s.r.P 1 || decide (153 < s.r.A)) = false := by rw [h1, decide_eq_false g1e]; rfl
    have q2 : (hasP (s.r.P) 8 || decide (9 < s.r.A % 16)) = true := by rw [h2e, decide_eq_true g2e]; rfl
    have e1 : adjA 0 s.r = s.r := by unfold adjA; simp only [q1]; rfl
    have e2 : adjB 0 (s.r) = { s.r with A := (s.r.A + 6) % 256, P := s.r.P } := by unfold adjB; simp only [q2]; rfl
    have e3 : adjR 0 s.r = tellR (adjB 0 (adjA 0 s.r)).A (adjB 0 (adjA 0 s.r)) := rfl
    rw [e3, e1, e2]
    all_goals rfl
  have hR := Ran.set (adjR 0) s
  rw [hE] at hR
  have hf := Lib.hid (F.out (.returned (unitV ())) _ (Post.done hR t4.out k4.out trivial (by have := se4.out; omega)))
  unfold unitV at hf
  clear F
  go_wp2_with fail
  first | exact hf.out | (go_end0; exact hf.out) | (go_ret; exact hf.out)
theorem adjustSum_no_no_any (h : Tk K z s w) (h1 : hasP s.r.P 1 = false) (g1 : ¬ 153 < s.r.A) (h2 : hasP (s.r.P) 8 = false) (g2 : ¬ 9 < s.r.A % 16) (hl : s.l.length ≤ 80) :
    Calls Tryz.prog 143 #[.pointer (some ⟨K.b, 0, none⟩)] w (Post K z s w (M.set (adjR 0)) unitV (fun _ => True) 12) := by
  obtain ⟨Q, hQ, F⟩ := post_name (Post K z s w (M.set (adjR 0)) unitV (fun _ => True) 12)
  rw [hQ]
  clear hQ
  replace F := Lib.hid F
  have t0 := Lib.hid h
  have k0 := Lib.hid (Kp.refl K w)
  have hl0 := Lib.hid hl
  have se0 := Lib.hid (show s.l.length ≤ s.l.length + 0 from Nat.le_refl _)
  clear h hl
  go_enter Tryz.func143, Tryz.ntmps143
  have hA0 := Lib.hid t0.out.ok.A
  have HF := flag_any 1 1 rfl t0.out (by decide)
  rw [h1] at HF
  have c0 := t0.out.look.1.1
  have f0 := t0.out.look.2.2 0
  have u1 : decide ((s.r.A : Int) > 153) = false := by exact decide_eq_false (by omega)
  have u1b : decide (153 < (s.r.A : Int)) = false := u1
  replace g1 := Lib.hid g1
  obtain ⟨x1, hx1, x1b⟩ : ∃ x : Nat, s.r.A = x ∧ x < 256 := ⟨_, rfl, hA0.out⟩
  replace hx1 := Lib.hid hx1
  have H1 := HF
  replace H1 := Lib.hid H1
  go_wp2_with fail
  with_reducible refine H1.out.mono ?_
  rintro e w1 ⟨rfl, hw1⟩
  rw [hw1]
  clear hw1 w1 H1
  rw [hx1.out] at u1 u1b
  have eA : s.r.A = x1 := hx1.out
  have eP : hasP s.r.P 8 = false := h2
  clear c0 f0
  rw [hx1.out] at g2
  have u2 : decide ((x1 : Int) % 16 > 9) = false := by exact decide_eq_false (by omega)
  have u2b : decide (9 < (x1 : Int) % 16) = false := u2
  replace g2 := Lib.hid g2
  replace h2 := Lib.hid h2
  have c0 := t0.out.look.1.1
  rw [eA] at c0
  have f0 := t0.out.look.2.2 0
  have HG := flag_any 8 8 rfl t0.out (by decide)
  rw [eP] at HG
  clear eP
  replace eA := Lib.hid eA
  have H2 := HG
  replace H2 := Lib.hid H2
  go_wp2_with fail
  with_reducible refine H2.out.mono ?_
  rintro e w2 ⟨rfl, hw2⟩
  rw [hw2]
  clear hw2 w2 H2
  have H3 := tell_any x1 t0.out x1b
  replace H3 := Lib.hid H3
  go_wp2_with fail
  with_reducible refine H3.out.mono ?_
  rintro e w3 ⟨rfl, t3, k3⟩
  have r3 := Ran.set (tellR x1) s
  have se3 := (show ({ s with r := (tellR x1) s.r } : Ts).l.length ≤ s.l.length + 0 from se0.out)
  generalize hs3 : ({ s with r := (tellR x1) s.r } : Ts) = s3 at r3 t3 se3
  replace hs3 := Lib.hid hs3
  replace k3 := Lib.hid (k0.out.trans k3)
  replace t3 := Lib.hid t3
  replace r3 := Lib.hid r3
  replace se3 := Lib.hid se3
  clear H3
  have hE : ({ s with r := adjR 0 s.r } : Ts) = s3 := by
    have x1e := hx1.out
    have g2e := g2.out
    rw [← x1e] at g2e
    have h2e := h2.out
    have g1e := g1.out
    rw [← hs3.out]
    try dsimp only
    rw [← x1e]
    have q1 : (hasP s.r.P 1 || decide (153 < s.r.A)) = false := by rw [h1, decide_eq_false g1e]; rfl
    have q2 : (hasP (s.r.P) 8 || decide (9 < s.r.A % 16)) = false := by rw [h2e, decide_eq_false g2e]; rfl
    have e1 : adjA 0 s.r = s.r := by unfold adjA; simp only [q1]; rfl
    have e2 : adjB 0 (s.r) = s.r := by unfold adjB; simp only [q2]; rfl
    have e3 : adjR 0 s.r = tellR (adjB 0 (adjA 0 s.r)).A (adjB 0 (adjA 0 s.r)) := rfl
    rw [e3, e1, e2]
    all_goals rfl
  have hR := Ran.set (adjR 0) s
  rw [hE] at hR
  have hf := Lib.hid (F.out (.returned (unitV ())) _ (Post.done hR t3.out k3.out trivial (by have := se3.out; omega)))
  unfold unitV at hf
  clear F
  go_wp2_with fail
  first | exact hf.out | (go_end0; exact hf.out) | (go_ret; exact hf.out)
theorem adjustSum_any (h : Tk K z s w) (hl : s.l.length ≤ 80) :
    Calls Tryz.prog 143 #[.pointer (some ⟨K.b, 0, none⟩)] w (Post K z s w (M.set (adjR 0)) unitV (fun _ => True) 12) := by
  cases h1 : hasP s.r.P 1
  · by_cases g1 : 153 < s.r.A
    · skip
      cases h2 : hasP (flagP s.r.P 1 true) 8
      · by_cases g2 : 9 < ((s.r.A + 96) % 256) % 16
        · exact adjustSum_big_big_any h h1 g1 h2 g2 hl
        · exact adjustSum_big_no_any h h1 g1 h2 g2 hl
      · exact adjustSum_big_flag_any h h1 g1 h2 hl
    · skip
      cases h2 : hasP s.r.P 8
      · by_cases g2 : 9 < s.r.A % 16
        · exact adjustSum_no_big_any h h1 g1 h2 g2 hl
        · exact adjustSum_no_no_any h h1 g1 h2 g2 hl
      · exact adjustSum_no_flag_any h h1 g1 h2 hl
  · skip
    cases h2 : hasP (flagP s.r.P 1 true) 8
    · by_cases g2 : 9 < ((s.r.A + 96) % 256) % 16
      · exact adjustSum_flag_big_any h h1 h2 g2 hl
      · exact adjustSum_flag_no_any h h1 h2 g2 hl
    · exact adjustSum_flag_flag_any h h1 h2 hl
end
end Go.Proofs.YtknlbmjncginnaaGreatDoor
namespace Go.Proofs.YtknlbmjncginnaaGreatDoor
open Go.RowKit Go.Shelf
set_option maxRecDepth 100000
set_option maxHeartbeats 1000000
set_option linter.unusedVariables false

section
variable {K : Cx} {z : Zs} {s : Ts} {w w' : World} {c cd nd co no : Nat} {nm fm : ByteArray}
theorem adjustDifference_flag_flag_any (h : Tk K z s w) (h1 : hasP s.r.P 1 = false) (h2 : hasP (flagP s.r.P 1 false) 8 = false) (hl : s.l.length ≤ 80) :
    Calls Tryz.prog 144 #[.pointer (some ⟨K.b, 0, none⟩)] w (Post K z s w (M.set (adjR 1)) unitV (fun _ => True) 12) := by
  obtain ⟨Q, hQ, F⟩ := post_name (Post K z s w (M.set (adjR 1)) unitV (fun _ => True) 12)
  rw [hQ]
  clear hQ
  replace F := Lib.hid F
  have t0 := Lib.hid h
  have k0 := Lib.hid (Kp.refl K w)
  have hl0 := Lib.hid hl
  have se0 := Lib.hid (show s.l.length ≤ s.l.length + 0 from Nat.le_refl _)
  clear h hl
  go_enter Tryz.func144, Tryz.ntmps144
  have hA0 := Lib.hid t0.out.ok.A
  have HF := flag_any 1 1 rfl t0.out (by decide)
  rw [h1] at HF
  have c0 := t0.out.look.1.1
  have f0 := t0.out.look.2.2 0
  obtain ⟨x1, hx1, x1b, x1w⟩ : ∃ x : Nat, (s.r.A + 160) % 256 = x ∧ x < 256 ∧ IntKind.u8.wrap ((s.r.A : Int) - 96) = (x : Int) := ⟨_, rfl, Nat.mod_lt _ (by decide), (by simp only [IntKind.wrap_u8]; omega)⟩
  replace hx1 := Lib.hid hx1
  have x1z : ((s.r.A : Int) - 96) % 256 = (x1 : Int) := by have := hx1.out; omega
  have H1 := HF
  replace H1 := Lib.hid H1
  go_wp2_with fail
  with_reducible refine H1.out.mono ?_
  rintro e w1 ⟨rfl, hw1⟩
  rw [hw1]
  clear hw1 w1 H1
  have t2 := t0.out.toA x1 x1b
  have r2 := Ran.set (fun r => { r with A := x1 }) s
  have se2 := (show ({ s with r := { s.r with A := x1 } } : Ts).l.length ≤ s.l.length + 0 from se0.out)
  generalize hs2 : ({ s with r := { s.r with A := x1 } } : Ts) = s2 at r2 t2 se2
  have k2 := Lib.hid (k0.out.set 0 (.int .u8 (x1 : Nat)))
  replace hs2 := Lib.hid hs2
  replace t2 := Lib.hid t2
  replace r2 := Lib.hid r2
  replace se2 := Lib.hid se2
  have hq1 := hs2
  have H3 := put_any 1 1 rfl false t2.out (by decide)
  replace H3 := Lib.hid H3
  go_wp2_with fail
  with_reducible refine H3.out.mono ?_
  rintro e w3 ⟨rfl, t3, k3⟩
  have r3 := Ran.set (putR 1 false) s2
  have se3 := (show ({ s2 with r := (putR 1 false) s2.r } : Ts).l.length ≤ s.l.length + 0 from se2.out)
  generalize hs3 : ({ s2 with r := (putR 1 false) s2.r } : Ts) = s3 at r3 t3 se3
  replace hs3 := Lib.hid hs3
  replace k3 := Lib.hid (k2.out.trans k3)
  replace t3 := Lib.hid t3
  replace r3 := Lib.hid r3
  replace se3 := Lib.hid se3
  clear H3
  have eA : s3.r.A = x1 := by rw [← hs3.out, ← hq1.out]; rfl
  have eP : hasP s3.r.P 8 = false := by rw [← hs3.out, ← hq1.out]; exact h2
  clear c0 f0
  replace h2 := Lib.hid h2
  have c0 := t3.out.look.1.1
  rw [eA] at c0
  have f0 := t3.out.look.2.2 0
  have HG := flag_any 8 8 rfl t3.out (by decide)
  rw [eP] at HG
  clear eP
  clear eA
  obtain ⟨x2, hx2, x2b, x2w⟩ : ∃ x : Nat, (x1 + 250) % 256 = x ∧ x < 256 ∧ IntKind.u8.wrap ((x1 : Int) - 6) = (x : Int) := ⟨_, rfl, Nat.mod_lt _ (by decide), (by simp only [IntKind.wrap_u8]; omega)⟩
  replace hx2 := Lib.hid hx2
  have x2z : ((x1 : Int) - 6) % 256 = (x2 : Int) := by have := hx2.out; omega
  have H4 := HG
  replace H4 := Lib.hid H4
  go_wp2_with fail
  with_reducible refine H4.out.mono ?_
  rintro e w4 ⟨rfl, hw4⟩
  rw [hw4]
  clear hw4 w4 H4
  have t5 := t3.out.toA x2 x2b
  have r5 := Ran.set (fun r => { r with A := x2 }) s3
  have se5 := (show ({ s3 with r := { s3.r with A := x2 } } : Ts).l.length ≤ s.l.length + 0 from se3.out)
  generalize hs5 : ({ s3 with r := { s3.r with A := x2 } } : Ts) = s5 at r5 t5 se5
  have k5 := Lib.hid (k3.out.set 0 (.int .u8 (x2 : Nat)))
  replace hs5 := Lib.hid hs5
  replace t5 := Lib.hid t5
  replace r5 := Lib.hid r5
  replace se5 := Lib.hid se5
  have hq2 := hs5
  have H6 := tell_any x2 t5.out x2b
  replace H6 := Lib.hid H6
  go_wp2_with fail
  with_reducible refine H6.out.mono ?_
  rintro e w6 ⟨rfl, t6, k6⟩
  have r6 := Ran.set (tellR x2) s5
  have se6 := (show ({ s5 with r := (tellR x2) s5.r } : Ts).l.length ≤ s.l.length + 0 from se5.out)
  generalize hs6 : ({ s5 with r := (tellR x2) s5.r } : Ts) = s6 at r6 t6 se6
  replace hs6 := Lib.hid hs6
  replace k6 := Lib.hid (k5.out.trans k6)
  replace t6 := Lib.hid t6
  replace r6 := Lib.hid r6
  replace se6 := Lib.hid se6
  clear H6
  have hE : ({ s with r := adjR 1 s.r } : Ts) = s6 := by
    have x1e := hx1.out
    have x2e := hx2.out
    have h2e := h2.out
    rw [← hs6.out, ← hs5.out, ← hs3.out, ← hs2.out]
    try dsimp only
    rw [← x2e]
    rw [← x1e]
    have q1 : (!hasP s.r.P 1 || decide (153 < s.r.A)) = true := by rw [h1]; rfl
    have q2 : (!hasP (flagP s.r.P 1 false) 8 || decide (9 < ((s.r.A + 160) % 256) % 16)) = true := by rw [h2e]; rfl
    have e1 : adjA 1 s.r = { s.r with A := (s.r.A + 160) % 256, P := flagP s.r.P 1 false } := by unfold adjA; simp only [q1]; rfl
    have e2 : adjB 1 ({ s.r with A := (s.r.A + 160) % 256, P := flagP s.r.P 1 false }) = { s.r with A := ((s.r.A + 160) % 256 + 250) % 256, P := flagP s.r.P 1 false } := by unfold adjB; simp only [q2]; rfl
    have e3 : adjR 1 s.r = tellR (adjB 1 (adjA 1 s.r)).A (adjB 1 (adjA 1 s.r)) := rfl
    rw [e3, e1, e2]
    all_goals rfl
  have hR := Ran.set (adjR 1) s
  rw [hE] at hR
  have hf := Lib.hid (F.out (.returned (unitV ())) _ (Post.done hR t6.out k6.out trivial (by have := se6.out; omega)))
  unfold unitV at hf
  clear F
  go_wp2_with fail
  first | exact hf.out | (go_end0; exact hf.out) | (go_ret; exact hf.out)
theorem adjustDifference_flag_big_any (h : Tk K z s w) (h1 : hasP s.r.P 1 = false) (h2 : hasP (flagP s.r.P 1 false) 8 = true) (g2 : 9 < ((s.r.A + 160) % 256) % 16) (hl : s.l.length ≤ 80) :
    Calls Tryz.prog 144 #[.pointer (some ⟨K.b, 0, none⟩)] w (Post K z s w (M.set (adjR 1)) unitV (fun _ => True) 12) := by
  obtain ⟨Q, hQ, F⟩ := post_name (Post K z s w (M.set (adjR 1)) unitV (fun _ => True) 12)
  rw [hQ]
  clear hQ
  replace F := Lib.hid F
  have t0 := Lib.hid h
  have k0 := Lib.hid (Kp.refl K w)
  have hl0 := Lib.hid hl
  have se0 := Lib.hid (show s.l.length ≤ s.l.length + 0 from Nat.le_refl _)
  clear h hl
  go_enter Tryz.func144, Tryz.ntmps144
  have hA0 := Lib.hid t0.out.ok.A
  have HF := flag_any 1 1 rfl t0.out (by decide)
  rw [h1] at HF
  have c0 := t0.out.look.1.1
  have f0 := t0.out.look.2.2 0
  obtain ⟨x1, hx1, x1b, x1w⟩ : ∃ x : Nat, (s.r.A + 160) % 256 = x ∧ x < 256 ∧ IntKind.u8.wrap ((s.r.A : Int) - 96) = (x : Int) := ⟨_, rfl, Nat.mod_lt _ (by decide), (by simp only [IntKind.wrap_u8]; omega)⟩
  replace hx1 := Lib.hid hx1
  have x1z : ((s.r.A : Int) - 96) % 256 = (x1 : Int) := by have := hx1.out; omega
  have H1 := HF
  replace H1 := Lib.hid H1
  go_wp2_with fail
  with_reducible refine H1.out.mono ?_
  rintro e w1 ⟨rfl, hw1⟩
  rw [hw1]
  clear hw1 w1 H1
  have t2 := t0.out.toA x1 x1b
  have r2 := Ran.set (fun r => { r with A := x1 }) s
  have se2 := (show ({ s with r := { s.r with A := x1 } } : Ts).l.length ≤ s.l.length + 0 from se0.out)
  generalize hs2 : ({ s with r := { s.r with A := x1 } } : Ts) = s2 at r2 t2 se2
  have k2 := Lib.hid (k0.out.set 0 (.int .u8 (x1 : Nat)))
  replace hs2 := Lib.hid hs2
  replace t2 := Lib.hid t2
  replace r2 := Lib.hid r2
  replace se2 := Lib.hid se2
  have hq1 := hs2
  have H3 := put_any 1 1 rfl false t2.out (by decide)
  replace H3 := Lib.hid H3
  go_wp2_with fail
  with_reducible refine H3.out.mono ?_
  rintro e w3 ⟨rfl, t3, k3⟩
  have r3 := Ran.set (putR 1 false) s2
  have se3 := (show ({ s2 with r := (putR 1 false) s2.r } : Ts).l.length ≤ s.l.length + 0 from se2.out)
  generalize hs3 : ({ s2 with r := (putR 1 false) s2.r } : Ts) = s3 at r3 t3 se3
  replace hs3 := Lib.hid hs3
  replace k3 := Lib.hid (k2.out.trans k3)
  replace t3 := Lib.hid t3
  replace r3 := Lib.hid r3
  replace se3 := Lib.hid se3
  clear H3
  have eA : s3.r.A = x1 := by rw [← hs3.out, ← hq1.out]; rfl
  have eP : hasP s3.r.P 8 = true := by rw [← hs3.out, ← hq1.out]; exact h2
  clear c0 f0
  rw [hx1.out] at g2
  have u2 : decide ((x1 : Int) % 16 > 9) = true := by exact decide_eq_true (by omega)
  have u2b : decide (9 < (x1 : Int) % 16) = true := u2
  replace g2 := Lib.hid g2
  replace h2 := Lib.hid h2
  have c0 := t3.out.look.1.1
  rw [eA] at c0
  have f0 := t3.out.look.2.2 0
  have HG := flag_any 8 8 rfl t3.out (by decide)
  rw [eP] at HG
  clear eP
  clear eA
  obtain ⟨x2, hx2, x2b, x2w⟩ : ∃ x : Nat, (x1 + 250) % 256 = x ∧ x < 256 ∧ IntKind.u8.wrap ((x1 : Int) - 6) = (x : Int) := ⟨_, rfl, Nat.mod_lt _ (by decide), (by simp only [IntKind.wrap_u8]; omega)⟩
  replace hx2 := Lib.hid hx2
  have x2z : ((x1 : Int) - 6) % 256 = (x2 : Int) := by have := hx2.out; omega
  have H4 := HG
  replace H4 := Lib.hid H4
  go_wp2_with fail
  with_reducible refine H4.out.mono ?_
  rintro e w4 ⟨rfl, hw4⟩
  rw [hw4]
  clear hw4 w4 H4
  have t5 := t3.out.toA x2 x2b
  have r5 := Ran.set (fun r => { r with A := x2 }) s3
  have se5 := (show ({ s3 with r := { s3.r with A := x2 } } : Ts).l.length ≤ s.l.length + 0 from se3.out)
  generalize hs5 : ({ s3 with r := { s3.r with A := x2 } } : Ts) = s5 at r5 t5 se5
  have k5 := Lib.hid (k3.out.set 0 (.int .u8 (x2 : Nat)))
  replace hs5 := Lib.hid hs5
  replace t5 := Lib.hid t5
  replace r5 := Lib.hid r5
  replace se5 := Lib.hid se5
  have hq2 := hs5
  have H6 := tell_any x2 t5.out x2b
  replace H6 := Lib.hid H6
  go_wp2_with fail
  with_reducible refine H6.out.mono ?_
  rintro e w6 ⟨rfl, t6, k6⟩
  have r6 := Ran.set (tellR x2) s5
  have se6 := (show ({ s5 with r := (tellR x2) s5.r } : Ts).l.length ≤ s.l.length + 0 from se5.out)
  generalize hs6 : ({ s5 with r := (tellR x2) s5.r } : Ts) = s6 at r6 t6 se6
  replace hs6 := Lib.hid hs6
  replace k6 := Lib.hid (k5.out.trans k6)
  replace t6 := Lib.hid t6
  replace r6 := Lib.hid r6
  replace se6 := Lib.hid se6
  clear H6
  have hE : ({ s with r := adjR 1 s.r } : Ts) = s6 := by
    have x1e := hx1.out
    have x2e := hx2.out
    have g2e := g2.out
    rw [← x1e] at g2e
    have h2e := h2.out
    rw [← hs6.out, ← hs5.out, ← hs3.out, ← hs2.out]
    try dsimp only
    rw [← x2e]
    rw [← x1e]
    have q1 : (!hasP s.r.P 1 || decide (153 < s.r.A)) = true := by rw [h1]; rfl
    have q2 : (!hasP (flagP s.r.P 1 false) 8 || decide (9 < ((s.r.A + 160) % 256) % 16)) = true := by rw [h2e, decide_eq_true g2e]; rfl
    have e1 : adjA 1 s.r = { s.r with A := (s.r.A + 160) % 256, P := flagP s.r.P 1 false } := by unfold adjA; simp only [q1]; rfl
    have e2 : adjB 1 ({ s.r with A := (s.r.A + 160) % 256, P := flagP s.r.P 1 false }) = { s.r with A := ((s.r.A + 160) % 256 + 250) % 256, P := flagP s.r.P 1 false } := by unfold adjB; simp only [q2]; rfl
    have e3 : adjR 1 s.r = tellR (adjB 1 (adjA 1 s.r)).A (adjB 1 (adjA 1 s.r)) := rfl
    rw [e3, e1, e2]
    all_goals rfl
  have hR := Ran.set (adjR 1) s
  rw [hE] at hR
  have hf := Lib.hid (F.out (.returned (unitV ())) _ (Post.done hR t6.out k6.out trivial (by have := se6.out; omega)))
  unfold unitV at hf
  clear F
  go_wp2_with fail
  first | exact hf.out | (go_end0; exact hf.out) | (go_ret; exact hf.out)
theorem adjustDifference_flag_no_any (h : Tk K z s w) (h1 : hasP s.r.P 1 = false) (h2 : hasP (flagP s.r.P 1 false) 8 = true) (g2 : ¬ 9 < ((s.r.A + 160) % 256) % 16) (hl : s.l.length ≤ 80) :
    Calls Tryz.prog 144 #[.pointer (some ⟨K.b, 0, none⟩)] w (Post K z s w (M.set (adjR 1)) unitV (fun _ => True) 12) := by
  obtain ⟨Q, hQ, F⟩ := post_name (Post K z s w (M.set (adjR 1)) unitV (fun _ => True) 12)
  rw [hQ]
  clear hQ
  replace F := Lib.hid F
  have t0 := Lib.hid h
  have k0 := Lib.hid (Kp.refl K w)
  have hl0 := Lib.hid hl
  have se0 := Lib.hid (show s.l.length ≤ s.l.length + 0 from Nat.le_refl _)
  clear h hl
  go_enter Tryz.func144, Tryz.ntmps144
  have hA0 := Lib.hid t0.out.ok.A
  have HF := flag_any 1 1 rfl t0.out (by decide)
  rw [h1] at HF
  have c0 := t0.out.look.1.1
  have f0 := t0.out.look.2.2 0
  obtain ⟨x1, hx1, x1b, x1w⟩ : ∃ x : Nat, (s.r.A + 160) % 256 = x ∧ x < 256 ∧ IntKind.u8.wrap ((s.r.A : Int) - 96) = (x : Int) := ⟨_, rfl, Nat.mod_lt _ (by decide), (by simp only [IntKind.wrap_u8]; omega)⟩
  replace hx1 := Lib.hid hx1
  have x1z : ((s.r.A : Int) - 96) % 256 = (x1 : Int) := by have := hx1.out; omega
  have H1 := HF
  replace H1 := Lib.hid H1
  go_wp2_with fail
  with_reducible refine H1.out.mono ?_
  rintro e w1 ⟨rfl, hw1⟩
  rw [hw1]
  clear hw1 w1 H1
  have t2 := t0.out.toA x1 x1b
  have r2 := Ran.set (fun r => { r with A := x1 }) s
  have se2 := (show ({ s with r := { s.r with A := x1 } } : Ts).l.length ≤ s.l.length + 0 from se0.out)
  generalize hs2 : ({ s with r := { s.r with A := x1 } } : Ts) = s2 at r2 t2 se2
  have k2 := Lib.hid (k0.out.set 0 (.int .u8 (x1 : Nat)))
  replace hs2 := Lib.hid hs2
  replace t2 := Lib.hid t2
  replace r2 := Lib.hid r2
  replace se2 := Lib.hid se2
  have hq1 := hs2
  have H3 := put_any 1 1 rfl false t2.out (by decide)
  replace H3 := Lib.hid H3
  go_wp2_with fail
  with_reducible refine H3.out.mono ?_
  rintro e w3 ⟨rfl, t3, k3⟩
  have r3 := Ran.set (putR 1 false) s2
  have se3 := (show ({ s2 with r := (putR 1 false) s2.r } : Ts).l.length ≤ s.l.length + 0 from se2.out)
  generalize hs3 : ({ s2 with r := (putR 1 false) s2.r } : Ts) = s3 at r3 t3 se3
  replace hs3 := Lib.hid hs3
  replace k3 := Lib.hid (k2.out.trans k3)
  replace t3 := Lib.hid t3
  replace r3 := Lib.hid r3
  replace se3 := Lib.hid se3
  clear H3
  have eA : s3.r.A = x1 := by rw [← hs3.out, ← hq1.out]; rfl
  have eP : hasP s3.r.P 8 = true := by rw [← hs3.out, ← hq1.out]; exact h2
  clear c0 f0
  rw [hx1.out] at g2
  have u2 : decide ((x1 : Int) % 16 > 9) = false := by exact decide_eq_false (by omega)
  have u2b : decide (9 < (x1 : Int) % 16) = false := u2
  replace g2 := Lib.hid g2
  replace h2 := Lib.hid h2
  have c0 := t3.out.look.1.1
  rw [eA] at c0
  have f0 := t3.out.look.2.2 0
  have HG := flag_any 8 8 rfl t3.out (by decide)
  rw [eP] at HG
  clear eP
  clear eA
  have H4 := HG
  replace H4 := Lib.hid H4
  go_wp2_with fail
  with_reducible refine H4.out.mono ?_
  rintro e w4 ⟨rfl, hw4⟩
  rw [hw4]
  clear hw4 w4 H4
  have H5 := tell_any x1 t3.out x1b
  replace H5 := Lib.hid H5
  go_wp2_with fail
  with_reducible refine H5.out.mono ?_
  rintro e w5 ⟨rfl, t5, k5⟩
  have r5 := Ran.set (tellR x1) s3
  have se5 := (show ({ s3 with r := (tellR x1) s3.r } : Ts).l.length ≤ s.l.length + 0 from se3.out)
  generalize hs5 : ({ s3 with r := (tellR x1) s3.r } : Ts) = s5 at r5 t5 se5
  replace hs5 := Lib.hid hs5
  replace k5 := Lib.hid (k3.out.trans k5)
  replace t5 := Lib.hid t5
  replace r5 := Lib.hid r5
  replace se5 := Lib.hid se5
  clear H5
  have hE : ({ s with r := adjR 1 s.r } : Ts) = s5 := by
    have x1e := hx1.out
    have g2e := g2.out
    rw [← x1e] at g2e
    have h2e := h2.out
    rw [← hs5.out, ← hs3.out, ← hs2.out]
    try dsimp only
    rw [← x1e]
    have q1 : (!hasP s.r.P 1 || decide (153 < s.r.A)) = true := by rw [h1]; rfl
    have q2 : (!hasP (flagP s.r.P 1 false) 8 || decide (9 < ((s.r.A + 160) % 256) % 16)) = false := by rw [h2e, decide_eq_false g2e]; rfl
    have e1 : adjA 1 s.r = { s.r with A := (s.r.A + 160) % 256, P := flagP s.r.P 1 false } := by unfold adjA; simp only [q1]; rfl
    have e2 : adjB 1 ({ s.r with A := (s.r.A + 160) % 256, P := flagP s.r.P 1 false }) = { s.r with A := (s.r.A + 160) % 256, P := flagP s.r.P 1 false } := by unfold adjB; simp only [q2]; rfl
    have e3 : adjR 1 s.r = tellR (adjB 1 (adjA 1 s.r)).A (adjB 1 (adjA 1 s.r)) := rfl
    rw [e3, e1, e2]
    all_goals rfl
  have hR := Ran.set (adjR 1) s
  rw [hE] at hR
  have hf := Lib.hid (F.out (.returned (unitV ())) _ (Post.done hR t5.out k5.out trivial (by have := se5.out; omega)))
  unfold unitV at hf
  clear F
  go_wp2_with fail
  first | exact hf.out | (go_end0; exact hf.out) | (go_ret; exact hf.out)
theorem adjustDifference_big_flag_any (h : Tk K z s w) (h1 : hasP s.r.P 1 = true) (g1 : 153 < s.r.A) (h2 : hasP (flagP s.r.P 1 false) 8 = false) (hl : s.l.length ≤ 80) :
    Calls Tryz.prog 144 #[.pointer (some ⟨K.b, 0, none⟩)] w (Post K z s w (M.set (adjR 1)) unitV (fun _ => True) 12) := by
  obtain ⟨Q, hQ, F⟩ := post_name (Post K z s w (M.set (adjR 1)) unitV (fun _ => True) 12)
  rw [hQ]
  clear hQ
  replace F := Lib.hid F
  have t0 := Lib.hid h
  have k0 := Lib.hid (Kp.refl K w)
  have hl0 := Lib.hid hl
  have se0 := Lib.hid (show s.l.length ≤ s.l.length + 0 from Nat.le_refl _)
  clear h hl
  go_enter Tryz.func144, Tryz.ntmps144
  have hA0 := Lib.hid t0.out.ok.A
  have HF := flag_any 1 1 rfl t0.out (by decide)
  rw [h1] at HF
  have c0 := t0.out.look.1.1
  have f0 := t0.out.look.2.2 0
  have u1 : decide ((s.r.A : Int) > 153) = true := by exact decide_eq_true (by omega)
  have u1b : decide (153 < (s.r.A : Int)) = true := u1
  replace g1 := Lib.hid g1
  obtain ⟨x1, hx1, x1b, x1w⟩ : ∃ x : Nat, (s.r.A + 160) % 256 = x ∧ x < 256 ∧ IntKind.u8.wrap ((s.r.A : Int) - 96) = (x : Int) := ⟨_, rfl, Nat.mod_lt _ (by decide), (by simp only [IntKind.wrap_u8]; omega)⟩
  replace hx1 := Lib.hid hx1
  have x1z : ((s.r.A : Int) - 96) % 256 = (x1 : Int) := by have := hx1.out; omega
  have H1 := HF
  replace H1 := Lib.hid H1
  go_wp2_with fail
  with_reducible refine H1.out.mono ?_
  rintro e w1 ⟨rfl, hw1⟩
  rw [hw1]
  clear hw1 w1 H1
  have t2 := t0.out.toA x1 x1b
  have r2 := Ran.set (fun r => { r with A := x1 }) s
  have se2 := (show ({ s with r := { s.r with A := x1 } } : Ts).l.length ≤ s.l.length + 0 from se0.out)
  generalize hs2 : ({ s with r := { s.r with A := x1 } } : Ts) = s2 at r2 t2 se2
  have k2 := Lib.hid (k0.out.set 0 (.int .u8 (x1 : Nat)))
  replace hs2 := Lib.hid hs2
  replace t2 := Lib.hid t2
  replace r2 := Lib.hid r2
  replace se2 := Lib.hid se2
  have hq1 := hs2
  have H3 := put_any 1 1 rfl false t2.out (by decide)
  replace H3 := Lib.hid H3
  go_wp2_with fail
  with_reducible refine H3.out.mono ?_
  rintro e w3 ⟨rfl, t3, k3⟩
  have r3 := Ran.set (putR 1 false) s2
  have se3 := (show ({ s2 with r := (putR 1 false) s2.r } : Ts).l.length ≤ s.l.length + 0 from se2.out)
  generalize hs3 : ({ s2 with r := (putR 1 false) s2.r } : Ts) = s3 at r3 t3 se3
  replace hs3 := Lib.hid hs3
  replace k3 := Lib.hid (k2.out.trans k3)
  replace t3 := Lib.hid t3
  replace r3 := Lib.hid r3
  replace se3 := Lib.hid se3
  clear H3
  have eA : s3.r.A = x1 := by rw [← hs3.out, ← hq1.out]; rfl
  have eP : hasP s3.r.P 8 = false := by rw [← hs3.out, ← hq1.out]; exact h2
  clear c0 f0
  replace h2 := Lib.hid h2
  have c0 := t3.out.look.1.1
  rw [eA] at c0
  have f0 := t3.out.look.2.2 0
  have HG := flag_any 8 8 rfl t3.out (by decide)
  rw [eP] at HG
  clear eP
  clear eA
  obtain ⟨x2, hx2, x2b, x2w⟩ : ∃ x : Nat, (x1 + 250) % 256 = x ∧ x < 256 ∧ IntKind.u8.wrap ((x1 : Int) - 6) = (x : Int) := ⟨_, rfl, Nat.mod_lt _ (by decide), (by simp only [IntKind.wrap_u8]; omega)⟩
  replace hx2 := Lib.hid hx2
  have x2z : ((x1 : Int) - 6) % 256 = (x2 : Int) := by have := hx2.out; omega
  have H4 := HG
  replace H4 := Lib.hid H4
  go_wp2_with fail
  with_reducible refine H4.out.mono ?_
  rintro e w4 ⟨rfl, hw4⟩
  rw [hw4]
  clear hw4 w4 H4
  have t5 := t3.out.toA x2 x2b
  have r5 := Ran.set (fun r => { r with A := x2 }) s3
  have se5 := (show ({ s3 with r := { s3.r with A := x2 } } : Ts).l.length ≤ s.l.length + 0 from se3.out)
  generalize hs5 : ({ s3 with r := { s3.r with A := x2 } } : Ts) = s5 at r5 t5 se5
  have k5 := Lib.hid (k3.out.set 0 (.int .u8 (x2 : Nat)))
  replace hs5 := Lib.hid hs5
  replace t5 := Lib.hid t5
  replace r5 := Lib.hid r5
  replace se5 := Lib.hid se5
  have hq2 := hs5
  have H6 := tell_any x2 t5.out x2b
  replace H6 := Lib.hid H6
  go_wp2_with fail
  with_reducible refine H6.out.mono ?_
  rintro e w6 ⟨rfl, t6, k6⟩
  have r6 := Ran.set (tellR x2) s5
  have se6 := (show ({ s5 with r := (tellR x2) s5.r } : Ts).l.length ≤ s.l.length + 0 from se5.out)
  generalize hs6 : ({ s5 with r := (tellR x2) s5.r } : Ts) = s6 at r6 t6 se6
  replace hs6 := Lib.hid hs6
  replace k6 := Lib.hid (k5.out.trans k6)
  replace t6 := Lib.hid t6
  replace r6 := Lib.hid r6
  replace se6 := Lib.hid se6
  clear H6
  have hE : ({ s with r := adjR 1 s.r } : Ts) = s6 := by
    have x1e := hx1.out
    have x2e := hx2.out
    have h2e := h2.out
    have g1e := g1.out
    rw [← hs6.out, ← hs5.out, ← hs3.out, ← hs2.out]
    try dsimp only
    rw [← x2e]
    rw [← x1e]
    have q1 : (!hasP s.r.P 1 || decide (153 < s.r.A)) = true := by rw [h1, decide_eq_true g1e]; rfl
    have q2 : (!hasP (flagP s.r.P 1 false) 8 || decide (9 < ((s.r.A + 160) % 256) % 16)) = true := by rw [h2e]; rfl
    have e1 : adjA 1 s.r = { s.r with A := (s.r.A + 160) % 256, P := flagP s.r.P 1 false } := by unfold adjA; simp only [q1]; rfl
    have e2 : adjB 1 ({ s.r with A := (s.r.A + 160) % 256, P := flagP s.r.P 1 false }) = { s.r with A := ((s.r.A + 160) % 256 + 250) % 256, P := flagP s.r.P 1 false } := by unfold adjB; simp only [q2]; rfl
    have e3 : adjR 1 s.r = tellR (adjB 1 (adjA 1 s.r)).A (adjB 1 (adjA 1 s.r)) := rfl
    rw [e3, e1, e2]
    all_goals rfl
  have hR := Ran.set (adjR 1) s
  rw [hE] at hR
  have hf := Lib.hid (F.out (.returned (unitV ())) _ (Post.done hR t6.out k6.out trivial (by have := se6.out; omega)))
  unfold unitV at hf
  clear F
  go_wp2_with fail
  first | exact hf.out | (go_end0; exact hf.out) | (go_ret; exact hf.out)
theorem adjustDifference_big_big_any (h : Tk K z s w) (h1 : hasP s.r.P 1 = true) (g1 : 153 < s.r.A) (h2 : hasP (flagP s.r.P 1 false) 8 = true) (g2 : 9 < ((s.r.A + 160) % 256) % 16) (hl : s.l.length ≤ 80) :
    Calls Tryz.prog 144 #[.pointer (some ⟨K.b, 0, none⟩)] w (Post K z s w (M.set (adjR 1)) unitV (fun _ => True) 12) := by
  obtain ⟨Q, hQ, F⟩ := post_name (Post K z s w (M.set (adjR 1)) unitV (fun _ => True) 12)
  rw [hQ]
  clear hQ
  replace F := Lib.hid F
  have t0 := Lib.hid h
  have k0 := Lib.hid (Kp.refl K w)
  have hl0 := Lib.hid hl
  have se0 := Lib.hid (show s.l.length ≤ s.l.length + 0 from Nat.le_refl _)
  clear h hl
  go_enter Tryz.func144, Tryz.ntmps144
  have hA0 := Lib.hid t0.out.ok.A
  have HF := flag_any 1 1 rfl t0.out (by decide)
  rw [h1] at HF
  have c0 := t0.out.look.1.1
  have f0 := t0.out.look.2.2 0
  have u1 : decide ((s.r.A : Int) > 153) = true := by exact decide_eq_true (by omega)
  have u1b : decide (153 < (s.r.A : Int)) = true := u1
  replace g1 := Lib.hid g1
  obtain ⟨x1, hx1, x1b, x1w⟩ : ∃ x : Nat, (s.r.A + 160) % 256 = x ∧ x < 256 ∧ IntKind.u8.wrap ((s.r.A : Int) - 96) = (x : Int) := ⟨_, rfl, Nat.mod_lt _ (by decide), (by simp only [IntKind.wrap_u8]; omega)⟩
  replace hx1 := Lib.hid hx1
  have x1z : ((s.r.A : Int) - 96) % 256 = (x1 : Int) := by have := hx1.out; omega
  have H1 := HF
  replace H1 := Lib.hid H1
  go_wp2_with fail
  with_reducible refine H1.out.mono ?_
  rintro e w1 ⟨rfl, hw1⟩
  rw [hw1]
  clear hw1 w1 H1
  have t2 := t0.out.toA x1 x1b
  have r2 := Ran.set (fun r => { r with A := x1 }) s
  have se2 := (show ({ s with r := { s.r with A := x1 } } : Ts).l.length ≤ s.l.length + 0 from se0.out)
  generalize hs2 : ({ s with r := { s.r with A := x1 } } : Ts) = s2 at r2 t2 se2
  have k2 := Lib.hid (k0.out.set 0 (.int .u8 (x1 : Nat)))
  replace hs2 := Lib.hid hs2
  replace t2 := Lib.hid t2
  replace r2 := Lib.hid r2
  replace se2 := Lib.hid se2
  have hq1 := hs2
  have H3 := put_any 1 1 rfl false t2.out (by decide)
  replace H3 := Lib.hid H3
  go_wp2_with fail
  with_reducible refine H3.out.mono ?_
  rintro e w3 ⟨rfl, t3, k3⟩
  have r3 := Ran.set (putR 1 false) s2
  have se3 := (show ({ s2 with r := (putR 1 false) s2.r } : Ts).l.length ≤ s.l.length + 0 from se2.out)
  generalize hs3 : ({ s2 with r := (putR 1 false) s2.r } : Ts) = s3 at r3 t3 se3
  replace hs3 := Lib.hid hs3
  replace k3 := Lib.hid (k2.out.trans k3)
  replace t3 := Lib.hid t3
  replace r3 := Lib.hid r3
  replace se3 := Lib.hid se3
  clear H3
  have eA : s3.r.A = x1 := by rw [← hs3.out, ← hq1.out]; rfl
  have eP : hasP s3.r.P 8 = true := by rw [← hs3.out, ← hq1.out]; exact h2
  clear c0 f0
  rw [hx1.out] at g2
  have u2 : decide ((x1 : Int) % 16 > 9) = true := by exact decide_eq_true (by omega)
  have u2b : decide (9 < (x1 : Int) % 16) = true := u2
  replace g2 := Lib.hid g2
  replace h2 := Lib.hid h2
  have c0 := t3.out.look.1.1
  rw [eA] at c0
  have f0 := t3.out.look.2.2 0
  have HG := flag_any 8 8 rfl t3.out (by decide)
  rw [eP] at HG
  clear eP
  clear eA
  obtain ⟨x2, hx2, x2b, x2w⟩ : ∃ x : Nat, (x1 + 250) % 256 = x ∧ x < 256 ∧ IntKind.u8.wrap ((x1 : Int) - 6) = (x : Int) := ⟨_, rfl, Nat.mod_lt _ (by decide), (by simp only [IntKind.wrap_u8]; omega)⟩
  replace hx2 := Lib.hid hx2
  have x2z : ((x1 : Int) - 6) % 256 = (x2 : Int) := by have := hx2.out; omega
  have H4 := HG
  replace H4 := Lib.hid H4
  go_wp2_with fail
  with_reducible refine H4.out.mono ?_
  rintro e w4 ⟨rfl, hw4⟩
  rw [hw4]
  clear hw4 w4 H4
  have t5 := t3.out.toA x2 x2b
  have r5 := Ran.set (fun r => { r with A := x2 }) s3
  have se5 := (show ({ s3 with r := { s3.r with A := x2 } } : Ts).l.length ≤ s.l.length + 0 from se3.out)
  generalize hs5 : ({ s3 with r := { s3.r with A := x2 } } : Ts) = s5 at r5 t5 se5
  have k5 := Lib.hid (k3.out.set 0 (.int .u8 (x2 : Nat)))
  replace hs5 := Lib.hid hs5
  replace t5 := Lib.hid t5
  replace r5 := Lib.hid r5
  replace se5 := Lib.hid se5
  have hq2 := hs5
  have H6 := tell_any x2 t5.out x2b
  replace H6 := Lib.hid H6
  go_wp2_with fail
  with_reducible refine H6.out.mono ?_
  rintro e w6 ⟨rfl, t6, k6⟩
  have r6 := Ran.set (tellR x2) s5
  have se6 := (show ({ s5 with r := (tellR x2) s5.r } : Ts).l.length ≤ s.l.length + 0 from se5.out)
  generalize hs6 : ({ s5 with r := (tellR x2) s5.r } : Ts) = s6 at r6 t6 se6
  replace hs6 := Lib.hid hs6
  replace k6 := Lib.hid (k5.out.trans k6)
  replace t6 := Lib.hid t6
  replace r6 := Lib.hid r6
  replace se6 := Lib.hid se6
  clear H6
  have hE : ({ s with r := adjR 1 s.r } : Ts) = s6 := by
    have x1e := hx1.out
    have x2e := hx2.out
    have g2e := g2.out
    rw [← x1e] at g2e
    have h2e := h2.out
    have g1e := g1.out
    rw [← hs6.out, ← hs5.out, ← hs3.out, ← hs2.out]
    try dsimp only
    rw [← x2e]
    rw [← x1e]
    have q1 : (!hasP s.r.P 1 || decide (153 < s.r.A)) = true := by rw [h1, decide_eq_true g1e]; rfl
    have q2 : (!hasP (flagP s.r.P 1 false) 8 || decide (9 < ((s.r.A + 160) % 256) % 16)) = true := by rw [h2e, decide_eq_true g2e]; rfl
    have e1 : adjA 1 s.r = { s.r with A := (s.r.A + 160) % 256, P := flagP s.r.P 1 false } := by unfold adjA; simp only [q1]; rfl
    have e2 : adjB 1 ({ s.r with A := (s.r.A + 160) % 256, P := flagP s.r.P 1 false }) = { s.r with A := ((s.r.A + 160) % 256 + 250) % 256, P := flagP s.r.P 1 false } := by unfold adjB; simp only [q2]; rfl
    have e3 : adjR 1 s.r = tellR (adjB 1 (adjA 1 s.r)).A (adjB 1 (adjA 1 s.r)) := rfl
    rw [e3, e1, e2]
    all_goals rfl
  have hR := Ran.set (adjR 1) s
  rw [hE] at hR
  have hf := Lib.hid (F.out (.returned (unitV ())) _ (Post.done hR t6.out k6.out trivial (by have := se6.out; omega)))
  unfold unitV at hf
  clear F
  go_wp2_with fail
  first | exact hf.out | (go_end0; exact hf.out) | (go_ret; exact hf.out)
theorem adjustDifference_big_no_any (h : Tk K z s w) (h1 : hasP s.r.P 1 = true) (g1 : 153 < s.r.A) (h2 : hasP (flagP s.r.P 1 false) 8 = true) (g2 : ¬ 9 < ((s.r.A + 160) % 256) % 16) (hl : s.l.length ≤ 80) :
    Calls Tryz.prog 144 #[.pointer (some ⟨K.b, 0, none⟩)] w (Post K z s w (M.set (adjR 1)) unitV (fun _ => True) 12) := by
  obtain ⟨Q, hQ, F⟩ := post_name (Post K z s w (M.set (adjR 1)) unitV (fun _ => True) 12)
  rw [hQ]
  clear hQ
  replace F := Lib.hid F
  have t0 := Lib.hid h
  have k0 := Lib.hid (Kp.refl K w)
  have hl0 := Lib.hid hl
  have se0 := Lib.hid (show s.l.length ≤ s.l.length + 0 from Nat.le_refl _)
  clear h hl
  go_enter Tryz.func144, Tryz.ntmps144
  have hA0 := Lib.hid t0.out.ok.A
  have HF := flag_any 1 1 rfl t0.out (by decide)
  rw [h1] at HF
  have c0 := t0.out.look.1.1
  have f0 := t0.out.look.2.2 0
  have u1 : decide ((s.r.A : Int) > 153) = true := by exact decide_eq_true (by omega)
  have u1b : decide (153 < (s.r.A : Int)) = true := u1
  replace g1 := Lib.hid g1
  obtain ⟨x1, hx1, x1b, x1w⟩ : ∃ x : Nat, (s.r.A + 160) % 256 = x ∧ x < 256 ∧ IntKind.u8.wrap ((s.r.A : Int) - 96) = (x : Int) := ⟨_, rfl, Nat.mod_lt _ (by decide), (by simp only [IntKind.wrap_u8]; omega)⟩
  replace hx1 := Lib.hid hx1
  have x1z : ((s.r.A : Int) - 96) % 256 = (x1 : Int) := by have := hx1.out; omega
  have H1 := HF
  replace H1 := Lib.hid H1
  go_wp2_with fail
  with_reducible refine H1.out.mono ?_
  rintro e w1 ⟨rfl, hw1⟩
  rw [hw1]
  clear hw1 w1 H1
  have t2 := t0.out.toA x1 x1b
  have r2 := Ran.set (fun r => { r with A := x1 }) s
  have se2 := (show ({ s with r := { s.r with A := x1 } } : Ts).l.length ≤ s.l.length + 0 from se0.out)
  generalize hs2 : ({ s with r := { s.r with A := x1 } } : Ts) = s2 at r2 t2 se2
  have k2 := Lib.hid (k0.out.set 0 (.int .u8 (x1 : Nat)))
  replace hs2 := Lib.hid hs2
  replace t2 := Lib.hid t2
  replace r2 := Lib.hid r2
  replace se2 := Lib.hid se2
  have hq1 := hs2
  have H3 := put_any 1 1 rfl false t2.out (by decide)
  replace H3 := Lib.hid H3
  go_wp2_with fail
  with_reducible refine H3.out.mono ?_
  rintro e w3 ⟨rfl, t3, k3⟩
  have r3 := Ran.set (putR 1 false) s2
  have se3 := (show ({ s2 with r := (putR 1 false) s2.r } : Ts).l.length ≤ s.l.length + 0 from se2.out)
  generalize hs3 : ({ s2 with r := (putR 1 false) s2.r } : Ts) = s3 at r3 t3 se3
  replace hs3 := Lib.hid hs3
  replace k3 := Lib.hid (k2.out.trans k3)
  replace t3 := Lib.hid t3
  replace r3 := Lib.hid r3
  replace se3 := Lib.hid se3
  clear H3
  have eA : s3.r.A = x1 := by rw [← hs3.out, ← hq1.out]; rfl
  have eP : hasP s3.r.P 8 = true := by rw [← hs3.out, ← hq1.out]; exact h2
  clear c0 f0
  rw [hx1.out] at g2
  have u2 : decide ((x1 : Int) % 16 > 9) = false := by exact decide_eq_false (by omega)
  have u2b : decide (9 < (x1 : Int) % 16) = false := u2
  replace g2 := Lib.hid g2
  replace h2 := Lib.hid h2
  have c0 := t3.out.look.1.1
  rw [eA] at c0
  have f0 := t3.out.look.2.2 0
  have HG := flag_any 8 8 rfl t3.out (by decide)
  rw [eP] at HG
  clear eP
  clear eA
  have H4 := HG
  replace H4 := Lib.hid H4
  go_wp2_with fail
  with_reducible refine H4.out.mono ?_
  rintro e w4 ⟨rfl, hw4⟩
  rw [hw4]
  clear hw4 w4 H4
  have H5 := tell_any x1 t3.out x1b
  replace H5 := Lib.hid H5
  go_wp2_with fail
  with_reducible refine H5.out.mono ?_
  rintro e w5 ⟨rfl, t5, k5⟩
  have r5 := Ran.set (tellR x1) s3
  have se5 := (show ({ s3 with r := (tellR x1) s3.r } : Ts).l.length ≤ s.l.length + 0 from se3.out)
  generalize hs5 : ({ s3 with r := (tellR x1) s3.r } : Ts) = s5 at r5 t5 se5
  replace hs5 := Lib.hid hs5
  replace k5 := Lib.hid (k3.out.trans k5)
  replace t5 := Lib.hid t5
  replace r5 := Lib.hid r5
  replace se5 := Lib.hid se5
  clear H5
  have hE : ({ s with r := adjR 1 s.r } : Ts) = s5 := by
    have x1e := hx1.out
    have g2e := g2.out
    rw [← x1e] at g2e
    have h2e := h2.out
    have g1e := g1.out
    rw [← hs5.out, ← hs3.out, ← hs2.out]
    try dsimp only
    rw [← x1e]
    have q1 : (!hasP s.r.P 1 || decide (153 < s.r.A)) = true := by rw [h1, decide_eq_true g1e]; rfl
    have q2 : (!hasP (flagP s.r.P 1 false) 8 || decide (9 < ((s.r.A + 160) % 256) % 16)) = false := by rw [h2e, decide_eq_false g2e]; rfl
    have e1 : adjA 1 s.r = { s.r with A := (s.r.A + 160) % 256, P := flagP s.r.P 1 false } := by unfold adjA; simp only [q1]; rfl
    have e2 : adjB 1 ({ s.r with A := (s.r.A + 160) % 256, P := flagP s.r.P 1 false }) = { s.r with A := (s.r.A + 160) % 256, P := flagP s.r.P 1 false } := by unfold adjB; simp only [q2]; rfl
    have e3 : adjR 1 s.r = tellR (adjB 1 (adjA 1 s.r)).A (adjB 1 (adjA 1 s.r)) := rfl
    rw [e3, e1, e2]
    all_goals rfl
  have hR := Ran.set (adjR 1) s
  rw [hE] at hR
  have hf := Lib.hid (F.out (.returned (unitV ())) _ (Post.done hR t5.out k5.out trivial (by have := se5.out; omega)))
  unfold unitV at hf
  clear F
  go_wp2_with fail
  first | exact hf.out | (go_end0; exact hf.out) | (go_ret; exact hf.out)
theorem adjustDifference_no_flag_any (h : Tk K z s w) (h1 : hasP s.r.P 1 = true) (g1 : ¬ 153 < s.r.A) (h2 : hasP (s.r.P) 8 = false) (hl : s.l.length ≤ 80) :
    Calls Tryz.prog 144 #[.pointer (some ⟨K.b, 0, none⟩)] w (Post K z s w (M.set (adjR 1)) unitV (fun _ => True) 12) := by
  obtain ⟨Q, hQ, F⟩ := post_name (Post K z s w (M.set (adjR 1)) unitV (fun _ => True) 12)
  rw [hQ]
  clear hQ
  replace F := Lib.hid F
  have t0 := Lib.hid h
  have k0 := Lib.hid (Kp.refl K w)
  have hl0 := Lib.hid hl
  have se0 := Lib.hid (show s.l.length ≤ s.l.length + 0 from Nat.le_refl _)
  clear h hl
  go_enter Tryz.func144, Tryz.ntmps144
  have hA0 := Lib.hid t0.out.ok.A
  have HF := flag_any 1 1 rfl t0.out (by decide)
  rw [h1] at HF
  have c0 := t0.out.look.1.1
  have f0 := t0.out.look.2.2 0
  have u1 : decide ((s.r.A : Int) > 153) = false := by exact decide_eq_false (by omega)
  have u1b : decide (153 < (s.r.A : Int)) = false := u1
  replace g1 := Lib.hid g1
  obtain ⟨x1, hx1, x1b⟩ : ∃ x : Nat, s.r.A = x ∧ x < 256 := ⟨_, rfl, hA0.out⟩
  replace hx1 := Lib.hid hx1
  have H1 := HF
  replace H1 := Lib.hid H1
  go_wp2_with fail
  with_reducible refine H1.out.mono ?_
  rintro e w1 ⟨rfl, hw1⟩
  rw [hw1]
  clear hw1 w1 H1
  rw [hx1.out] at u1 u1b
  have eA : s.r.A = x1 := hx1.out
  have eP : hasP s.r.P 8 = false := h2
  clear c0 f0
  replace h2 := Lib.hid h2
  have c0 := t0.out.look.1.1
  rw [eA] at c0
  have f0 := t0.out.look.2.2 0
  have HG := flag_any 8 8 rfl t0.out (by decide)
  rw [eP] at HG
  clear eP
  replace eA := Lib.hid eA
  obtain ⟨x2, hx2, x2b, x2w⟩ : ∃ x : Nat, (x1 + 250) % 256 = x ∧ x < 256 ∧ IntKind.u8.wrap ((x1 : Int) - 6) = (x : Int) := ⟨_, rfl, Nat.mod_lt _ (by decide), (by simp only [IntKind.wrap_u8]; omega)⟩
  replace hx2 := Lib.hid hx2
  have x2z : ((x1 : Int) - 6) % 256 = (x2 : Int) := by have := hx2.out; omega
  have H2 := HG
  replace H2 := Lib.hid H2
  go_wp2_with fail
  with_reducible refine H2.out.mono ?_
  rintro e w2 ⟨rfl, hw2⟩
  rw [hw2]
  clear hw2 w2 H2
  have t3 := t0.out.toA x2 x2b
  have r3 := Ran.set (fun r => { r with A := x2 }) s
  have se3 := (show ({ s with r := { s.r with A := x2 } } : Ts).l.length ≤ s.l.length + 0 from se0.out)
  generalize hs3 : ({ s with r := { s.r with A := x2 } } : Ts) = s3 at r3 t3 se3
  have k3 := Lib.hid (k0.out.set 0 (.int .u8 (x2 : Nat)))
  replace hs3 := Lib.hid hs3
  replace t3 := Lib.hid t3
  replace r3 := Lib.hid r3
  replace se3 := Lib.hid se3
  have hq2 := hs3
  have H4 := tell_any x2 t3.out x2b
  replace H4 := Lib.hid H4
  go_wp2_with fail
  with_reducible refine H4.out.mono ?_
  rintro e w4 ⟨rfl, t4, k4⟩
  have r4 := Ran.set (tellR x2) s3
  have se4 := (show ({ s3 with r := (tellR x2) s3.r } : Ts).l.length ≤ s.l.length + 0 from se3.out)
  generalize hs4 : ({ s3 with r := (tellR x2) s3.r } : Ts) = s4 at r4 t4 se4
  replace hs4 := Lib.hid hs4
  replace k4 := Lib.hid (k3.out.trans k4)
  replace t4 := Lib.hid t4
  replace r4 := Lib.hid r4
  replace se4 := Lib.hid se4
  clear H4
  have hE : ({ s with r := adjR 1 s.r } : Ts) = s4 := by
    have x1e := hx1.out
    have x2e := hx2.out
    have h2e := h2.out
    have g1e := g1.out
    rw [← hs4.out, ← hs3.out]
    try dsimp only
    rw [← x2e]
    rw [← x1e]
    have q1 : (!hasP s.r.P 1 || decide (153 < s.r.A)) = false := by rw [h1, decide_eq_false g1e]; rfl
    have q2 : (!hasP (s.r.P) 8 || decide (9 < s.r.A % 16)) = true := by rw [h2e]; rfl
    have e1 : adjA 1 s.r = s.r := by unfold adjA; simp only [q1]; rfl
    have e2 : adjB 1 (s.r) = { s.r with A := (s.r.A + 250) % 256, P := s.r.P } := by unfold adjB; simp only [q2]; rfl
    have e3 : adjR 1 s.r = tellR (adjB 1 (adjA 1 s.r)).A (adjB 1 (adjA 1 s.r)) := rfl
    rw [e3, e1, e2]
    all_goals rfl
  have hR := Ran.set (adjR 1) s
  rw [hE] at hR
  have hf := Lib.hid (F.out (.returned (unitV ())) _ (Post.done hR t4.out k4.out trivial (by have := se4.out; omega)))
  unfold unitV at hf
  clear F
  go_wp2_with fail
  first | exact hf.out | (go_end0; exact hf.out) | (go_ret; exact hf.out)
theorem adjustDifference_no_big_any (h : Tk K z s w) (h1 : hasP s.r.P 1 = true) (g1 : ¬ 153 < s.r.A) (h2 : hasP (s.r.P) 8 = true) (g2 : 9 < s.r.A % 16) (hl : s.l.length ≤ 80) :
    Calls Tryz.prog 144 #[.pointer (some ⟨K.b, 0, none⟩)] w (Post K z s w (M.set (adjR 1)) unitV (fun _ => True) 12) := by
  obtain ⟨Q, hQ, F⟩ := post_name (Post K z s w (M.set (adjR 1)) unitV (fun _ => True) 12)
  rw [hQ]
  clear hQ
  replace F := Lib.hid F
  have t0 := Lib.hid h
  have k0 := Lib.hid (Kp.refl K w)
  have hl0 := Lib.hid hl
  have se0 := Lib.hid (show s.l.length ≤ s.l.length + 0 from Nat.le_refl _)
  clear h hl
  go_enter Tryz.func144, Tryz.ntmps144
  have hA0 := Lib.hid t0.out.ok.A
  have HF := flag_any 1 1 rfl t0.out (by decide)
  rw [h1] at HF
  have c0 := t0.out.look.1.1
  have f0 := t0.out.look.2.2 0
  have u1 : decide ((s.r.A : Int) > 153) = false := by exact decide_eq_false (by omega)
  have u1b : decide (153 < (s.r.A : Int)) = false := u1
  replace g1 := Lib.hid g1
  obtain ⟨x1, hx1, x1b⟩ : ∃ x : Nat, s.r.A = x ∧ x < 256 := ⟨_, rfl, hA0.out⟩
  replace hx1 := Lib.hid hx1
  have H1 := HF
  replace H1 := Lib.hid H1
  go_wp2_with fail
  with_reducible refine H1.out.mono ?_
  rintro e w1 ⟨rfl, hw1⟩
  rw [hw1]
  clear hw1 w1 H1
  rw [hx1.out] at u1 u1b
  have eA : s.r.A = x1 := hx1.out
  have eP : hasP s.r.P 8 = true := h2
  clear c0 f0
  rw [hx1.out] at g2
  have u2 : decide ((x1 : Int) % 16 > 9) = true := by exact decide_eq_true (by omega)
  have u2b : decide (9 < (x1 : Int) % 16) = true := u2
  replace g2 := Lib.hid g2
  replace h2 := Lib.hid h2
  have c0 := t0.out.look.1.1
  rw [eA] at c0
  have f0 := t0.out.look.2.2 0
  have HG := flag_any 8 8 rfl t0.out (by decide)
  rw [eP] at HG
  clear eP
  replace eA := Lib.hid eA
  obtain ⟨x2, hx2, x2b, x2w⟩ : ∃ x : Nat, (x1 + 250) % 256 = x ∧ x < 256 ∧ IntKind.u8.wrap ((x1 : Int) - 6) = (x : Int) := ⟨_, rfl, Nat.mod_lt _ (by decide), (by simp only [IntKind.wrap_u8]; omega)⟩
  replace hx2 := Lib.hid hx2
  have x2z : ((x1 : Int) - 6) % 256 = (x2 : Int) := by have := hx2.out; omega
  have H2 := HG
  replace H2 := Lib.hid H2
  go_wp2_with fail
  with_reducible refine H2.out.mono ?_
  rintro e w2 ⟨rfl, hw2⟩
  rw [hw2]
  clear hw2 w2 H2
  have t3 := t0.out.toA x2 x2b
  have r3 := Ran.set (fun r => { r with A := x2 }) s
  have se3 := (show ({ s with r := { s.r with A := x2 } } : Ts).l.length ≤ s.l.length + 0 from se0.out)
  generalize hs3 : ({ s with r := { s.r with A := x2 } } : Ts) = s3 at r3 t3 se3
  have k3 := Lib.hid (k0.out.set 0 (.int .u8 (x2 : Nat)))
  replace hs3 := Lib.hid hs3
  replace t3 := Lib.hid t3
  replace r3 := Lib.hid r3
  replace se3 := Lib.hid se3
  have hq2 := hs3
  have H4 := tell_any x2 t3.out x2b
  replace H4 := Lib.hid H4
  go_wp2_with fail
  with_reducible refine H4.out.mono ?_
  rintro e w4 ⟨rfl, t4, k4⟩
  have r4 := Ran.set (tellR x2) s3
  have se4 := (show ({ s3 with r := (tellR x2) s3.r } : Ts).l.length ≤ s.l.length + 0 from se3.out)
  generalize hs4 : ({ s3 with r := (tellR x2) s3.r } : Ts) = s4 at r4 t4 se4
  replace hs4 := Lib.hid hs4
  replace k4 := Lib.hid (k3.out.trans k4)
  replace t4 := Lib.hid t4
  replace r4 := Lib.hid r4
  replace se4 := Lib.hid se4
  clear H4
  have hE : ({ s with r := adjR 1 s.r } : Ts) = s4 := by
    have x1e := hx1.out
    have x2e := hx2.out
    have g2e := g2.out
    rw [← x1e] at g2e
    have h2e := h2.out
    have g1e := g1.out
    rw [← hs4.out, ← hs3.out]
    try dsimp only
    rw [← x2e]
    rw [← x1e]
    have q1 : (!hasP s.r.P 1 || decide (153 < s.r.A)) = false := by rw [h1, decide_eq_false g1e]; rfl
    have q2 : (!hasP (s.r.P) 8 || decide (9 < s.r.A % 16)) = true := by rw [h2e, decide_eq_true g2e]; rfl
    have e1 : adjA 1 s.r = s.r := by unfold adjA; simp only [q1]; rfl
    have e2 : adjB 1 (s.r) = { s.r with A := (s.r.A + 250) % 256, P := s.r.P } := by unfold adjB; simp only [q2]; rfl
    have e3 : adjR 1 s.r = tellR (adjB 1 (adjA 1 s.r)).A (adjB 1 (adjA 1 s.r)) := rfl
    rw [e3, e1, e2]
    all_goals rfl
  have hR := Ran.set (adjR 1) s
  rw [hE] at hR
  have hf := Lib.hid (F.out (.returned (unitV ())) _ (Post.done hR t4.out k4.out trivial (by have := se4.out; omega)))
  unfold unitV at hf
  clear F
  go_wp2_with fail
  first | exact hf.out | (go_end0; exact hf.out) | (go_ret; exact hf.out)
theorem adjustDifference_no_no_any (h : Tk K z s w) (h1 : hasP s.r.P 1 = true) (g1 : ¬ 153 < s.r.A) (h2 : hasP (s.r.P) 8 = true) (g2 : ¬ 9 < s.r.A % 16) (hl : s.l.length ≤ 80) :
    Calls Tryz.prog 144 #[.pointer (some ⟨K.b, 0, none⟩)] w (Post K z s w (M.set (adjR 1)) unitV (fun _ => True) 12) := by
  obtain ⟨Q, hQ, F⟩ := post_name (Post K z s w (M.set (adjR 1)) unitV (fun _ => True) 12)
  rw [hQ]
  clear hQ
  replace F := Lib.hid F
  have t0 := Lib.hid h
  have k0 := Lib.hid (Kp.refl K w)
  have hl0 := Lib.hid hl
  have se0 := Lib.hid (show s.l.length ≤ s.l.length + 0 from Nat.le_refl _)
  clear h hl
  go_enter Tryz.func144, Tryz.ntmps144
  have hA0 := Lib.hid t0.out.ok.A
  have HF := flag_any 1 1 rfl t0.out (by decide)
  rw [h1] at HF
  have c0 := t0.out.look.1.1
  have f0 := t0.out.look.2.2 0
  have u1 : decide ((s.r.A : Int) > 153) = false := by exact decide_eq_false (by omega)
  have u1b : decide (153 < (s.r.A : Int)) = false := u1
  replace g1 := Lib.hid g1
  obtain ⟨x1, hx1, x1b⟩ : ∃ x : Nat, s.r.A = x ∧ x < 256 := ⟨_, rfl, hA0.out⟩
  replace hx1 := Lib.hid hx1
  have H1 := HF
  replace H1 := Lib.hid H1
  go_wp2_with fail
  with_reducible refine H1.out.mono ?_
  rintro e w1 ⟨rfl, hw1⟩
  rw [hw1]
  clear hw1 w1 H1
  rw [hx1.out] at u1 u1b
  have eA : s.r.A = x1 := hx1.out
  have eP : hasP s.r.P 8 = true := h2
  clear c0 f0
  rw [hx1.out] at g2
  have u2 : decide ((x1 : Int) % 16 > 9) = false := by exact decide_eq_false (by omega)
  have u2b : decide (9 < (x1 : Int) % 16) = false := u2
  replace g2 := Lib.hid g2
  replace h2 := Lib.hid h2
  have c0 := t0.out.look.1.1
  rw [eA] at c0
  have f0 := t0.out.look.2.2 0
  have HG := flag_any 8 8 rfl t0.out (by decide)
  rw [eP] at HG
  clear eP
  replace eA := Lib.hid eA
  have H2 := HG
  replace H2 := Lib.hid H2
  go_wp2_with fail
  with_reducible refine H2.out.mono ?_
  rintro e w2 ⟨rfl, hw2⟩
  rw [hw2]
  clear hw2 w2 H2
  have H3 := tell_any x1 t0.out x1b
  replace H3 := Lib.hid H3
  go_wp2_with fail
  with_reducible refine H3.out.mono ?_
  rintro e w3 ⟨rfl, t3, k3⟩
  have r3 := Ran.set (tellR x1) s
  have se3 := (show ({ s with r := (tellR x1) s.r } : Ts).l.length ≤ s.l.length + 0 from se0.out)
  generalize hs3 : ({ s with r := (tellR x1) s.r } : Ts) = s3 at r3 t3 se3
  replace hs3 := Lib.hid hs3
  replace k3 := Lib.hid (k0.out.trans k3)
  replace t3 := Lib.hid t3
  replace r3 := Lib.hid r3
  replace se3 := Lib.hid se3
  clear H3
  have hE : ({ s with r := adjR 1 s.r } : Ts) = s3 := by
    have x1e := hx1.out
    have g2e := g2.out
    rw [← x1e] at g2e
    have h2e := h2.out
    have g1e := g1.out
    rw [← hs3.out]
    try dsimp only
    rw [← x1e]
    have q1 : (!hasP s.r.P 1 || decide (153 < s.r.A)) = false := by rw [h1, decide_eq_false g1e]; rfl
    have q2 : (!hasP (s.r.P) 8 || decide (9 < s.r.A % 16)) = false := by rw [h2e, decide_eq_false g2e]; rfl
    have e1 : adjA 1 s.r = s.r := by unfold adjA; simp only [q1]; rfl
    have e2 : adjB 1 (s.r) = s.r := by unfold adjB; simp only [q2]; rfl
    have e3 : adjR 1 s.r = tellR (adjB 1 (adjA 1 s.r)).A (adjB 1 (adjA 1 s.r)) := rfl
    rw [e3, e1, e2]
    all_goals rfl
  have hR := Ran.set (adjR 1) s
  rw [hE] at hR
  have hf := Lib.hid (F.out (.returned (unitV ())) _ (Post.done hR t3.out k3.out trivial (by have := se3.out; omega)))
  unfold unitV at hf
  clear F
  go_wp2_with fail
  first | exact hf.out | (go_end0; exact hf.out) | (go_ret; exact hf.out)
theorem adjustDifference_any (h : Tk K z s w) (hl : s.l.length ≤ 80) :
    Calls Tryz.prog 144 #[.pointer (some ⟨K.b, 0, none⟩)] w (Post K z s w (M.set (adjR 1)) unitV (fun _ => True) 12) := by
  cases h1 : hasP s.r.P 1
  · skip
    cases h2 : hasP (flagP s.r.P 1 false) 8
    · exact adjustDifference_flag_flag_any h h1 h2 hl
    · by_cases g2 : 9 < ((s.r.A + 160) % 256) % 16
      · exact adjustDifference_flag_big_any h h1 h2 g2 hl
      · exact adjustDifference_flag_no_any h h1 h2 g2 hl
  · by_cases g1 : 153 < s.r.A
    · skip
      cases h2 : hasP (flagP s.r.P 1 false) 8
      · exact adjustDifference_big_flag_any h h1 g1 h2 hl
      · by_cases g2 : 9 < ((s.r.A + 160) % 256) % 16
        · exact adjustDifference_big_big_any h h1 g1 h2 g2 hl
        · exact adjustDifference_big_no_any h h1 g1 h2 g2 hl
    · skip
      cases h2 : hasP s.r.P 8
      · exact adjustDifference_no_flag_any h h1 g1 h2 hl
      · by_cases g2 : 9 < s.r.A % 16
        · exact adjustDifference_no_big_any h h1 g1 h2 g2 hl
        · exact adjustDifference_no_no_any h h1 g1 h2 g2 hl
end
end Go.Proofs.YtknlbmjncginnaaGreatDoor
