/-
  Words (gentm.py writes this text).
-/
import Derived.Test.YthecghmhohkcmaaGreatDoorTWo
import Derived.StillTailTactics
namespace Go.Proofs.YthecghmhohkcmaaGreatDoor
open Go.RowKit Go.Shelf
set_option maxRecDepth 100000
set_option maxHeartbeats 1000000
set_option linter.unusedVariables false

section
variable {K : Cx} {z : Zs} {s : Ts} {w w' : World} {c cd nd co no : Nat} {nm fm : ByteArray}
def moveWordM (no : Nat) : M Unit := M.bind (wordInPageM (no % 256)) fun v => M.bind (M.set (layR v)) fun _ => M.bind (M.ask yaR) fun y => M.set (tellWR y)
theorem moveWordW_any (h : Tk K z s w) (hz : Zd K z w c nm fm cd nd co no) (hcd : cd < 256) (hne : cd ≠ 68) (hl : s.l.length ≤ 80) :
    Calls Tryz.prog 89 #[.pointer (some ⟨K.b, 0, none⟩)] w (Post K z s w (moveWordM no) unitV (fun _ => True) 12) := by
  obtain ⟨Q, hQ, F⟩ := post_name (Post K z s w (moveWordM no) unitV (fun _ => True) 12)
  rw [hQ]
  clear hQ
  replace F := Lib.hid F
  have n68 : ((cd : Int) == 68) = false := by rw [beq_eq_false_iff_ne]; omega
  have t0 := Lib.hid h
  have k0 := Lib.hid (Kp.refl K w)
  have hz0 := Lib.hid hz
  have hl0 := Lib.hid hl
  have se0 := Lib.hid (show s.l.length ≤ s.l.length + 0 from Nat.le_refl _)
  clear h hz hl
  go_enter Tryz.func89, Tryz.ntmps89
  have d14 := t0.out.lookD.1.trans (by rw [hz0.out.d0])
  have d15 := t0.out.lookD.2.1.trans (by rw [hz0.out.d1])
  have d16 := t0.out.lookD.2.2.1
  have d17 := t0.out.lookD.2.2.2
  have d18 := t0.out.lookO.1.trans (by rw [hz0.out.o0])
  have d19 := t0.out.lookO.2.1.trans (by rw [hz0.out.o1])
  have d20 := t0.out.lookO.2.2.1
  have d21 := t0.out.lookO.2.2.2
  have H1 := wordOf_any co no z.o2 z.o3 t0.out hz0.out.no (by have := hl0.out; have := se0.out; omega)
  replace H1 := Lib.hid H1
  go_wp2_with fail
  with_reducible refine H1.out.mono ?_
  rintro e w1 ⟨s1, t1, k1, l1, (⟨vw, r1, q1, rfl⟩ | ⟨g1, rfl⟩)⟩
  rotate_left
  · skip
    have hf := Lib.hid (F.out lackE _ ⟨s1, t1, k0.out.trans k1, (by have := se0.out; omega), .inr ⟨Gave.bind g1, rfl⟩⟩)
    clear F
    unfold lackE at hf ⊢
    go_wp2_with fail
    first | exact hf.out | exact ⟨rfl, hf.out⟩
  replace k1 := Lib.hid (k0.out.trans k1)
  have se1 := Lib.hid (show s1.l.length ≤ s.l.length + 2 from (by have := se0.out; omega))
  replace t1 := Lib.hid t1
  replace r1 := Lib.hid r1
  clear H1 l1
  unfold wordV
  clear d14 d15 d16 d17
  clear d18 d19 d20 d21
  have hvw := Lib.hid q1
  have H2 := layYA_any vw t1.out hvw.out
  replace H2 := Lib.hid H2
  go_wp2_with fail
  with_reducible refine H2.out.mono ?_
  rintro e w2 ⟨rfl, t2, k2⟩
  have r2 := Ran.set (layR vw) s1
  have se2 := (show ({ s1 with r := (layR vw) s1.r } : Ts).l.length ≤ s.l.length + 2 from se1.out)
  generalize hs2 : ({ s1 with r := (layR vw) s1.r } : Ts) = s2 at r2 t2 se2
  replace hs2 := Lib.hid hs2
  replace k2 := Lib.hid (k1.out.trans k2)
  replace t2 := Lib.hid t2
  replace r2 := Lib.hid r2
  replace se2 := Lib.hid se2
  clear H2
  have hy := Lib.hid (yaR_lt t2.out.ok)
  obtain ⟨yy, hyy, yyb⟩ : ∃ x : Nat, yaR s2.r = x ∧ x < 65536 := ⟨_, rfl, hy.out⟩
  replace hyy := Lib.hid hyy
  have ay := Lib.hid (show Ran (M.ask (yaR)) s2 yy s2 from by have ha := Ran.ask (yaR) s2; (try dsimp only at ha); rw [hyy.out] at ha; exact ha)
  have HY := ya_any t2.out
  rw [hyy.out] at HY
  have H3 := HY
  replace H3 := Lib.hid H3
  go_wp2_with fail
  with_reducible refine H3.out.mono ?_
  rintro e w3 ⟨rfl, q3, hw3⟩
  have b3 : Below w2.heap.size w2 w3 := by rw [hw3]; exact below_drewN (Below.refl _ _) _
  clear hw3
  have t3 := Lib.hid (t2.out.below b3)
  have k3 := Lib.hid (k2.out.trans (Kp.below b3))
  clear b3 H3
  have H4 := tellWord_any yy t3.out yyb
  replace H4 := Lib.hid H4
  go_wp2_with fail
  with_reducible refine H4.out.mono ?_
  rintro e w4 ⟨rfl, t4, k4⟩
  have r4 := Ran.set (tellWR yy) s2
  have se4 := (show ({ s2 with r := (tellWR yy) s2.r } : Ts).l.length ≤ s.l.length + 2 from se2.out)
  generalize hs4 : ({ s2 with r := (tellWR yy) s2.r } : Ts) = s4 at r4 t4 se4
  replace hs4 := Lib.hid hs4
  replace k4 := Lib.hid (k3.out.trans k4)
  replace t4 := Lib.hid t4
  replace r4 := Lib.hid r4
  replace se4 := Lib.hid se4
  clear H4
  have e_yy := hyy.out
  try subst e_yy
  have hf := Lib.hid (F.out (.returned (unitV ())) _ (Post.done (r1.out.bind (r2.out.bind (ay.out.bind (r4.out)))) t4.out k4.out trivial (by have := se4.out; omega)))
  unfold unitV at hf
  clear F
  go_wp2_with fail
  first | exact hf.out | (go_end0; exact hf.out) | (go_ret; exact hf.out)
def storeWordM (nd : Nat) : M Unit := M.bind (M.ask yaR) fun v => writeWordM nd v
theorem moveWordD_any (h : Tk K z s w) (hz : Zd K z w c nm fm cd nd co no) (hcd : cd = 68) (hl : s.l.length ≤ 80) :
    Calls Tryz.prog 89 #[.pointer (some ⟨K.b, 0, none⟩)] w (Post K z s w (storeWordM nd) unitV (fun _ => True) 12) := by
  obtain ⟨Q, hQ, F⟩ := post_name (Post K z s w (storeWordM nd) unitV (fun _ => True) 12)
  rw [hQ]
  clear hQ
  replace F := Lib.hid F
  have t0 := Lib.hid h
  have k0 := Lib.hid (Kp.refl K w)
  have hz0 := Lib.hid hz
  have hl0 := Lib.hid hl
  have se0 := Lib.hid (show s.l.length ≤ s.l.length + 0 from Nat.le_refl _)
  clear h hz hl
  go_enter Tryz.func89, Tryz.ntmps89
  have d14 := t0.out.lookD.1.trans (by rw [hz0.out.d0])
  have d15 := t0.out.lookD.2.1.trans (by rw [hz0.out.d1])
  have d16 := t0.out.lookD.2.2.1
  have d17 := t0.out.lookD.2.2.2
  rw [hcd, show ((68 : Nat) : Int) = 68 from rfl] at d14
  have hy := Lib.hid (yaR_lt t0.out.ok)
  obtain ⟨yy, hyy, yyb⟩ : ∃ x : Nat, yaR s.r = x ∧ x < 65536 := ⟨_, rfl, hy.out⟩
  replace hyy := Lib.hid hyy
  have ay := Lib.hid (show Ran (M.ask (yaR)) s yy s from by have ha := Ran.ask (yaR) s; (try dsimp only at ha); rw [hyy.out] at ha; exact ha)
  go_upto_region 1 with (fail)
  have t1 := Lib.hid t0.out.drew
  have k1 := Lib.hid k0.out.drew
  have HY := ya_any t1.out
  rw [hyy.out] at HY
  replace HY := Lib.hid HY
  have HW := Lib.hid fun (W : World) (tW : Tk K z s W) => writeWord_any cd nd yy z.d2 z.d3 tW hz0.out.nd yyb (by have := hl0.out; omega)
  have hS := Lib.hid fun (s1 : Ts) (W : World) (tW : Tk K z s1 W) => (show W.cell? ⟨K.b, 14, none⟩ = some (.int .u8 68) ∧ W.cell? ⟨K.b, 15, none⟩ = some (.int .u16 (nd : Nat)) ∧ W.cell? ⟨K.b, 16, none⟩ = some z.d2 ∧ W.cell? ⟨K.b, 17, none⟩ = some z.d3 from ⟨tW.lookD.1.trans (by rw [hz0.out.d0, hcd]; rfl), tW.lookD.2.1.trans (by rw [hz0.out.d1]), tW.lookD.2.2.1, tW.lookD.2.2.2⟩)
  simp only [hcd, show ((68 : Nat) : Int) = 68 from rfl] at HW
  clear d14 d15 d16 d17
  go_region_held2 (fun W => W.cell? ⟨K.b, 14, none⟩ = some (.int .u8 68) ∧ W.cell? ⟨K.b, 15, none⟩ = some (.int .u16 (nd : Nat)) ∧ W.cell? ⟨K.b, 16, none⟩ = some z.d2 ∧ W.cell? ⟨K.b, 17, none⟩ = some z.d3) (first | exact hS.out _ _ t1.out | exact hS.out _ _ ty.out | exact hS.out _ _ t9.out) (first
    | (go_at_call 121; (with_reducible refine HY.out.mono ?_); rintro e wy ⟨rfl, qy, hwy⟩; have by1 : Below w.drew.heap.size w.drew wy := (by rw [hwy]; exact below_drewN (Below.refl _ _) _); have ty := Lib.hid (t1.out.below by1); have ky := Lib.hid (k1.out.trans (Kp.below by1)); clear hwy)
    | (go_at_call 120; (with_reducible refine (HW.out _ ty.out).mono ?_); rintro e w9 ⟨rfl, t9, k9⟩; replace k9 := Lib.hid (ky.out.trans k9); replace t9 := Lib.hid t9))
  all_goals
    have e_yy := hyy.out
    subst e_yy
    have hf := Lib.hid (F.out (.returned (unitV ())) _ (Post.done (ay.out.bind (Ran.writeWord s nd (yaR s.r) hy.out)) t9.out k9.out trivial (by unfold wrS; simp)))
    unfold unitV at hf
    clear F HW HY hS
    go_wp2_with fail
    first | exact hf.out | (go_end0; exact hf.out) | (exact bodyPost_ret (results_none rfl _ _ _) rfl hf.out)
def addWN (k : Nat) : ByteArray := match k with | 0 => ⟨#[65, 68, 68, 87]⟩ | _ => ⟨#[83, 85, 66, 87]⟩
/-- A word added, or taken away: its bytes. -/
def addWV (k v : Nat) : Nat := match k with | 0 => v | _ => 65535 - v
def addWordM (k no : Nat) : M Unit := M.bind (wordInPageM (no % 256)) fun v => M.bind (M.set (putR 1 (k != 0))) fun _ => M.bind (M.ask fun r => sumV r r.A (addWV k v % 256)) fun a => M.bind (M.set fun r => sumR r.A (addWV k v % 256) r) fun _ => M.bind (M.set fun r => { r with A := a }) fun _ => M.bind (M.ask fun r => sumV r r.Y (addWV k v / 256)) fun y => M.bind (M.set fun r => sumR r.Y (addWV k v / 256) r) fun _ => M.bind (M.set fun r => { r with Y := y }) fun _ => M.bind (M.ask yaR) fun x => M.set (tellWR x)
theorem not_eq16 (o : Nat) (h : o < 65536) : 65535 ^^^ o = 65535 - o := by
  have h1 : 65535 - o = 65535 - o := rfl
  apply Nat.eq_of_testBit_eq
  intro i
  rw [show 65535 - o = 2 ^ 16 - (o + 1) by omega, Nat.testBit_xor, Nat.testBit_two_pow_sub_succ (by omega), show (65535 : Nat) = 2 ^ 16 - 1 from rfl, Nat.testBit_two_pow_sub_one]
  by_cases hi : i < 16
  · simp [hi]
  · simp [hi]
    exact Nat.testBit_lt_two_pow (Nat.lt_of_lt_of_le h (Nat.pow_le_pow_right (n := 2) (by decide) (Nat.le_of_not_lt hi)))
theorem addWord0_any (h : Tk K z s w) (hz : Zd K z w c nm fm cd nd co no) (hn : z.n1 = .string (addWN 0)) (hl : s.l.length ≤ 80) :
    Calls Tryz.prog 90 #[.pointer (some ⟨K.b, 0, none⟩)] w (Post K z s w (addWordM 0 no) unitV (fun _ => True) 12) := by
  obtain ⟨Q, hQ, F⟩ := post_name (Post K z s w (addWordM 0 no) unitV (fun _ => True) 12)
  rw [hQ]
  clear hQ
  replace F := Lib.hid F
  unfold addWN at hn
  try dsimp only at hn
  have t0 := Lib.hid h
  have k0 := Lib.hid (Kp.refl K w)
  have hz0 := Lib.hid hz
  have hl0 := Lib.hid hl
  have se0 := Lib.hid (show s.l.length ≤ s.l.length + 0 from Nat.le_refl _)
  clear h hz hl
  go_enter Tryz.func90, Tryz.ntmps90
  have d18 := t0.out.lookO.1.trans (by rw [hz0.out.o0])
  have d19 := t0.out.lookO.2.1.trans (by rw [hz0.out.o1])
  have d20 := t0.out.lookO.2.2.1
  have d21 := t0.out.lookO.2.2.2
  have H1 := wordOf_any co no z.o2 z.o3 t0.out hz0.out.no (by have := hl0.out; have := se0.out; omega)
  replace H1 := Lib.hid H1
  go_wp2_with fail
  with_reducible refine H1.out.mono ?_
  rintro e w1 ⟨s1, t1, k1, l1, (⟨vw, r1, q1, rfl⟩ | ⟨g1, rfl⟩)⟩
  rotate_left
  · skip
    have hf := Lib.hid (F.out lackE _ ⟨s1, t1, k0.out.trans k1, (by have := se0.out; omega), .inr ⟨Gave.bind g1, rfl⟩⟩)
    clear F
    unfold lackE at hf ⊢
    go_wp2_with fail
    first | exact hf.out | exact ⟨rfl, hf.out⟩
  replace k1 := Lib.hid (k0.out.trans k1)
  have se1 := Lib.hid (show s1.l.length ≤ s.l.length + 2 from (by have := se0.out; omega))
  replace t1 := Lib.hid t1
  replace r1 := Lib.hid r1
  clear H1 l1
  unfold wordV
  clear d18 d19 d20 d21
  have hvw := Lib.hid q1
  have c10 := t1.out.lookN.2.1
  rw [hn] at c10
  obtain ⟨xv, hxv, xvb⟩ : ∃ x : Nat, addWV 0 vw = x ∧ x < 65536 := ⟨_, rfl, (by have := hvw.out; show vw < 65536; omega)⟩
  replace hxv := Lib.hid hxv
  obtain ⟨lo, hlo, lob, low⟩ : ∃ x : Nat, xv % 256 = x ∧ x < 256 ∧ IntKind.u8.wrap (xv : Int) = (x : Int) := ⟨_, rfl, Nat.mod_lt _ (by decide), (by simp only [IntKind.wrap_u8]; omega)⟩
  replace hlo := Lib.hid hlo
  obtain ⟨hi, hhi, hib, hiw⟩ : ∃ x : Nat, xv / 256 = x ∧ x < 256 ∧ IntKind.u8.wrap ((xv : Int) / 256) = (x : Int) := ⟨_, rfl, (by omega), (by simp only [IntKind.wrap_u8]; omega)⟩
  replace hhi := Lib.hid hhi
  have low : (xv : Int) % 256 = (lo : Int) := by have := hlo.out; omega
  have hvx := Lib.hid (show xv = vw from hxv.out.symm)
  have vlo : (vw : Int) % 256 = (lo : Int) := by rw [← hvx.out]; exact low
  have vhi : IntKind.u8.wrap ((vw : Int) / 256) = (hi : Int) := by rw [← hvx.out]; exact hiw
  have H2 := put_any 1 1 rfl false t1.out (by decide)
  replace H2 := Lib.hid H2
  go_wp2_with fail
  with_reducible refine H2.out.mono ?_
  rintro e w2 ⟨rfl, t2, k2⟩
  have r2 := Ran.set (putR 1 false) s1
  have se2 := (show ({ s1 with r := (putR 1 false) s1.r } : Ts).l.length ≤ s.l.length + 2 from se1.out)
  generalize hs2 : ({ s1 with r := (putR 1 false) s1.r } : Ts) = s2 at r2 t2 se2
  replace hs2 := Lib.hid hs2
  replace k2 := Lib.hid (k1.out.trans k2)
  replace t2 := Lib.hid t2
  replace r2 := Lib.hid r2
  replace se2 := Lib.hid se2
  clear H2
  clear c10
  have c0 := t2.out.look.1.1
  have hA := Lib.hid t2.out.ok.A
  obtain ⟨sa, hsa, sab⟩ : ∃ x : Nat, sumV s2.r s2.r.A lo = x ∧ x < 256 := ⟨_, rfl, sumV_lt _ _ _⟩
  replace hsa := Lib.hid hsa
  have HS := sum_any s2.r.A lo t2.out hA.out lob
  rw [hsa.out] at HS
  have asa := Lib.hid (show Ran (M.ask (fun r : Rp => sumV r r.A lo)) s2 sa s2 from by have ha := Ran.ask (fun r : Rp => sumV r r.A lo) s2; (try dsimp only at ha); rw [hsa.out] at ha; exact ha)
  have H3 := HS
  replace H3 := Lib.hid H3
  go_wp2_with fail
  with_reducible refine H3.out.mono ?_
  rintro e w3 ⟨rfl, t3, k3⟩
  have r3 := Ran.set (fun r => sumR r.A lo r) s2
  have se3 := (show ({ s2 with r := (fun r => sumR r.A lo r) s2.r } : Ts).l.length ≤ s.l.length + 2 from se2.out)
  generalize hs3 : ({ s2 with r := (fun r => sumR r.A lo r) s2.r } : Ts) = s3 at r3 t3 se3
  replace hs3 := Lib.hid hs3
  replace k3 := Lib.hid (k2.out.trans k3)
  replace t3 := Lib.hid t3
  replace r3 := Lib.hid r3
  replace se3 := Lib.hid se3
  clear H3
  clear c0 hA
  have c0 := t3.out.look.1.1
  have f0 := t3.out.look.2.2 0
  have t4 := t3.out.toA sa sab
  have r4 := Ran.set (fun r => { r with A := sa }) s3
  have se4 := (show ({ s3 with r := { s3.r with A := sa } } : Ts).l.length ≤ s.l.length + 2 from se3.out)
  generalize hs4 : ({ s3 with r := { s3.r with A := sa } } : Ts) = s4 at r4 t4 se4
  have k4 := Lib.hid (k3.out.set 0 (.int .u8 (sa : Nat)))
  replace hs4 := Lib.hid hs4
  replace t4 := Lib.hid t4
  replace r4 := Lib.hid r4
  replace se4 := Lib.hid se4
  have c2 := t4.out.look.1.2.2.1
  have hY := Lib.hid t4.out.ok.Y
  obtain ⟨sy, hsy, syb⟩ : ∃ x : Nat, sumV s4.r s4.r.Y hi = x ∧ x < 256 := ⟨_, rfl, sumV_lt _ _ _⟩
  replace hsy := Lib.hid hsy
  have HT := sum_any s4.r.Y hi t4.out hY.out hib
  rw [hsy.out] at HT
  have asy := Lib.hid (show Ran (M.ask (fun r : Rp => sumV r r.Y hi)) s4 sy s4 from by have ha := Ran.ask (fun r : Rp => sumV r r.Y hi) s4; (try dsimp only at ha); rw [hsy.out] at ha; exact ha)
  have H5 := HT
  replace H5 := Lib.hid H5
  go_wp2_with fail
  with_reducible refine H5.out.mono ?_
  rintro e w5 ⟨rfl, t5, k5⟩
  have r5 := Ran.set (fun r => sumR r.Y hi r) s4
  have se5 := (show ({ s4 with r := (fun r => sumR r.Y hi r) s4.r } : Ts).l.length ≤ s.l.length + 2 from se4.out)
  generalize hs5 : ({ s4 with r := (fun r => sumR r.Y hi r) s4.r } : Ts) = s5 at r5 t5 se5
  replace hs5 := Lib.hid hs5
  replace k5 := Lib.hid (k4.out.trans k5)
  replace t5 := Lib.hid t5
  replace r5 := Lib.hid r5
  replace se5 := Lib.hid se5
  clear H5
  clear c0 f0 c2 hY
  have c2 := t5.out.look.1.2.2.1
  have f2 := t5.out.look.2.2 2
  have t6 := t5.out.toY sy syb
  have r6 := Ran.set (fun r => { r with Y := sy }) s5
  have se6 := (show ({ s5 with r := { s5.r with Y := sy } } : Ts).l.length ≤ s.l.length + 2 from se5.out)
  generalize hs6 : ({ s5 with r := { s5.r with Y := sy } } : Ts) = s6 at r6 t6 se6
  have k6 := Lib.hid (k5.out.set 2 (.int .u8 (sy : Nat)))
  replace hs6 := Lib.hid hs6
  replace t6 := Lib.hid t6
  replace r6 := Lib.hid r6
  replace se6 := Lib.hid se6
  have hy := Lib.hid (yaR_lt t6.out.ok)
  obtain ⟨yy, hyy, yyb⟩ : ∃ x : Nat, yaR s6.r = x ∧ x < 65536 := ⟨_, rfl, hy.out⟩
  replace hyy := Lib.hid hyy
  have ay := Lib.hid (show Ran (M.ask (yaR)) s6 yy s6 from by have ha := Ran.ask (yaR) s6; (try dsimp only at ha); rw [hyy.out] at ha; exact ha)
  have HY := ya_any t6.out
  rw [hyy.out] at HY
  have H7 := HY
  replace H7 := Lib.hid H7
  go_wp2_with fail
  with_reducible refine H7.out.mono ?_
  rintro e w7 ⟨rfl, q7, hw7⟩
  have b7 : Below (w5.setCell ⟨K.b, 2, none⟩ (.int .u8 (sy : Nat))).heap.size (w5.setCell ⟨K.b, 2, none⟩ (.int .u8 (sy : Nat))) w7 := by rw [hw7]; exact below_drewN (Below.refl _ _) _
  clear hw7
  have t7 := Lib.hid (t6.out.below b7)
  have k7 := Lib.hid (k6.out.trans (Kp.below b7))
  clear b7 H7
  have H8 := tellWord_any yy t7.out yyb
  replace H8 := Lib.hid H8
  go_wp2_with fail
  with_reducible refine H8.out.mono ?_
  rintro e w8 ⟨rfl, t8, k8⟩
  have r8 := Ran.set (tellWR yy) s6
  have se8 := (show ({ s6 with r := (tellWR yy) s6.r } : Ts).l.length ≤ s.l.length + 2 from se6.out)
  generalize hs8 : ({ s6 with r := (tellWR yy) s6.r } : Ts) = s8 at r8 t8 se8
  replace hs8 := Lib.hid hs8
  replace k8 := Lib.hid (k7.out.trans k8)
  replace t8 := Lib.hid t8
  replace r8 := Lib.hid r8
  replace se8 := Lib.hid se8
  clear H8
  have e_xv := hxv.out
  try subst e_xv
  have e_lo := hlo.out
  try subst e_lo
  have e_hi := hhi.out
  try subst e_hi
  have e_sa := hsa.out
  try subst e_sa
  have e_sy := hsy.out
  try subst e_sy
  have e_yy := hyy.out
  try subst e_yy
  have hf := Lib.hid (F.out (.returned (unitV ())) _ (Post.done (r1.out.bind (r2.out.bind (asa.out.bind (r3.out.bind (r4.out.bind (asy.out.bind (r5.out.bind (r6.out.bind (ay.out.bind (r8.out)))))))))) t8.out k8.out trivial (by have := se8.out; omega)))
  unfold unitV at hf
  clear F
  go_wp2_with fail
  first | exact hf.out | (go_end0; exact hf.out) | (go_ret; exact hf.out)
theorem addWord1_any (h : Tk K z s w) (hz : Zd K z w c nm fm cd nd co no) (hn : z.n1 = .string (addWN 1)) (hl : s.l.length ≤ 80) :
    Calls Tryz.prog 90 #[.pointer (some ⟨K.b, 0, none⟩)] w (Post K z s w (addWordM 1 no) unitV (fun _ => True) 12) := by
  obtain ⟨Q, hQ, F⟩ := post_name (Post K z s w (addWordM 1 no) unitV (fun _ => True) 12)
  rw [hQ]
  clear hQ
  replace F := Lib.hid F
  unfold addWN at hn
  try dsimp only at hn
  have t0 := Lib.hid h
  have k0 := Lib.hid (Kp.refl K w)
  have hz0 := Lib.hid hz
  have hl0 := Lib.hid hl
  have se0 := Lib.hid (show s.l.length ≤ s.l.length + 0 from Nat.le_refl _)
  clear h hz hl
  go_enter Tryz.func90, Tryz.ntmps90
  have d18 := t0.out.lookO.1.trans (by rw [hz0.out.o0])
  have d19 := t0.out.lookO.2.1.trans (by rw [hz0.out.o1])
  have d20 := t0.out.lookO.2.2.1
  have d21 := t0.out.lookO.2.2.2
  have H1 := wordOf_any co no z.o2 z.o3 t0.out hz0.out.no (by have := hl0.out; have := se0.out; omega)
  replace H1 := Lib.hid H1
  go_wp2_with fail
  with_reducible refine H1.out.mono ?_
  rintro e w1 ⟨s1, t1, k1, l1, (⟨vw, r1, q1, rfl⟩ | ⟨g1, rfl⟩)⟩
  rotate_left
  · skip
    have hf := Lib.hid (F.out lackE _ ⟨s1, t1, k0.out.trans k1, (by have := se0.out; omega), .inr ⟨Gave.bind g1, rfl⟩⟩)
    clear F
    unfold lackE at hf ⊢
    go_wp2_with fail
    first | exact hf.out | exact ⟨rfl, hf.out⟩
  replace k1 := Lib.hid (k0.out.trans k1)
  have se1 := Lib.hid (show s1.l.length ≤ s.l.length + 2 from (by have := se0.out; omega))
  replace t1 := Lib.hid t1
  replace r1 := Lib.hid r1
  clear H1 l1
  unfold wordV
  clear d18 d19 d20 d21
  have hvw := Lib.hid q1
  have c10 := t1.out.lookN.2.1
  rw [hn] at c10
  obtain ⟨xv, hxv, xvb, xvw⟩ : ∃ x : Nat, addWV 1 vw = x ∧ x < 65536 ∧ bits .xor .u16 IntKind.u16.max (vw : Int) = (x : Int) := ⟨_, rfl, (by have := hvw.out; show 65535 - vw < 65536; omega), (by show _ = ((65535 - vw : Nat) : Int); rw [← not_eq16 vw hvw.out]; exact u16_xor_nat 65535 vw (by decide) hvw.out)⟩
  replace hxv := Lib.hid hxv
  obtain ⟨lo, hlo, lob, low⟩ : ∃ x : Nat, xv % 256 = x ∧ x < 256 ∧ IntKind.u8.wrap (xv : Int) = (x : Int) := ⟨_, rfl, Nat.mod_lt _ (by decide), (by simp only [IntKind.wrap_u8]; omega)⟩
  replace hlo := Lib.hid hlo
  obtain ⟨hi, hhi, hib, hiw⟩ : ∃ x : Nat, xv / 256 = x ∧ x < 256 ∧ IntKind.u8.wrap ((xv : Int) / 256) = (x : Int) := ⟨_, rfl, (by omega), (by simp only [IntKind.wrap_u8]; omega)⟩
  replace hhi := Lib.hid hhi
  have low : (xv : Int) % 256 = (lo : Int) := by have := hlo.out; omega
  have hvx := Lib.hid (show xv = 65535 - vw from hxv.out.symm)
  have H2 := put_any 1 1 rfl true t1.out (by decide)
  replace H2 := Lib.hid H2
  go_wp2_with fail
  with_reducible refine H2.out.mono ?_
  rintro e w2 ⟨rfl, t2, k2⟩
  have r2 := Ran.set (putR 1 true) s1
  have se2 := (show ({ s1 with r := (putR 1 true) s1.r } : Ts).l.length ≤ s.l.length + 2 from se1.out)
  generalize hs2 : ({ s1 with r := (putR 1 true) s1.r } : Ts) = s2 at r2 t2 se2
  replace hs2 := Lib.hid hs2
  replace k2 := Lib.hid (k1.out.trans k2)
  replace t2 := Lib.hid t2
  replace r2 := Lib.hid r2
  replace se2 := Lib.hid se2
  clear H2
  clear c10
  have c0 := t2.out.look.1.1
  have hA := Lib.hid t2.out.ok.A
  obtain ⟨sa, hsa, sab⟩ : ∃ x : Nat, sumV s2.r s2.r.A lo = x ∧ x < 256 := ⟨_, rfl, sumV_lt _ _ _⟩
  replace hsa := Lib.hid hsa
  have HS := sum_any s2.r.A lo t2.out hA.out lob
  rw [hsa.out] at HS
  have asa := Lib.hid (show Ran (M.ask (fun r : Rp => sumV r r.A lo)) s2 sa s2 from by have ha := Ran.ask (fun r : Rp => sumV r r.A lo) s2; (try dsimp only at ha); rw [hsa.out] at ha; exact ha)
  have H3 := HS
  replace H3 := Lib.hid H3
  go_wp2_with fail
  with_reducible refine H3.out.mono ?_
  rintro e w3 ⟨rfl, t3, k3⟩
  have r3 := Ran.set (fun r => sumR r.A lo r) s2
  have se3 := (show ({ s2 with r := (fun r => sumR r.A lo r) s2.r } : Ts).l.length ≤ s.l.length + 2 from se2.out)
  generalize hs3 : ({ s2 with r := (fun r => sumR r.A lo r) s2.r } : Ts) = s3 at r3 t3 se3
  replace hs3 := Lib.hid hs3
  replace k3 := Lib.hid (k2.out.trans k3)
  replace t3 := Lib.hid t3
  replace r3 := Lib.hid r3
  replace se3 := Lib.hid se3
  clear H3
  clear c0 hA
  have c0 := t3.out.look.1.1
  have f0 := t3.out.look.2.2 0
  have t4 := t3.out.toA sa sab
  have r4 := Ran.set (fun r => { r with A := sa }) s3
  have se4 := (show ({ s3 with r := { s3.r with A := sa } } : Ts).l.length ≤ s.l.length + 2 from se3.out)
  generalize hs4 : ({ s3 with r := { s3.r with A := sa } } : Ts) = s4 at r4 t4 se4
  have k4 := Lib.hid (k3.out.set 0 (.int .u8 (sa : Nat)))
  replace hs4 := Lib.hid hs4
  replace t4 := Lib.hid t4
  replace r4 := Lib.hid r4
  replace se4 := Lib.hid se4
  have c2 := t4.out.look.1.2.2.1
  have hY := Lib.hid t4.out.ok.Y
  obtain ⟨sy, hsy, syb⟩ : ∃ x : Nat, sumV s4.r s4.r.Y hi = x ∧ x < 256 := ⟨_, rfl, sumV_lt _ _ _⟩
  replace hsy := Lib.hid hsy
  have HT := sum_any s4.r.Y hi t4.out hY.out hib
  rw [hsy.out] at HT
  have asy := Lib.hid (show Ran (M.ask (fun r : Rp => sumV r r.Y hi)) s4 sy s4 from by have ha := Ran.ask (fun r : Rp => sumV r r.Y hi) s4; (try dsimp only at ha); rw [hsy.out] at ha; exact ha)
  have H5 := HT
  replace H5 := Lib.hid H5
  go_wp2_with fail
  with_reducible refine H5.out.mono ?_
  rintro e w5 ⟨rfl, t5, k5⟩
  have r5 := Ran.set (fun r => sumR r.Y hi r) s4
  have se5 := (show ({ s4 with r := (fun r => sumR r.Y hi r) s4.r } : Ts).l.length ≤ s.l.length + 2 from se4.out)
  generalize hs5 : ({ s4 with r := (fun r => sumR r.Y hi r) s4.r } : Ts) = s5 at r5 t5 se5
  replace hs5 := Lib.hid hs5
  replace k5 := Lib.hid (k4.out.trans k5)
  replace t5 := Lib.hid t5
  replace r5 := Lib.hid r5
  replace se5 := Lib.hid se5
  clear H5
  clear c0 f0 c2 hY
  have c2 := t5.out.look.1.2.2.1
  have f2 := t5.out.look.2.2 2
  have t6 := t5.out.toY sy syb
  have r6 := Ran.set (fun r => { r with Y := sy }) s5
  have se6 := (show ({ s5 with r := { s5.r with Y := sy } } : Ts).l.length ≤ s.l.length + 2 from se5.out)
  generalize hs6 : ({ s5 with r := { s5.r with Y := sy } } : Ts) = s6 at r6 t6 se6
  have k6 := Lib.hid (k5.out.set 2 (.int .u8 (sy : Nat)))
  replace hs6 := Lib.hid hs6
  replace t6 := Lib.hid t6
  replace r6 := Lib.hid r6
  replace se6 := Lib.hid se6
  have hy := Lib.hid (yaR_lt t6.out.ok)
  obtain ⟨yy, hyy, yyb⟩ : ∃ x : Nat, yaR s6.r = x ∧ x < 65536 := ⟨_, rfl, hy.out⟩
  replace hyy := Lib.hid hyy
  have ay := Lib.hid (show Ran (M.ask (yaR)) s6 yy s6 from by have ha := Ran.ask (yaR) s6; (try dsimp only at ha); rw [hyy.out] at ha; exact ha)
  have HY := ya_any t6.out
  rw [hyy.out] at HY
  have H7 := HY
  replace H7 := Lib.hid H7
  go_wp2_with fail
  with_reducible refine H7.out.mono ?_
  rintro e w7 ⟨rfl, q7, hw7⟩
  have b7 : Below (w5.setCell ⟨K.b, 2, none⟩ (.int .u8 (sy : Nat))).heap.size (w5.setCell ⟨K.b, 2, none⟩ (.int .u8 (sy : Nat))) w7 := by rw [hw7]; exact below_drewN (Below.refl _ _) _
  clear hw7
  have t7 := Lib.hid (t6.out.below b7)
  have k7 := Lib.hid (k6.out.trans (Kp.below b7))
  clear b7 H7
  have H8 := tellWord_any yy t7.out yyb
  replace H8 := Lib.hid H8
  go_wp2_with fail
  with_reducible refine H8.out.mono ?_
  rintro e w8 ⟨rfl, t8, k8⟩
  have r8 := Ran.set (tellWR yy) s6
  have se8 := (show ({ s6 with r := (tellWR yy) s6.r } : Ts).l.length ≤ s.l.length + 2 from se6.out)
  generalize hs8 : ({ s6 with r := (tellWR yy) s6.r } : Ts) = s8 at r8 t8 se8
  replace hs8 := Lib.hid hs8
  replace k8 := Lib.hid (k7.out.trans k8)
  replace t8 := Lib.hid t8
  replace r8 := Lib.hid r8
  replace se8 := Lib.hid se8
  clear H8
  have e_xv := hxv.out
  try subst e_xv
  have e_lo := hlo.out
  try subst e_lo
  have e_hi := hhi.out
  try subst e_hi
  have e_sa := hsa.out
  try subst e_sa
  have e_sy := hsy.out
  try subst e_sy
  have e_yy := hyy.out
  try subst e_yy
  have hf := Lib.hid (F.out (.returned (unitV ())) _ (Post.done (r1.out.bind (r2.out.bind (asa.out.bind (r3.out.bind (r4.out.bind (asy.out.bind (r5.out.bind (r6.out.bind (ay.out.bind (r8.out)))))))))) t8.out k8.out trivial (by have := se8.out; omega)))
  unfold unitV at hf
  clear F
  go_wp2_with fail
  first | exact hf.out | (go_end0; exact hf.out) | (go_ret; exact hf.out)
end
end Go.Proofs.YthecghmhohkcmaaGreatDoor
