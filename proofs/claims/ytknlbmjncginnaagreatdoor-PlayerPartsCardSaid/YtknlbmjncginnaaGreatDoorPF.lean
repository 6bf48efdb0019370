/-
  Words that operands mean; branches.
-/
import Derived.Test.YtknlbmjncginnaaGreatDoorPD
import Derived.StillTailTactics
namespace Go.Proofs.YtknlbmjncginnaaGreatDoor
open Go.RowKit Go.Shelf
set_option maxRecDepth 100000
set_option maxHeartbeats 1000000
set_option linter.unusedVariables false

theorem wrap_i8' (n : Int) : IntKind.i8.wrap n = (n + 128) % 256 - 128 := by
  simp only [IntKind.wrap, IntKind.bits, IntKind.signed]
  simp
  split <;> omega
section
variable {K : Cx} {z : Zs} {s : Ts} {w w' : World} {c cd nd co no : Nat} {nm fm : ByteArray}
theorem wordOf_any (cc n : Nat) (v2 v3 : Value) (h : Tk K z s w) (hn : n < 65536) (hl : s.l.length ≤ 98) :
    Calls Tryz.prog 204 #[.pointer (some ⟨K.b, 0, none⟩), .agg #[.int .u8 (cc : Nat), .int .u16 (n : Nat), v2, v3]] w (Post K z s w (wordInPageM (n % 256)) wordV (fun v => v < 65536) 2) := by
  have hA := h.alloc (.cells #[.int .u8 (cc : Nat), .int .u16 (n : Nat), v2, v3] 96)
  have hX := Whole.fresh w 96 #[.int .u8 (cc : Nat), .int .u16 (n : Nat), v2, v3]
  have hK := Lib.hid ((Kp.refl K w).alloc (.cells #[.int .u8 (cc : Nat), .int .u16 (n : Nat), v2, v3] 96))
  have x1 := hX.cell 1
  simp only [List.getElem?_toArray, List.getElem?_cons_zero, List.getElem?_cons_succ] at x1
  obtain ⟨y, hy, hyb, hyw⟩ : ∃ y : Nat, n % 256 = y ∧ y < 256 ∧ (n : Int) % 256 = (y : Int) := ⟨_, rfl, Nat.mod_lt _ (by decide), by omega⟩
  rw [hy]
  have H1 := Lib.hid (wordInPage_any y hA hyb hl)
  obtain ⟨Q, hQ, F⟩ := post_name (Post K z s w (wordInPageM y) wordV (fun v => v < 65536) 2)
  rw [hQ]
  replace F := Lib.hid F
  clear h hA hX hQ hy hl
  go_enter Tryz.func204, Tryz.ntmps204
  go_upto_region 1 with (fail)
  generalize w.alloc (.cells #[.int .u8 (cc : Nat), .int .u16 (n : Nat), v2, v3] 96) = W0 at *
  generalize w.heap.size = X at *
  go_wp2_with fail
  with_reducible refine H1.out.mono ?_
  rintro e w1 ⟨s1, t1, k1, l1, h1⟩
  have hf := Lib.hid (F.out e _ ⟨s1, t1, hK.out.trans k1, l1, h1⟩)
  clear F H1 t1 k1 l1
  rcases h1 with ⟨v, _, _, rfl⟩ | ⟨_, rfl⟩
  · unfold wordV at hf ⊢
    go_wp2_with fail
    exact hf.out
  · unfold lackE at hf ⊢
    go_wp2_with fail
    first | exact hf.out | exact ⟨rfl, hf.out⟩
/-- A word is written where an operand means one. -/
def wrS (s : Ts) (n v : Nat) : Ts := { s with l := s.l ++ [(2, placeR s.r (n % 256), v % 256), (2, placeR s.r ((n + 1) % 256), v / 256)] }
def writeWordM (n v : Nat) : M Unit := M.bind (M.ask fun r => placeR r (n % 256)) fun a => M.bind (M.write a (v % 256)) fun _ => M.bind (M.ask fun r => placeR r ((n + 1) % 256)) fun b => M.write b (v / 256)
theorem Ran.writeWord (s : Ts) (n v : Nat) (hv : v < 65536) : Ran (writeWordM n v) s () (wrS s n v) := by
  have h1 := Ran.write (placeR s.r (n % 256)) (v % 256) s (placeR_lt _ _ (Nat.mod_lt _ (by decide))) (Nat.mod_lt _ (by decide))
  have h2 := Ran.write (placeR s.r ((n + 1) % 256)) (v / 256) { s with l := s.l ++ [(2, placeR s.r (n % 256), v % 256)] } (placeR_lt _ _ (Nat.mod_lt _ (by decide))) (by omega)
  have h3 := (Ran.ask (fun r => placeR r (n % 256)) s).bind (k := fun a => M.bind (M.write a (v % 256)) fun _ => M.bind (M.ask fun r => placeR r ((n + 1) % 256)) fun b => M.write b (v / 256)) (h1.bind ((Ran.ask (fun r => placeR r ((n + 1) % 256)) _).bind h2))
  dsimp only at h3
  rw [List.append_assoc] at h3
  exact h3
theorem writeWord_any (cc n v : Nat) (v2 v3 : Value) (h : Tk K z s w) (hn : n < 65536) (hv : v < 65536) (hl : s.l.length ≤ 98) :
    Calls Tryz.prog 201 #[.pointer (some ⟨K.b, 0, none⟩), .agg #[.int .u8 (cc : Nat), .int .u16 (n : Nat), v2, v3], .int .u16 (v : Nat)] w fun e w' => e = .returned (.tuple #[]) ∧ Tk K z (wrS s n v) w' ∧ Kp K w w' := by
  have hA := h.alloc (.cells #[.int .u8 (cc : Nat), .int .u16 (n : Nat), v2, v3] 96)
  have hX := Whole.fresh w 96 #[.int .u8 (cc : Nat), .int .u16 (n : Nat), v2, v3]
  have hK := Lib.hid ((Kp.refl K w).alloc (.cells #[.int .u8 (cc : Nat), .int .u16 (n : Nat), v2, v3] 96))
  have x1 := hX.cell 1
  simp only [List.getElem?_toArray, List.getElem?_cons_zero, List.getElem?_cons_succ] at x1
  unfold wrS
  obtain ⟨y, hy, hyb, hyw⟩ : ∃ y : Nat, n % 256 = y ∧ y < 256 ∧ (n : Int) % 256 = (y : Int) := ⟨_, rfl, Nat.mod_lt _ (by decide), by omega⟩
  obtain ⟨u, hu, hub, huw⟩ : ∃ u : Nat, (n + 1) % 256 = u ∧ u < 256 ∧ ((y : Int) + 1) % 256 = (u : Int) := ⟨_, rfl, Nat.mod_lt _ (by decide), by omega⟩
  obtain ⟨lo, hlo, hlb, hlw⟩ : ∃ u : Nat, v % 256 = u ∧ u < 256 ∧ (v : Int) % 256 = (u : Int) := ⟨_, rfl, Nat.mod_lt _ (by decide), by omega⟩
  obtain ⟨hi, hhi, hhb, hhw⟩ : ∃ u : Nat, v / 256 = u ∧ u < 256 ∧ IntKind.u8.wrap ((v : Int) / 256) = (u : Int) := ⟨_, rfl, by omega, by simp only [IntKind.wrap_u8]; omega⟩
  rw [hy, hu, hlo, hhi]
  have P1 := Lib.hid (place_any y hA hyb)
  have H1 := Lib.hid (write_any (placeR s.r y) lo hA (placeR_lt _ _ hyb) hlb (by omega))
  have H2 := Lib.hid fun (W : World) (t1 : Tk K z { s with l := s.l ++ [(2, placeR s.r y, lo)] } W) => And.intro (place_any u t1 hub) (write_any (placeR s.r u) hi t1 (placeR_lt _ _ hub) hhb (by simp; omega))
  have hst := Lib.hid fun (W : World) (k1 : Kp K (w.alloc (.cells #[.int .u8 (cc : Nat), .int .u16 (n : Nat), v2, v3] 96)) W) => (k1.stay hA hX).cell 1
  simp only [List.getElem?_toArray, List.getElem?_cons_zero, List.getElem?_cons_succ] at hst
  dsimp only at H2
  rw [List.append_assoc, List.singleton_append] at H2
  generalize placeR s.r y = a1 at *
  generalize placeR s.r u = a2 at *
  clear h hA hX hy hu hlo hhi hl
  go_enter Tryz.func201, Tryz.ntmps201
  go_upto_region 1 with (fail)
  generalize w.alloc (.cells #[.int .u8 (cc : Nat), .int .u16 (n : Nat), v2, v3] 96) = W0 at *
  generalize w.heap.size = X at *
  go_wp2_with fail
  with_reducible refine P1.out.mono ?_
  rintro e w0 ⟨rfl, hw0⟩
  rw [hw0]
  clear P1 hw0
  go_wp2_with fail
  with_reducible refine H1.out.mono ?_
  rintro e w1 ⟨rfl, t1, k1⟩
  have y1 := hst.out _ k1
  obtain ⟨P2, H3⟩ := H2.out _ t1
  replace k1 := Lib.hid (hK.out.trans k1)
  replace P2 := Lib.hid P2
  replace H3 := Lib.hid H3
  clear H1 H2 t1 x1 hst
  go_wp2_with fail
  with_reducible refine P2.out.mono ?_
  rintro e w0 ⟨rfl, hw0⟩
  rw [hw0]
  clear P2 hw0
  go_wp2_with fail
  with_reducible refine H3.out.mono ?_
  rintro e w2 ⟨rfl, t2, k2⟩
  have hf := Lib.hid (And.intro t2 (k1.out.trans k2))
  clear H3 t2 k2
  go_wp2_with fail
  go_end0
  exact ⟨rfl, hf.out⟩
/-- A branch that is taken, or not. -/
def bto (pc n : Nat) : Nat := (pc + n % 256 + (if n % 256 < 128 then 0 else 65280)) % 65536
def brS (is : Bool) (n : Nat) (s : Ts) : Ts := if is then { s with l := s.l ++ [(0, 0, 0), (0, 0, 0)], r := { s.r with Pc := bto s.r.Pc n } } else s
def branchM (is : Bool) (n : Nat) : M Unit := if is then M.bind (M.idles 2) fun _ => M.set fun r => { r with Pc := bto r.Pc n } else M.pure ()
theorem Ran.branch (is : Bool) (n : Nat) (s : Ts) : Ran (branchM is n) s () (brS is n s) := by
  unfold branchM brS
  cases is
  · rw [if_neg (by decide), if_neg (by decide)]; exact Ran.pure () s
  · rw [if_pos rfl, if_pos rfl]
    exact (Ran.idles s 2).bind (Ran.set (fun r => { r with Pc := bto r.Pc n }) _)
theorem branchIf_any (is : Bool) (h : Tk K z s w) (hz : Zd K z w c nm fm cd nd co no) (hl : s.l.length ≤ 90) :
    Calls Tryz.prog 238 #[.pointer (some ⟨K.b, 0, none⟩), .bool is] w fun e w' => e = .returned (.tuple #[]) ∧ Tk K z (brS is no s) w' ∧ Kp K w w' := by
  have H0 := Lib.hid (And.intro h (Kp.refl K w))
  have H1 := Lib.hid (idles_any 2 2 rfl h (by omega))
  have hno := hz.no
  have HL := Lib.hid fun (W : World) (t1 : Tk K z (idleS s 2) W) => And.intro t1.look.2.1.1 (And.intro (t1.look.2.2 5) (And.intro (t1.lookO.2.1.trans (by rw [hz.o1])) (t1.toPc (bto s.r.Pc no) (Nat.mod_lt _ (by decide)))))
  have hP := h.ok.Pc
  unfold idleS at H1 HL
  unfold brS
  dsimp only at HL
  cases is with
  | false =>
    rw [if_neg (by decide)]
    clear h hz hl H1 HL
    go_enter Tryz.func238, Tryz.ntmps238
    go_wp2_with fail
    exact bodyPost_ret (results_none rfl _ _ _) rfl ⟨rfl, H0.out⟩
  | true =>
    rw [if_pos rfl]
    obtain ⟨pt, hto⟩ : ∃ pt, bto s.r.Pc no = pt := ⟨_, rfl⟩
    rw [hto] at HL ⊢
    have ec : IntKind.u16.wrap ((s.r.Pc : Int) + IntKind.u16.wrap (IntKind.i8.wrap (no : Int))) = (pt : Int) := by
      rw [← hto]
      unfold bto
      simp only [IntKind.wrap_u16, wrap_i8']
      split <;> omega
    replace hto := Lib.hid hto
    clear h hz hl H0
    generalize s.r.Pc = pc at *
    go_enter Tryz.func238, Tryz.ntmps238
    go_wp2_with fail
    with_reducible refine H1.out.mono ?_
    rintro e w1 ⟨rfl, t1, k1⟩
    obtain ⟨d5, f5, d19, t2⟩ := HL.out _ t1
    have hf := Lib.hid (And.intro t2 (k1.set 5 (.int .u16 (pt : Nat))))
    clear H1 HL t1 t2 k1
    go_upto_region 2 with (fail)
    go_still_tail 16, (by kernel_rfl)
    show wpList _ _ _ _ _ w1.drew
    have f5 : w1.drew.frozen? ⟨K.b, 5, none⟩ = false := f5
    have d5 : w1.drew.cell? ⟨K.b, 5, none⟩ = some (.int .u16 pc) := d5
    have hf : Hid (Tk K z { s with l := s.l ++ List.replicate 2 (0, 0, 0), r := { s.r with Pc := pt } } (w1.drew.setCell ⟨K.b, 5, none⟩ (.int .u16 (pt : Nat))) ∧ Kp K w (w1.drew.setCell ⟨K.b, 5, none⟩ (.int .u16 (pt : Nat)))) := Lib.hid ⟨hf.out.1.drew, hf.out.2.drew⟩
    generalize w1.drew = w2 at *
    go_wp2_with fail
    go_end0
    exact ⟨rfl, hf.out⟩
end
end Go.Proofs.YtknlbmjncginnaaGreatDoor
namespace Go.Proofs.YtknlbmjncginnaaGreatDoor
open Go.RowKit Go.Shelf
set_option maxRecDepth 100000
set_option maxHeartbeats 1000000
set_option linter.unusedVariables false

section
variable {K : Cx} {z : Zs} {s : Ts} {w w' : World} {c cd nd co no : Nat} {nm fm : ByteArray}
def moveWordM (no : Nat) : M Unit := M.bind (wordInPageM (no % 256)) fun v => M.bind (M.set (layR v)) fun _ => M.bind (M.ask yaR) fun y => M.set (tellWR y)
theorem moveWordW_any (h : Tk K z s w) (hz : Zd K z w c nm fm cd nd co no) (hcd : cd < 256) (hne : cd ≠ 68) (hl : s.l.length ≤ 80) :
    Calls Tryz.prog 150 #[.pointer (some ⟨K.b, 0, none⟩)] w (Post K z s w (moveWordM no) unitV (fun _ => True) 12) := by
  obtain ⟨Q, hQ, F⟩ := post_name (Post K z s w (moveWordM no) unitV (fun _ => True) 12)
  rw [hQ]
  clear hQ
  replace F := Lib.hid F
  have n68 : ((cd : Int) == 68) = false := by rw [beq_eq_false_iff_ne]; omega
  have t0 := Lib.hid h
  have k0 := Lib.hid (Kp.refl K w)
  have hz0 := Lib.hid hz
  have hl0 := Lib.hid hl
  have se0 := Lib.hid (show s.l.length ≤ s.l.length + 0 from Nat.le_refl _)
  clear h hz hl
  go_enter Tryz.func150, Tryz.ntmps150
  have d14 := t0.out.lookD.1.trans (by rw [hz0.out.d0])
  have d15 := t0.out.lookD.2.1.trans (by rw [hz0.out.d1])
  have d16 := t0.out.lookD.2.2.1
  have d17 := t0.out.lookD.2.2.2
  have d18 := t0.out.lookO.1.trans (by rw [hz0.out.o0])
  have d19 := t0.out.lookO.2.1.trans (by rw [hz0.out.o1])
  have d20 := t0.out.lookO.2.2.1
  have d21 := t0.out.lookO.2.2.2
  have H1 := wordOf_any co no z.o2 z.o3 t0.out hz0.out.no (by have := hl0.out; have := se0.out; omega)
  replace H1 := Lib.hid H1
  go_wp2_with fail
  with_reducible refine H1.out.mono ?_
  rintro e w1 ⟨s1, t1, k1, l1, (⟨vw, r1, q1, rfl⟩ | ⟨g1, rfl⟩)⟩
  rotate_left
  · skip
    have hf := Lib.hid (F.out lackE _ ⟨s1, t1, k0.out.trans k1, (by have := se0.out; omega), .inr ⟨Gave.bind g1, rfl⟩⟩)
    clear F
    unfold lackE at hf ⊢
    go_wp2_with fail
    first | exact hf.out | exact ⟨rfl, hf.out⟩
  replace k1 := Lib.hid (k0.out.trans k1)
  have se1 := Lib.hid (show s1.l.length ≤ s.l.length + 2 from (by have := se0.out; omega))
  replace t1 := Lib.hid t1
  replace r1 := Lib.hid r1
  clear H1 l1
  unfold wordV
  clear d14 d15 d16 d17
  clear d18 d19 d20 d21
  have hvw := Lib.hid q1
  have H2 := layYA_any vw t1.out hvw.out
  replace H2 := Lib.hid H2
  go_wp2_with fail
  with_reducible refine H2.out.mono ?_
  rintro e w2 ⟨rfl, t2, k2⟩
  have r2 := Ran.set (layR vw) s1
  have se2 := (show ({ s1 with r := (layR vw) s1.r } : Ts).l.length ≤ s.l.length + 2 from se1.out)
  generalize hs2 : ({ s1 with r := (layR vw) s1.r } : Ts) = s2 at r2 t2 se2
  replace hs2 := Lib.hid hs2
  replace k2 := Lib.hid (k1.out.trans k2)
  replace t2 := Lib.hid t2
  replace r2 := Lib.hid r2
  replace se2 := Lib.hid se2
  clear H2
  have hy := Lib.hid (yaR_lt t2.out.ok)
  obtain ⟨yy, hyy, yyb⟩ : ∃ x : Nat, yaR s2.r = x ∧ x < 65536 := ⟨_, rfl, hy.out⟩
  replace hyy := Lib.hid hyy
  have ay := Lib.hid (show Ran (M.ask (yaR)) s2 yy s2 from by have ha := Ran.ask (yaR) s2; (try dsimp only at ha); rw [hyy.out] at ha; exact ha)
  have HY := ya_any t2.out
  rw [hyy.out] at HY
  have H3 := HY
  replace H3 := Lib.hid H3
  go_wp2_with fail
  with_reducible refine H3.out.mono ?_
  rintro e w3 ⟨rfl, q3, hw3⟩
  have b3 : Below w2.heap.size w2 w3 := by rw [hw3]; exact below_drewN (Below.refl _ _) _
  clear hw3
  have t3 := Lib.hid (t2.out.below b3)
  have k3 := Lib.hid (k2.out.trans (Kp.below b3))
  clear b3 H3
  have H4 := tellWord_any yy t3.out yyb
  replace H4 := Lib.hid H4
  go_wp2_with fail
  with_reducible refine H4.out.mono ?_
  rintro e w4 ⟨rfl, t4, k4⟩
  have r4 := Ran.set (tellWR yy) s2
  have se4 := (show ({ s2 with r := (tellWR yy) s2.r } : Ts).l.length ≤ s.l.length + 2 from se2.out)
  generalize hs4 : ({ s2 with r := (tellWR yy) s2.r } : Ts) = s4 at r4 t4 se4
  replace hs4 := Lib.hid hs4
  replace k4 := Lib.hid (k3.out.trans k4)
  replace t4 := Lib.hid t4
  replace r4 := Lib.hid r4
  replace se4 := Lib.hid se4
  clear H4
  have e_yy := hyy.out
  try subst e_yy
  have hf := Lib.hid (F.out (.returned (unitV ())) _ (Post.done (r1.out.bind (r2.out.bind (ay.out.bind (r4.out)))) t4.out k4.out trivial (by have := se4.out; omega)))
  unfold unitV at hf
  clear F
  go_wp2_with fail
  first | exact hf.out | (go_end0; exact hf.out) | (go_ret; exact hf.out)
def storeWordM (nd : Nat) : M Unit := M.bind (M.ask yaR) fun v => writeWordM nd v
theorem moveWordD_any (h : Tk K z s w) (hz : Zd K z w c nm fm cd nd co no) (hcd : cd = 68) (hl : s.l.length ≤ 80) :
    Calls Tryz.prog 150 #[.pointer (some ⟨K.b, 0, none⟩)] w (Post K z s w (storeWordM nd) unitV (fun _ => True) 12) := by
  obtain ⟨Q, hQ, F⟩ := post_name (Post K z s w (storeWordM nd) unitV (fun _ => True) 12)
  rw [hQ]
  clear hQ
  replace F := Lib.hid F
  have t0 := Lib.hid h
  have k0 := Lib.hid (Kp.refl K w)
  have hz0 := Lib.hid hz
  have hl0 := Lib.hid hl
  have se0 := Lib.hid (show s.l.length ≤ s.l.length + 0 from Nat.le_refl _)
  clear h hz hl
  go_enter Tryz.func150, Tryz.ntmps150
  have d14 := t0.out.lookD.1.trans (by rw [hz0.out.d0])
  have d15 := t0.out.lookD.2.1.trans (by rw [hz0.out.d1])
  have d16 := t0.out.lookD.2.2.1
  have d17 := t0.out.lookD.2.2.2
  rw [hcd, show ((68 : Nat) : Int) = 68 from rfl] at d14
  have hy := Lib.hid (yaR_lt t0.out.ok)
  obtain ⟨yy, hyy, yyb⟩ : ∃ x : Nat, yaR s.r = x ∧ x < 65536 := ⟨_, rfl, hy.out⟩
  replace hyy := Lib.hid hyy
  have ay := Lib.hid (show Ran (M.ask (yaR)) s yy s from by have ha := Ran.ask (yaR) s; (try dsimp only at ha); rw [hyy.out] at ha; exact ha)
  go_upto_region 1 with (fail)
  have t1 := Lib.hid t0.out.drew
  have k1 := Lib.hid k0.out.drew
  have HY := ya_any t1.out
  rw [hyy.out] at HY
  replace HY := Lib.hid HY
  have HW := Lib.hid fun (W : World) (tW : Tk K z s W) => writeWord_any cd nd yy z.d2 z.d3 tW hz0.out.nd yyb (by have := hl0.out; omega)
  have hS := Lib.hid fun (s1 : Ts) (W : World) (tW : Tk K z s1 W) => (show W.cell? ⟨K.b, 14, none⟩ = some (.int .u8 68) ∧ W.cell? ⟨K.b, 15, none⟩ = some (.int .u16 (nd : Nat)) ∧ W.cell? ⟨K.b, 16, none⟩ = some z.d2 ∧ W.cell? ⟨K.b, 17, none⟩ = some z.d3 from ⟨tW.lookD.1.trans (by rw [hz0.out.d0, hcd]; rfl), tW.lookD.2.1.trans (by rw [hz0.out.d1]), tW.lookD.2.2.1, tW.lookD.2.2.2⟩)
  simp only [hcd, show ((68 : Nat) : Int) = 68 from rfl] at HW
  clear d14 d15 d16 d17
  go_region_held2 (fun W => W.cell? ⟨K.b, 14, none⟩ = some (.int .u8 68) ∧ W.cell? ⟨K.b, 15, none⟩ = some (.int .u16 (nd : Nat)) ∧ W.cell? ⟨K.b, 16, none⟩ = some z.d2 ∧ W.cell? ⟨K.b, 17, none⟩ = some z.d3) (first | exact hS.out _ _ t1.out | exact hS.out _ _ ty.out | exact hS.out _ _ t9.out) (first
    | (go_at_call 202; (with_reducible refine HY.out.mono ?_); rintro e wy ⟨rfl, qy, hwy⟩; have by1 : Below w.drew.heap.size w.drew wy := (by rw [hwy]; exact below_drewN (Below.refl _ _) _); have ty := Lib.hid (t1.out.below by1); have ky := Lib.hid (k1.out.trans (Kp.below by1)); clear hwy)
    | (go_at_call 201; (with_reducible refine (HW.out _ ty.out).mono ?_); rintro e w9 ⟨rfl, t9, k9⟩; replace k9 := Lib.hid (ky.out.trans k9); replace t9 := Lib.hid t9))
  all_goals
    have e_yy := hyy.out
    subst e_yy
    have hf := Lib.hid (F.out (.returned (unitV ())) _ (Post.done (ay.out.bind (Ran.writeWord s nd (yaR s.r) hy.out)) t9.out k9.out trivial (by unfold wrS; simp)))
    unfold unitV at hf
    clear F HW HY hS
    go_wp2_with fail
    first | exact hf.out | (go_end0; exact hf.out) | (exact bodyPost_ret (results_none rfl _ _ _) rfl hf.out)
def addWN (k : Nat) : ByteArray := match k with | 0 => ⟨#[65, 68, 68, 87]⟩ | _ => ⟨#[83, 85, 66, 87]⟩
/-- A word added, or taken away: its bytes. -/
def addWV (k v : Nat) : Nat := match k with | 0 => v | _ => 65535 - v
def addWordM (k no : Nat) : M Unit := M.bind (wordInPageM (no % 256)) fun v => M.bind (M.set (putR 1 (k != 0))) fun _ => M.bind (M.ask fun r => sumV r r.A (addWV k v % 256)) fun a => M.bind (M.set fun r => sumR r.A (addWV k v % 256) r) fun _ => M.bind (M.set fun r => { r with A := a }) fun _ => M.bind (M.ask fun r => sumV r r.Y (addWV k v / 256)) fun y => M.bind (M.set fun r => sumR r.Y (addWV k v / 256) r) fun _ => M.bind (M.set fun r => { r with Y := y }) fun _ => M.bind (M.ask yaR) fun x => M.set (tellWR x)
theorem not_eq16 (o : Nat) (h : o < 65536) : 65535 ^^^ o = 65535 - o := by
  have h1 : 65535 - o = 65535 - o := rfl
  apply Nat.eq_of_testBit_eq
  intro i
  rw [show 65535 - o = 2 ^ 16 - (o + 1) by omega, Nat.testBit_xor, Nat.testBit_two_pow_sub_succ (by omega), show (65535 : Nat) = 2 ^ 16 - 1 from rfl, Nat.testBit_two_pow_sub_one]
  by_cases hi : i < 16
  · simp [hi]
  · simp [hi]
    exact Nat.testBit_lt_two_pow (Nat.lt_of_lt_of_le h (Nat.pow_le_pow_right (n := 2) (by decide) (Nat.le_of_not_lt hi)))
theorem addWord0_any (h : Tk K z s w) (hz : Zd K z w c nm fm cd nd co no) (hn : z.n1 = .string (addWN 0)) (hl : s.l.length ≤ 80) :
    Calls Tryz.prog 151 #[.pointer (some ⟨K.b, 0, none⟩)] w (Post K z s w (addWordM 0 no) unitV (fun _ => True) 12) := by
  obtain ⟨Q, hQ, F⟩ := post_name (Post K z s w (addWordM 0 no) unitV (fun _ => True) 12)
  rw [hQ]
  clear hQ
  replace F := Lib.hid F
  unfold addWN at hn
  try dsimp only at hn
  have t0 := Lib.hid h
  have k0 := Lib.hid (Kp.refl K w)
  have hz0 := Lib.hid hz
  have hl0 := Lib.hid hl
  have se0 := Lib.hid (show s.l.length ≤ s.l.length + 0 from Nat.le_refl _)
  clear h hz hl
  go_enter Tryz.func151, Tryz.ntmps151
  have d18 := t0.out.lookO.1.trans (by rw [hz0.out.o0])
  have d19 := t0.out.lookO.2.1.trans (by rw [hz0.out.o1])
  have d20 := t0.out.lookO.2.2.1
  have d21 := t0.out.lookO.2.2.2
  have H1 := wordOf_any co no z.o2 z.o3 t0.out hz0.out.no (by have := hl0.out; have := se0.out; omega)
  replace H1 := Lib.hid H1
  go_wp2_with fail
  with_reducible refine H1.out.mono ?_
  rintro e w1 ⟨s1, t1, k1, l1, (⟨vw, r1, q1, rfl⟩ | ⟨g1, rfl⟩)⟩
  rotate_left
  · skip
    have hf := Lib.hid (F.out lackE _ ⟨s1, t1, k0.out.trans k1, (by have := se0.out; omega), .inr ⟨Gave.bind g1, rfl⟩⟩)
    clear F
    unfold lackE at hf ⊢
    go_wp2_with fail
    first | exact hf.out | exact ⟨rfl, hf.out⟩
  replace k1 := Lib.hid (k0.out.trans k1)
  have se1 := Lib.hid (show s1.l.length ≤ s.l.length + 2 from (by have := se0.out; omega))
  replace t1 := Lib.hid t1
  replace r1 := Lib.hid r1
  clear H1 l1
  unfold wordV
  clear d18 d19 d20 d21
  have hvw := Lib.hid q1
  have c10 := t1.out.lookN.2.1
  rw [hn] at c10
  obtain ⟨xv, hxv, xvb⟩ : ∃ x : Nat, addWV 0 vw = x ∧ x < 65536 := ⟨_, rfl, (by have := hvw.out; show vw < 65536; omega)⟩
  replace hxv := Lib.hid hxv
  obtain ⟨lo, hlo, lob, low⟩ : ∃ x : Nat, xv % 256 = x ∧ x < 256 ∧ IntKind.u8.wrap (xv : Int) = (x : Int) := ⟨_, rfl, Nat.mod_lt _ (by decide), (by simp only [IntKind.wrap_u8]; omega)⟩
  replace hlo := Lib.hid hlo
  obtain ⟨hi, hhi, hib, hiw⟩ : ∃ x : Nat, xv / 256 = x ∧ x < 256 ∧ IntKind.u8.wrap ((xv : Int) / 256) = (x : Int) := ⟨_, rfl, (by omega), (by simp only [IntKind.wrap_u8]; omega)⟩
  replace hhi := Lib.hid hhi
  have low : (xv : Int) % 256 = (lo : Int) := by have := hlo.out; omega
  have hvx := Lib.hid (show xv = vw from hxv.out.symm)
  have vlo : (vw : Int) % 256 = (lo : Int) := by rw [← hvx.out]; exact low
  have vhi : IntKind.u8.wrap ((vw : Int) / 256) = (hi : Int) := by rw [← hvx.out]; exact hiw
  have H2 := put_any 1 1 rfl false t1.out (by decide)
  replace H2 := Lib.hid H2
  go_wp2_with fail
  with_reducible refine H2.out.mono ?_
  rintro e w2 ⟨rfl, t2, k2⟩
  have r2 := Ran.set (putR 1 false) s1
  have se2 := (show ({ s1 with r := (putR 1 false) s1.r } : Ts).l.length ≤ s.l.length + 2 from se1.out)
  generalize hs2 : ({ s1 with r := (putR 1 false) s1.r } : Ts) = s2 at r2 t2 se2
  replace hs2 := Lib.hid hs2
  replace k2 := Lib.hid (k1.out.trans k2)
  replace t2 := Lib.hid t2
  replace r2 := Lib.hid r2
  replace se2 := Lib.hid se2
  clear H2
  clear c10
  have c0 := t2.out.look.1.1
  have hA := Lib.hid t2.out.ok.A
  obtain ⟨sa, hsa, sab⟩ : ∃ x : Nat, sumV s2.r s2.r.A lo = x ∧ x < 256 := ⟨_, rfl, sumV_lt _ _ _⟩
  replace hsa := Lib.hid hsa
  have HS := sum_any s2.r.A lo t2.out hA.out lob
  rw [hsa.out] at HS
  have asa := Lib.hid (show Ran (M.ask (fun r : Rp => sumV r r.A lo)) s2 sa s2 from by have ha := Ran.ask (fun r : Rp => sumV r r.A lo) s2; (try dsimp only at ha); rw [hsa.out] at ha; exact ha)
  have H3 := HS
  replace H3 := Lib.hid H3
  go_wp2_with fail
  with_reducible refine H3.out.mono ?_
  rintro e w3 ⟨rfl, t3, k3⟩
  have r3 := Ran.set (fun r => sumR r.A lo r) s2
  have se3 := (show ({ s2 with r := (fun r => sumR r.A lo r) s2.r } : Ts).l.length ≤ s.l.length + 2 from se2.out)
  generalize hs3 : ({ s2 with r := (fun r => sumR r.A lo r) s2.r } : Ts) = s3 at r3 t3 se3
  replace hs3 := Lib.hid hs3
  replace k3 := Lib.hid (k2.out.trans k3)
  replace t3 := Lib.hid t3
  replace r3 := Lib.hid r3
  replace se3 := Lib.hid se3
  clear H3
  clear c0 hA
  have c0 := t3.out.look.1.1
  have f0 := t3.out.look.2.2 0
  have t4 := t3.out.toA sa sab
  have r4 := Ran.set (fun r => { r with A := sa }) s3
  have se4 := (show ({ s3 with r := { s3.r with A := sa } } : Ts).l.length ≤ s.l.length + 2 from se3.out)
  generalize hs4 : ({ s3 with r := { s3.r with A := sa } } : Ts) = s4 at r4 t4 se4
  have k4 := Lib.hid (k3.out.set 0 (.int .u8 (sa : Nat)))
  replace hs4 := Lib.hid hs4
  replace t4 := Lib.hid t4
  replace r4 := Lib.hid r4
  replace se4 := Lib.hid se4
  have c2 := t4.out.look.1.2.2.1
  have hY := Lib.hid t4.out.ok.Y
  obtain ⟨sy, hsy, syb⟩ : ∃ x : Nat, sumV s4.r s4.r.Y hi = x ∧ x < 256 := ⟨_, rfl, sumV_lt _ _ _⟩
  replace hsy := Lib.hid hsy
  have HT := sum_any s4.r.Y hi t4.out hY.out hib
  rw [hsy.out] at HT
  have asy := Lib.hid (show Ran (M.ask (fun r : Rp => sumV r r.Y hi)) s4 sy s4 from by have ha := Ran.ask (fun r : Rp => sumV r r.Y hi) s4; (try dsimp only at ha); rw [hsy.out] at ha; exact ha)
  have H5 := HT
  replace H5 := Lib.hid H5
  go_wp2_with fail
  with_reducible refine H5.out.mono ?_
  rintro e w5 ⟨rfl, t5, k5⟩
  have r5 := Ran.set (fun r => sumR r.Y hi r) s4
  have se5 := (show ({ s4 with r := (fun r => sumR r.Y hi r) s4.r } : Ts).l.length ≤ s.l.length + 2 from se4.out)
  generalize hs5 : ({ s4 with r := (fun r => sumR r.Y hi r) s4.r } : Ts) = s5 at r5 t5 se5
  replace hs5 := Lib.hid hs5
  replace k5 := Lib.hid (k4.out.trans k5)
  replace t5 := Lib.hid t5
  replace r5 := Lib.hid r5
  replace se5 := Lib.hid se5
  clear H5
  clear c0 f0 c2 hY
  have c2 := t5.out.look.1.2.2.1
  have f2 := t5.out.look.2.2 2
  have t6 := t5.out.toY sy syb
  have r6 := Ran.set (fun r => { r with Y := sy }) s5
  have se6 := (show ({ s5 with r := { s5.r with Y := sy } } : Ts).l.length ≤ s.l.length + 2 from se5.out)
  generalize hs6 : ({ s5 with r := { s5.r with Y := sy } } : Ts) = s6 at r6 t6 se6
  have k6 := Lib.hid (k5.out.set 2 (.int .u8 (sy : Nat)))
  replace hs6 := Lib.hid hs6
  replace t6 := Lib.hid t6
  replace r6 := Lib.hid r6
  replace se6 := Lib.hid se6
  have hy := Lib.hid (yaR_lt t6.out.ok)
  obtain ⟨yy, hyy, yyb⟩ : ∃ x : Nat, yaR s6.r = x ∧ x < 65536 := ⟨_, rfl, hy.out⟩
  replace hyy := Lib.hid hyy
  have ay := Lib.hid (show Ran (M.ask (yaR)) s6 yy s6 from by have ha := Ran.ask (yaR) s6; (try dsimp only at ha); rw [hyy.out] at ha; exact ha)
  have HY := ya_any t6.out
  rw [hyy.out] at HY
  have H7 := HY
  replace H7 := Lib.hid H7
  go_wp2_with fail
  with_reducible refine H7.out.mono ?_
  rintro e w7 ⟨rfl, q7, hw7⟩
  have b7 : Below (w5.setCell ⟨K.b, 2, none⟩ (.int .u8 (sy : Nat))).heap.size (w5.setCell ⟨K.b, 2, none⟩ (.int .u8 (sy : Nat))) w7 := by rw [hw7]; exact below_drewN (Below.refl _ _) _
  clear hw7
  have t7 := Lib.hid (t6.out.below b7)
  have k7 := Lib.hid (k6.out.trans (Kp.below b7))
  clear b7 H7
  have H8 := tellWord_any yy t7.out yyb
  replace H8 := Lib.hid H8
  go_wp2_with fail
  with_reducible refine H8.out.mono ?_
  rintro e w8 ⟨rfl, t8, k8⟩
  have r8 := Ran.set (tellWR yy) s6
  have se8 := (show ({ s6 with r := (tellWR yy) s6.r } : Ts).l.length ≤ s.l.length + 2 from se6.out)
  generalize hs8 : ({ s6 with r := (tellWR yy) s6.r } : Ts) = s8 at r8 t8 se8
  replace hs8 := Lib.hid hs8
  replace k8 := Lib.hid (k7.out.trans k8)
  replace t8 := Lib.hid t8
  replace r8 := Lib.hid r8
  replace se8 := Lib.hid se8
  clear H8
  have e_xv := hxv.out
  try subst e_xv
  have e_lo := hlo.out
  try subst e_lo
  have e_hi := hhi.out
  try subst e_hi
  have e_sa := hsa.out
  try subst e_sa
  have e_sy := hsy.out
  try subst e_sy
  have e_yy := hyy.out
  try subst e_yy
  have hf := Lib.hid (F.out (.returned (unitV ())) _ (Post.done (r1.out.bind (r2.out.bind (asa.out.bind (r3.out.bind (r4.out.bind (asy.out.bind (r5.out.bind (r6.out.bind (ay.out.bind (r8.out)))))))))) t8.out k8.out trivial (by have := se8.out; omega)))
  unfold unitV at hf
  clear F
  go_wp2_with fail
  first | exact hf.out | (go_end0; exact hf.out) | (go_ret; exact hf.out)
theorem addWord1_any (h : Tk K z s w) (hz : Zd K z w c nm fm cd nd co no) (hn : z.n1 = .string (addWN 1)) (hl : s.l.length ≤ 80) :
    Calls Tryz.prog 151 #[.pointer (some ⟨K.b, 0, none⟩)] w (Post K z s w (addWordM 1 no) unitV (fun _ => True) 12) := by
  obtain ⟨Q, hQ, F⟩ := post_name (Post K z s w (addWordM 1 no) unitV (fun _ => True) 12)
  rw [hQ]
  clear hQ
  replace F := Lib.hid F
  unfold addWN at hn
  try dsimp only at hn
  have t0 := Lib.hid h
  have k0 := Lib.hid (Kp.refl K w)
  have hz0 := Lib.hid hz
  have hl0 := Lib.hid hl
  have se0 := Lib.hid (show s.l.length ≤ s.l.length + 0 from Nat.le_refl _)
  clear h hz hl
  go_enter Tryz.func151, Tryz.ntmps151
  have d18 := t0.out.lookO.1.trans (by rw [hz0.out.o0])
  have d19 := t0.out.lookO.2.1.trans (by rw [hz0.out.o1])
  have d20 := t0.out.lookO.2.2.1
  have d21 := t0.out.lookO.2.2.2
  have H1 := wordOf_any co no z.o2 z.o3 t0.out hz0.out.no (by have := hl0.out; have := se0.out; omega)
  replace H1 := Lib.hid H1
  go_wp2_with fail
  with_reducible refine H1.out.mono ?_
  rintro e w1 ⟨s1, t1, k1, l1, (⟨vw, r1, q1, rfl⟩ | ⟨g1, rfl⟩)⟩
  rotate_left
  · skip
    have hf := Lib.hid (F.out lackE _ ⟨s1, t1, k0.out.trans k1, (by have := se0.out; omega), .inr ⟨Gave.bind g1, rfl⟩⟩)
    clear F
    unfold lackE at hf ⊢
    go_wp2_with fail
    first | exact hf.out | exact ⟨rfl, hf.out⟩
  replace k1 := Lib.hid (k0.out.trans k1)
  have se1 := Lib.hid (show s1.l.length ≤ s.l.length + 2 from (by have := se0.out; omega))
  replace t1 := Lib.hid t1
  replace r1 := Lib.hid r1
  clear H1 l1
  unfold wordV
  clear d18 d19 d20 d21
  have hvw := Lib.hid q1
  have c10 := t1.out.lookN.2.1
  rw [hn] at c10
  obtain ⟨xv, hxv, xvb, xvw⟩ : ∃ x : Nat, addWV 1 vw = x ∧ x < 65536 ∧ bits .xor .u16 IntKind.u16.max (vw : Int) = (x : Int) := ⟨_, rfl, (by have := hvw.out; show 65535 - vw < 65536; omega), (by show _ = ((65535 - vw : Nat) : Int); rw [← not_eq16 vw hvw.out]; exact u16_xor_nat 65535 vw (by decide) hvw.out)⟩
  replace hxv := Lib.hid hxv
  obtain ⟨lo, hlo, lob, low⟩ : ∃ x : Nat, xv % 256 = x ∧ x < 256 ∧ IntKind.u8.wrap (xv : Int) = (x : Int) := ⟨_, rfl, Nat.mod_lt _ (by decide), (by simp only [IntKind.wrap_u8]; omega)⟩
  replace hlo := Lib.hid hlo
  obtain ⟨hi, hhi, hib, hiw⟩ : ∃ x : Nat, xv / 256 = x ∧ x < 256 ∧ IntKind.u8.wrap ((xv : Int) / 256) = (x : Int) := ⟨_, rfl, (by omega), (by simp only [IntKind.wrap_u8]; omega)⟩
  replace hhi := Lib.hid hhi
  have low : (xv : Int) % 256 = (lo : Int) := by have := hlo.out; omega
  have hvx := Lib.hid (show xv = 65535 - vw from hxv.out.symm)
  have H2 := put_any 1 1 rfl true t1.out (by decide)
  replace H2 := Lib.hid H2
  go_wp2_with fail
  with_reducible refine H2.out.mono ?_
  rintro e w2 ⟨rfl, t2, k2⟩
  have r2 := Ran.set (putR 1 true) s1
  have se2 := (show ({ s1 with r := (putR 1 true) s1.r } : Ts).l.length ≤ s.l.length + 2 from se1.out)
  generalize hs2 : ({ s1 with r := (putR 1 true) s1.r } : Ts) = s2 at r2 t2 se2
  replace hs2 := Lib.hid hs2
  replace k2 := Lib.hid (k1.out.trans k2)
  replace t2 := Lib.hid t2
  replace r2 := Lib.hid r2
  replace se2 := Lib.hid se2
  clear H2
  clear c10
  have c0 := t2.out.look.1.1
  have hA := Lib.hid t2.out.ok.A
  obtain ⟨sa, hsa, sab⟩ : ∃ x : Nat, sumV s2.r s2.r.A lo = x ∧ x < 256 := ⟨_, rfl, sumV_lt _ _ _⟩
  replace hsa := Lib.hid hsa
  have HS := sum_any s2.r.A lo t2.out hA.out lob
  rw [hsa.out] at HS
  have asa := Lib.hid (show Ran (M.ask (fun r : Rp => sumV r r.A lo)) s2 sa s2 from by have ha := Ran.ask (fun r : Rp => sumV r r.A lo) s2; (try dsimp only at ha); rw [hsa.out] at ha; exact ha)
  have H3 := HS
  replace H3 := Lib.hid H3
  go_wp2_with fail
  with_reducible refine H3.out.mono ?_
  rintro e w3 ⟨rfl, t3, k3⟩
  have r3 := Ran.set (fun r => sumR r.A lo r) s2
  have se3 := (show ({ s2 with r := (fun r => sumR r.A lo r) s2.r } : Ts).l.length ≤ s.l.length + 2 from se2.out)
  generalize hs3 : ({ s2 with r := (fun r => sumR r.A lo r) s2.r } : Ts) = s3 at r3 t3 se3
  replace hs3 := Lib.hid hs3
  replace k3 := Lib.hid (k2.out.trans k3)
  replace t3 := Lib.hid t3
  replace r3 := Lib.hid r3
  replace se3 := Lib.hid se3
  clear H3
  clear c0 hA
  have c0 := t3.out.look.1.1
  have f0 := t3.out.look.2.2 0
  have t4 := t3.out.toA sa sab
  have r4 := Ran.set (fun r => { r with A := sa }) s3
  have se4 := (show ({ s3 with r := { s3.r with A := sa } } : Ts).l.length ≤ s.l.length + 2 from se3.out)
  generalize hs4 : ({ s3 with r := { s3.r with A := sa } } : Ts) = s4 at r4 t4 se4
  have k4 := Lib.hid (k3.out.set 0 (.int .u8 (sa : Nat)))
  replace hs4 := Lib.hid hs4
  replace t4 := Lib.hid t4
  replace r4 := Lib.hid r4
  replace se4 := Lib.hid se4
  have c2 := t4.out.look.1.2.2.1
  have hY := Lib.hid t4.out.ok.Y
  obtain ⟨sy, hsy, syb⟩ : ∃ x : Nat, sumV s4.r s4.r.Y hi = x ∧ x < 256 := ⟨_, rfl, sumV_lt _ _ _⟩
  replace hsy := Lib.hid hsy
  have HT := sum_any s4.r.Y hi t4.out hY.out hib
  rw [hsy.out] at HT
  have asy := Lib.hid (show Ran (M.ask (fun r : Rp => sumV r r.Y hi)) s4 sy s4 from by have ha := Ran.ask (fun r : Rp => sumV r r.Y hi) s4; (try dsimp only at ha); rw [hsy.out] at ha; exact ha)
  have H5 := HT
  replace H5 := Lib.hid H5
  go_wp2_with fail
  with_reducible refine H5.out.mono ?_
  rintro e w5 ⟨rfl, t5, k5⟩
  have r5 := Ran.set (fun r => sumR r.Y hi r) s4
  have se5 := (show ({ s4 with r := (fun r => sumR r.Y hi r) s4.r } : Ts).l.length ≤ s.l.length + 2 from se4.out)
  generalize hs5 : ({ s4 with r := (fun r => sumR r.Y hi r) s4.r } : Ts) = s5 at r5 t5 se5
  replace hs5 := Lib.hid hs5
  replace k5 := Lib.hid (k4.out.trans k5)
  replace t5 := Lib.hid t5
  replace r5 := Lib.hid r5
  replace se5 := Lib.hid se5
  clear H5
  clear c0 f0 c2 hY
  have c2 := t5.out.look.1.2.2.1
  have f2 := t5.out.look.2.2 2
  have t6 := t5.out.toY sy syb
  have r6 := Ran.set (fun r => { r with Y := sy }) s5
  have se6 := (show ({ s5 with r := { s5.r with Y := sy } } : Ts).l.length ≤ s.l.length + 2 from se5.out)
  generalize hs6 : ({ s5 with r := { s5.r with Y := sy } } : Ts) = s6 at r6 t6 se6
  have k6 := Lib.hid (k5.out.set 2 (.int .u8 (sy : Nat)))
  replace hs6 := Lib.hid hs6
  replace t6 := Lib.hid t6
  replace r6 := Lib.hid r6
  replace se6 := Lib.hid se6
  have hy := Lib.hid (yaR_lt t6.out.ok)
  obtain ⟨yy, hyy, yyb⟩ : ∃ x : Nat, yaR s6.r = x ∧ x < 65536 := ⟨_, rfl, hy.out⟩
  replace hyy := Lib.hid hyy
  have ay := Lib.hid (show Ran (M.ask (yaR)) s6 yy s6 from by have ha := Ran.ask (yaR) s6; (try dsimp only at ha); rw [hyy.out] at ha; exact ha)
  have HY := ya_any t6.out
  rw [hyy.out] at HY
  have H7 := HY
  replace H7 := Lib.hid H7
  go_wp2_with fail
  with_reducible refine H7.out.mono ?_
  rintro e w7 ⟨rfl, q7, hw7⟩
  have b7 : Below (w5.setCell ⟨K.b, 2, none⟩ (.int .u8 (sy : Nat))).heap.size (w5.setCell ⟨K.b, 2, none⟩ (.int .u8 (sy : Nat))) w7 := by rw [hw7]; exact below_drewN (Below.refl _ _) _
  clear hw7
  have t7 := Lib.hid (t6.out.below b7)
  have k7 := Lib.hid (k6.out.trans (Kp.below b7))
  clear b7 H7
  have H8 := tellWord_any yy t7.out yyb
  replace H8 := Lib.hid H8
  go_wp2_with fail
  with_reducible refine H8.out.mono ?_
  rintro e w8 ⟨rfl, t8, k8⟩
  have r8 := Ran.set (tellWR yy) s6
  have se8 := (show ({ s6 with r := (tellWR yy) s6.r } : Ts).l.length ≤ s.l.length + 2 from se6.out)
  generalize hs8 : ({ s6 with r := (tellWR yy) s6.r } : Ts) = s8 at r8 t8 se8
  replace hs8 := Lib.hid hs8
  replace k8 := Lib.hid (k7.out.trans k8)
  replace t8 := Lib.hid t8
  replace r8 := Lib.hid r8
  replace se8 := Lib.hid se8
  clear H8
  have e_xv := hxv.out
  try subst e_xv
  have e_lo := hlo.out
  try subst e_lo
  have e_hi := hhi.out
  try subst e_hi
  have e_sa := hsa.out
  try subst e_sa
  have e_sy := hsy.out
  try subst e_sy
  have e_yy := hyy.out
  try subst e_yy
  have hf := Lib.hid (F.out (.returned (unitV ())) _ (Post.done (r1.out.bind (r2.out.bind (asa.out.bind (r3.out.bind (r4.out.bind (asy.out.bind (r5.out.bind (r6.out.bind (ay.out.bind (r8.out)))))))))) t8.out k8.out trivial (by have := se8.out; omega)))
  unfold unitV at hf
  clear F
  go_wp2_with fail
  first | exact hf.out | (go_end0; exact hf.out) | (go_ret; exact hf.out)
end
end Go.Proofs.YtknlbmjncginnaaGreatDoor
namespace Go.Proofs.YtknlbmjncginnaaGreatDoor
open Go.RowKit Go.Shelf
set_option maxRecDepth 100000
set_option maxHeartbeats 1000000
set_option linter.unusedVariables false

section
variable {K : Cx} {z : Zs} {s : Ts} {w w' : World} {c cd nd co no : Nat} {nm fm : ByteArray}
theorem halt_any (h : Tk K z s w) (hl : s.l.length ≤ 80) :
    Calls Tryz.prog 219 #[.pointer (some ⟨K.b, 0, none⟩)] w (Post K z s w (M.set fun r => { r with H := true }) unitV (fun _ => True) 12) := by
  obtain ⟨Q, hQ, F⟩ := post_name (Post K z s w (M.set fun r => { r with H := true }) unitV (fun _ => True) 12)
  rw [hQ]
  clear hQ
  replace F := Lib.hid F
  have t0 := Lib.hid h
  have k0 := Lib.hid (Kp.refl K w)
  have hl0 := Lib.hid hl
  have se0 := Lib.hid (show s.l.length ≤ s.l.length + 0 from Nat.le_refl _)
  clear h hl
  go_enter Tryz.func219, Tryz.ntmps219
  have c6 := t0.out.look.2.1.2.1
  have f6 := t0.out.look.2.2 6
  have t1 := t0.out.toH true
  have r1 := Ran.set (fun r => { r with H := true }) s
  have se1 := (show ({ s with r := { s.r with H := true } } : Ts).l.length ≤ s.l.length + 0 from se0.out)
  generalize hs1 : ({ s with r := { s.r with H := true } } : Ts) = s1 at r1 t1 se1
  have k1 := Lib.hid (k0.out.set 6 (.bool true))
  replace hs1 := Lib.hid hs1
  replace t1 := Lib.hid t1
  replace r1 := Lib.hid r1
  replace se1 := Lib.hid se1
  have hf := Lib.hid (F.out (.returned (unitV ())) _ (Post.done (r1.out) t1.out k1.out trivial (by have := se1.out; omega)))
  unfold unitV at hf
  clear F
  go_wp2_with fail
  first | exact hf.out | (go_end0; exact hf.out) | (go_ret; exact hf.out)
theorem nothing_any (h : Tk K z s w) (hl : s.l.length ≤ 80) :
    Calls Tryz.prog 157 #[.pointer (some ⟨K.b, 0, none⟩)] w (Post K z s w (M.pure ()) unitV (fun _ => True) 12) := by
  obtain ⟨Q, hQ, F⟩ := post_name (Post K z s w (M.pure ()) unitV (fun _ => True) 12)
  rw [hQ]
  clear hQ
  replace F := Lib.hid F
  have t0 := Lib.hid h
  have k0 := Lib.hid (Kp.refl K w)
  have hl0 := Lib.hid hl
  have se0 := Lib.hid (show s.l.length ≤ s.l.length + 0 from Nat.le_refl _)
  clear h hl
  go_enter Tryz.func157, Tryz.ntmps157
  have hf := Lib.hid (F.out (.returned (unitV ())) _ (Post.done (Ran.pure () _) t0.out k0.out trivial (by have := se0.out; omega)))
  unfold unitV at hf
  clear F
  go_wp2_with fail
  first | exact hf.out | (go_end0; exact hf.out) | (go_ret; exact hf.out)
theorem putFlagCLRC_any (h : Tk K z s w) (hn : z.n1 = .string ⟨#[67, 76, 82, 67]⟩) (hl : s.l.length ≤ 80) :
    Calls Tryz.prog 156 #[.pointer (some ⟨K.b, 0, none⟩)] w (Post K z s w (M.set (putR 1 false)) unitV (fun _ => True) 12) := by
  obtain ⟨Q, hQ, F⟩ := post_name (Post K z s w (M.set (putR 1 false)) unitV (fun _ => True) 12)
  rw [hQ]
  clear hQ
  replace F := Lib.hid F
  have t0 := Lib.hid h
  have k0 := Lib.hid (Kp.refl K w)
  have hl0 := Lib.hid hl
  have se0 := Lib.hid (show s.l.length ≤ s.l.length + 0 from Nat.le_refl _)
  clear h hl
  go_enter Tryz.func156, Tryz.ntmps156
  have c10 := t0.out.lookN.2.1
  rw [hn] at c10
  have H1 := put_any 1 1 rfl false t0.out (by decide)
  replace H1 := Lib.hid H1
  go_wp2_with fail
  with_reducible refine H1.out.mono ?_
  rintro e w1 ⟨rfl, t1, k1⟩
  have r1 := Ran.set (putR 1 false) s
  have se1 := (show ({ s with r := (putR 1 false) s.r } : Ts).l.length ≤ s.l.length + 0 from se0.out)
  generalize hs1 : ({ s with r := (putR 1 false) s.r } : Ts) = s1 at r1 t1 se1
  replace hs1 := Lib.hid hs1
  replace k1 := Lib.hid (k0.out.trans k1)
  replace t1 := Lib.hid t1
  replace r1 := Lib.hid r1
  replace se1 := Lib.hid se1
  clear H1
  have hf := Lib.hid (F.out (.returned (unitV ())) _ (Post.done (r1.out) t1.out k1.out trivial (by have := se1.out; omega)))
  unfold unitV at hf
  clear F
  go_wp2_with fail
  first | exact hf.out | (go_end0; exact hf.out) | (go_ret; exact hf.out)
theorem putFlagSETC_any (h : Tk K z s w) (hn : z.n1 = .string ⟨#[83, 69, 84, 67]⟩) (hl : s.l.length ≤ 80) :
    Calls Tryz.prog 156 #[.pointer (some ⟨K.b, 0, none⟩)] w (Post K z s w (M.set (putR 1 true)) unitV (fun _ => True) 12) := by
  obtain ⟨Q, hQ, F⟩ := post_name (Post K z s w (M.set (putR 1 true)) unitV (fun _ => True) 12)
  rw [hQ]
  clear hQ
  replace F := Lib.hid F
  have t0 := Lib.hid h
  have k0 := Lib.hid (Kp.refl K w)
  have hl0 := Lib.hid hl
  have se0 := Lib.hid (show s.l.length ≤ s.l.length + 0 from Nat.le_refl _)
  clear h hl
  go_enter Tryz.func156, Tryz.ntmps156
  have c10 := t0.out.lookN.2.1
  rw [hn] at c10
  have H1 := put_any 1 1 rfl true t0.out (by decide)
  replace H1 := Lib.hid H1
  go_wp2_with fail
  with_reducible refine H1.out.mono ?_
  rintro e w1 ⟨rfl, t1, k1⟩
  have r1 := Ran.set (putR 1 true) s
  have se1 := (show ({ s with r := (putR 1 true) s.r } : Ts).l.length ≤ s.l.length + 0 from se0.out)
  generalize hs1 : ({ s with r := (putR 1 true) s.r } : Ts) = s1 at r1 t1 se1
  replace hs1 := Lib.hid hs1
  replace k1 := Lib.hid (k0.out.trans k1)
  replace t1 := Lib.hid t1
  replace r1 := Lib.hid r1
  replace se1 := Lib.hid se1
  clear H1
  have hf := Lib.hid (F.out (.returned (unitV ())) _ (Post.done (r1.out) t1.out k1.out trivial (by have := se1.out; omega)))
  unfold unitV at hf
  clear F
  go_wp2_with fail
  first | exact hf.out | (go_end0; exact hf.out) | (go_ret; exact hf.out)
theorem putFlagCLRP_any (h : Tk K z s w) (hn : z.n1 = .string ⟨#[67, 76, 82, 80]⟩) (hl : s.l.length ≤ 80) :
    Calls Tryz.prog 156 #[.pointer (some ⟨K.b, 0, none⟩)] w (Post K z s w (M.set (putR 32 false)) unitV (fun _ => True) 12) := by
  obtain ⟨Q, hQ, F⟩ := post_name (Post K z s w (M.set (putR 32 false)) unitV (fun _ => True) 12)
  rw [hQ]
  clear hQ
  replace F := Lib.hid F
  have t0 := Lib.hid h
  have k0 := Lib.hid (Kp.refl K w)
  have hl0 := Lib.hid hl
  have se0 := Lib.hid (show s.l.length ≤ s.l.length + 0 from Nat.le_refl _)
  clear h hl
  go_enter Tryz.func156, Tryz.ntmps156
  have c10 := t0.out.lookN.2.1
  rw [hn] at c10
  have H1 := put_any 32 32 rfl false t0.out (by decide)
  replace H1 := Lib.hid H1
  go_wp2_with fail
  with_reducible refine H1.out.mono ?_
  rintro e w1 ⟨rfl, t1, k1⟩
  have r1 := Ran.set (putR 32 false) s
  have se1 := (show ({ s with r := (putR 32 false) s.r } : Ts).l.length ≤ s.l.length + 0 from se0.out)
  generalize hs1 : ({ s with r := (putR 32 false) s.r } : Ts) = s1 at r1 t1 se1
  replace hs1 := Lib.hid hs1
  replace k1 := Lib.hid (k0.out.trans k1)
  replace t1 := Lib.hid t1
  replace r1 := Lib.hid r1
  replace se1 := Lib.hid se1
  clear H1
  have hf := Lib.hid (F.out (.returned (unitV ())) _ (Post.done (r1.out) t1.out k1.out trivial (by have := se1.out; omega)))
  unfold unitV at hf
  clear F
  go_wp2_with fail
  first | exact hf.out | (go_end0; exact hf.out) | (go_ret; exact hf.out)
theorem putFlagSETP_any (h : Tk K z s w) (hn : z.n1 = .string ⟨#[83, 69, 84, 80]⟩) (hl : s.l.length ≤ 80) :
    Calls Tryz.prog 156 #[.pointer (some ⟨K.b, 0, none⟩)] w (Post K z s w (M.set (putR 32 true)) unitV (fun _ => True) 12) := by
  obtain ⟨Q, hQ, F⟩ := post_name (Post K z s w (M.set (putR 32 true)) unitV (fun _ => True) 12)
  rw [hQ]
  clear hQ
  replace F := Lib.hid F
  have t0 := Lib.hid h
  have k0 := Lib.hid (Kp.refl K w)
  have hl0 := Lib.hid hl
  have se0 := Lib.hid (show s.l.length ≤ s.l.length + 0 from Nat.le_refl _)
  clear h hl
  go_enter Tryz.func156, Tryz.ntmps156
  have c10 := t0.out.lookN.2.1
  rw [hn] at c10
  have H1 := put_any 32 32 rfl true t0.out (by decide)
  replace H1 := Lib.hid H1
  go_wp2_with fail
  with_reducible refine H1.out.mono ?_
  rintro e w1 ⟨rfl, t1, k1⟩
  have r1 := Ran.set (putR 32 true) s
  have se1 := (show ({ s with r := (putR 32 true) s.r } : Ts).l.length ≤ s.l.length + 0 from se0.out)
  generalize hs1 : ({ s with r := (putR 32 true) s.r } : Ts) = s1 at r1 t1 se1
  replace hs1 := Lib.hid hs1
  replace k1 := Lib.hid (k0.out.trans k1)
  replace t1 := Lib.hid t1
  replace r1 := Lib.hid r1
  replace se1 := Lib.hid se1
  clear H1
  have hf := Lib.hid (F.out (.returned (unitV ())) _ (Post.done (r1.out) t1.out k1.out trivial (by have := se1.out; omega)))
  unfold unitV at hf
  clear F
  go_wp2_with fail
  first | exact hf.out | (go_end0; exact hf.out) | (go_ret; exact hf.out)
theorem putFlagEI_any (h : Tk K z s w) (hn : z.n1 = .string ⟨#[69, 73]⟩) (hl : s.l.length ≤ 80) :
    Calls Tryz.prog 156 #[.pointer (some ⟨K.b, 0, none⟩)] w (Post K z s w (M.set (putR 4 true)) unitV (fun _ => True) 12) := by
  obtain ⟨Q, hQ, F⟩ := post_name (Post K z s w (M.set (putR 4 true)) unitV (fun _ => True) 12)
  rw [hQ]
  clear hQ
  replace F := Lib.hid F
  have t0 := Lib.hid h
  have k0 := Lib.hid (Kp.refl K w)
  have hl0 := Lib.hid hl
  have se0 := Lib.hid (show s.l.length ≤ s.l.length + 0 from Nat.le_refl _)
  clear h hl
  go_enter Tryz.func156, Tryz.ntmps156
  have c10 := t0.out.lookN.2.1
  rw [hn] at c10
  have H1 := put_any 4 4 rfl true t0.out (by decide)
  replace H1 := Lib.hid H1
  go_wp2_with fail
  with_reducible refine H1.out.mono ?_
  rintro e w1 ⟨rfl, t1, k1⟩
  have r1 := Ran.set (putR 4 true) s
  have se1 := (show ({ s with r := (putR 4 true) s.r } : Ts).l.length ≤ s.l.length + 0 from se0.out)
  generalize hs1 : ({ s with r := (putR 4 true) s.r } : Ts) = s1 at r1 t1 se1
  replace hs1 := Lib.hid hs1
  replace k1 := Lib.hid (k0.out.trans k1)
  replace t1 := Lib.hid t1
  replace r1 := Lib.hid r1
  replace se1 := Lib.hid se1
  clear H1
  have hf := Lib.hid (F.out (.returned (unitV ())) _ (Post.done (r1.out) t1.out k1.out trivial (by have := se1.out; omega)))
  unfold unitV at hf
  clear F
  go_wp2_with fail
  first | exact hf.out | (go_end0; exact hf.out) | (go_ret; exact hf.out)
theorem putFlagDI_any (h : Tk K z s w) (hn : z.n1 = .string ⟨#[68, 73]⟩) (hl : s.l.length ≤ 80) :
    Calls Tryz.prog 156 #[.pointer (some ⟨K.b, 0, none⟩)] w (Post K z s w (M.set (putR 4 false)) unitV (fun _ => True) 12) := by
  obtain ⟨Q, hQ, F⟩ := post_name (Post K z s w (M.set (putR 4 false)) unitV (fun _ => True) 12)
  rw [hQ]
  clear hQ
  replace F := Lib.hid F
  have t0 := Lib.hid h
  have k0 := Lib.hid (Kp.refl K w)
  have hl0 := Lib.hid hl
  have se0 := Lib.hid (show s.l.length ≤ s.l.length + 0 from Nat.le_refl _)
  clear h hl
  go_enter Tryz.func156, Tryz.ntmps156
  have c10 := t0.out.lookN.2.1
  rw [hn] at c10
  have H1 := put_any 4 4 rfl false t0.out (by decide)
  replace H1 := Lib.hid H1
  go_wp2_with fail
  with_reducible refine H1.out.mono ?_
  rintro e w1 ⟨rfl, t1, k1⟩
  have r1 := Ran.set (putR 4 false) s
  have se1 := (show ({ s with r := (putR 4 false) s.r } : Ts).l.length ≤ s.l.length + 0 from se0.out)
  generalize hs1 : ({ s with r := (putR 4 false) s.r } : Ts) = s1 at r1 t1 se1
  replace hs1 := Lib.hid hs1
  replace k1 := Lib.hid (k0.out.trans k1)
  replace t1 := Lib.hid t1
  replace r1 := Lib.hid r1
  replace se1 := Lib.hid se1
  clear H1
  have hf := Lib.hid (F.out (.returned (unitV ())) _ (Post.done (r1.out) t1.out k1.out trivial (by have := se1.out; omega)))
  unfold unitV at hf
  clear F
  go_wp2_with fail
  first | exact hf.out | (go_end0; exact hf.out) | (go_ret; exact hf.out)
theorem putFlagCLRV_any (h : Tk K z s w) (hn : z.n1 = .string ⟨#[67, 76, 82, 86]⟩) (hl : s.l.length ≤ 80) :
    Calls Tryz.prog 156 #[.pointer (some ⟨K.b, 0, none⟩)] w (Post K z s w (M.set (putR 72 false)) unitV (fun _ => True) 12) := by
  obtain ⟨Q, hQ, F⟩ := post_name (Post K z s w (M.set (putR 72 false)) unitV (fun _ => True) 12)
  rw [hQ]
  clear hQ
  replace F := Lib.hid F
  have t0 := Lib.hid h
  have k0 := Lib.hid (Kp.refl K w)
  have hl0 := Lib.hid hl
  have se0 := Lib.hid (show s.l.length ≤ s.l.length + 0 from Nat.le_refl _)
  clear h hl
  go_enter Tryz.func156, Tryz.ntmps156
  have c10 := t0.out.lookN.2.1
  rw [hn] at c10
  have H1 := put_any 72 72 rfl false t0.out (by decide)
  replace H1 := Lib.hid H1
  go_wp2_with fail
  with_reducible refine H1.out.mono ?_
  rintro e w1 ⟨rfl, t1, k1⟩
  have r1 := Ran.set (putR 72 false) s
  have se1 := (show ({ s with r := (putR 72 false) s.r } : Ts).l.length ≤ s.l.length + 0 from se0.out)
  generalize hs1 : ({ s with r := (putR 72 false) s.r } : Ts) = s1 at r1 t1 se1
  replace hs1 := Lib.hid hs1
  replace k1 := Lib.hid (k0.out.trans k1)
  replace t1 := Lib.hid t1
  replace r1 := Lib.hid r1
  replace se1 := Lib.hid se1
  clear H1
  have hf := Lib.hid (F.out (.returned (unitV ())) _ (Post.done (r1.out) t1.out k1.out trivial (by have := se1.out; omega)))
  unfold unitV at hf
  clear F
  go_wp2_with fail
  first | exact hf.out | (go_end0; exact hf.out) | (go_ret; exact hf.out)
theorem putFlagNOTC_any (h : Tk K z s w) (hn : z.n1 = .string ⟨#[78, 79, 84, 67]⟩) (hl : s.l.length ≤ 80) :
    Calls Tryz.prog 156 #[.pointer (some ⟨K.b, 0, none⟩)] w (Post K z s w (M.bind (M.ask fun r => hasP r.P 1) fun b => M.set (putR 1 (!b))) unitV (fun _ => True) 12) := by
  obtain ⟨Q, hQ, F⟩ := post_name (Post K z s w (M.bind (M.ask fun r => hasP r.P 1) fun b => M.set (putR 1 (!b))) unitV (fun _ => True) 12)
  rw [hQ]
  clear hQ
  replace F := Lib.hid F
  have t0 := Lib.hid h
  have k0 := Lib.hid (Kp.refl K w)
  have hl0 := Lib.hid hl
  have se0 := Lib.hid (show s.l.length ≤ s.l.length + 0 from Nat.le_refl _)
  clear h hl
  go_enter Tryz.func156, Tryz.ntmps156
  have c10 := t0.out.lookN.2.1
  rw [hn] at c10
  have H1 := flag_any 1 1 rfl t0.out (by decide)
  replace H1 := Lib.hid H1
  go_wp2_with fail
  with_reducible refine H1.out.mono ?_
  rintro e w1 ⟨rfl, hw1⟩
  rw [hw1]
  clear hw1 w1 H1
  have H2 := put_any 1 1 rfl (!hasP s.r.P 1) t0.out (by decide)
  replace H2 := Lib.hid H2
  go_wp2_with fail
  with_reducible refine H2.out.mono ?_
  rintro e w2 ⟨rfl, t2, k2⟩
  have a2 := Lib.hid (Ran.ask (fun r => hasP r.P 1) s)
  have r2 := Ran.set (putR 1 (!hasP s.r.P 1)) s
  have se2 := (show ({ s with r := (putR 1 (!hasP s.r.P 1)) s.r } : Ts).l.length ≤ s.l.length + 0 from se0.out)
  generalize hs2 : ({ s with r := (putR 1 (!hasP s.r.P 1)) s.r } : Ts) = s2 at r2 t2 se2
  replace hs2 := Lib.hid hs2
  replace k2 := Lib.hid (k0.out.trans k2)
  replace t2 := Lib.hid t2
  replace r2 := Lib.hid r2
  replace se2 := Lib.hid se2
  clear H2
  have hf := Lib.hid (F.out (.returned (unitV ())) _ (Post.done (a2.out.bind (r2.out)) t2.out k2.out trivial (by have := se2.out; omega)))
  unfold unitV at hf
  clear F
  go_wp2_with fail
  first | exact hf.out | (go_end0; exact hf.out) | (go_ret; exact hf.out)
def backTrapM : M Unit := M.bind popM fun v => M.bind (M.set fun r => { r with P := v }) fun _ => popPcM
theorem backFromTrap_any (h : Tk K z s w) (hl : s.l.length ≤ 80) :
    Calls Tryz.prog 218 #[.pointer (some ⟨K.b, 0, none⟩)] w (Post K z s w (backTrapM) unitV (fun _ => True) 12) := by
  obtain ⟨Q, hQ, F⟩ := post_name (Post K z s w (backTrapM) unitV (fun _ => True) 12)
  rw [hQ]
  clear hQ
  replace F := Lib.hid F
  have t0 := Lib.hid h
  have k0 := Lib.hid (Kp.refl K w)
  have hl0 := Lib.hid hl
  have se0 := Lib.hid (show s.l.length ≤ s.l.length + 0 from Nat.le_refl _)
  clear h hl
  go_enter Tryz.func218, Tryz.ntmps218
  have H1 := pop_any t0.out (by have := hl0.out; have := se0.out; omega)
  replace H1 := Lib.hid H1
  go_wp2_with fail
  with_reducible refine H1.out.mono ?_
  rintro e w1 ⟨s1, t1, k1, l1, (⟨vp, r1, q1, rfl⟩ | ⟨g1, rfl⟩)⟩
  rotate_left
  · skip
    have hf := Lib.hid (F.out lackE _ ⟨s1, t1, k0.out.trans k1, (by have := se0.out; omega), .inr ⟨Gave.bind g1, rfl⟩⟩)
    clear F
    unfold lackE at hf ⊢
    go_wp2_with fail
    first | exact hf.out | exact ⟨rfl, hf.out⟩
  replace k1 := Lib.hid (k0.out.trans k1)
  have se1 := Lib.hid (show s1.l.length ≤ s.l.length + 1 from (by have := se0.out; omega))
  replace t1 := Lib.hid t1
  replace r1 := Lib.hid r1
  clear H1 l1
  unfold byteV
  have hvp := Lib.hid q1
  have c4 := t1.out.look.1.2.2.2.2
  have f4 := t1.out.look.2.2 4
  have t2 := t1.out.toP vp hvp.out
  have r2 := Ran.set (fun r => { r with P := vp }) s1
  have se2 := (show ({ s1 with r := { s1.r with P := vp } } : Ts).l.length ≤ s.l.length + 1 from se1.out)
  generalize hs2 : ({ s1 with r := { s1.r with P := vp } } : Ts) = s2 at r2 t2 se2
  have k2 := Lib.hid (k1.out.set 4 (.int .u8 (vp : Nat)))
  replace hs2 := Lib.hid hs2
  replace t2 := Lib.hid t2
  replace r2 := Lib.hid r2
  replace se2 := Lib.hid se2
  have H3 := popPc_any t2.out (by have := hl0.out; have := se2.out; omega)
  replace H3 := Lib.hid H3
  go_wp2_with fail
  with_reducible refine H3.out.mono ?_
  rintro e w3 ⟨s3, t3, k3, l3, (⟨_u, r3, q3, rfl⟩ | ⟨g3, rfl⟩)⟩
  rotate_left
  · skip
    have hf := Lib.hid (F.out lackE _ ⟨s3, t3, k2.out.trans k3, (by have := se2.out; omega), .inr ⟨Gave.then r1.out (Gave.then r2.out (g3)), rfl⟩⟩)
    clear F
    unfold lackE at hf ⊢
    go_wp2_with fail
    first | exact hf.out | exact ⟨rfl, hf.out⟩
  replace k3 := Lib.hid (k2.out.trans k3)
  have se3 := Lib.hid (show s3.l.length ≤ s.l.length + 3 from (by have := se2.out; omega))
  replace t3 := Lib.hid t3
  replace r3 := Lib.hid r3
  clear H3 l3
  unfold unitV
  have hf := Lib.hid (F.out (.returned (unitV ())) _ (Post.done (r1.out.bind (r2.out.bind (r3.out))) t3.out k3.out trivial (by have := se3.out; omega)))
  unfold unitV at hf
  clear F
  go_wp2_with fail
  first | exact hf.out | (go_end0; exact hf.out) | (go_ret; exact hf.out)
def pushRegM (cd nd : Nat) : M Unit := M.bind (Go.Proofs.YtknlbmjncginnaaGreatDoor.readO cd nd) fun v => pushM v
theorem pushRegister_any (h : Tk K z s w) (hz : Zd K z w c nm fm cd nd co no) (hrd : readable cd) (hl : s.l.length ≤ 80) :
    Calls Tryz.prog 207 #[.pointer (some ⟨K.b, 0, none⟩)] w (Post K z s w (pushRegM cd nd) unitV (fun _ => True) 12) := by
  obtain ⟨Q, hQ, F⟩ := post_name (Post K z s w (pushRegM cd nd) unitV (fun _ => True) 12)
  rw [hQ]
  clear hQ
  replace F := Lib.hid F
  have t0 := Lib.hid h
  have k0 := Lib.hid (Kp.refl K w)
  have hz0 := Lib.hid hz
  have hl0 := Lib.hid hl
  have se0 := Lib.hid (show s.l.length ≤ s.l.length + 0 from Nat.le_refl _)
  clear h hz hl
  go_enter Tryz.func207, Tryz.ntmps207
  obtain ⟨kf1, cp1, cf1, hen1, H1⟩ := (hz0.out.stay t0.out k0.out).readD t0.out hrd (by have := hl0.out; have := se0.out; omega)
  replace H1 := Lib.hid H1
  go_wp2_with fail
  with_reducible refine H1.out.mono ?_
  rintro e w1 ⟨s1, t1, k1, l1, (⟨v1, r1, q1, rfl⟩ | ⟨g1, rfl⟩)⟩
  rotate_left
  · skip
    have hf := Lib.hid (F.out lackE _ ⟨s1, t1, k0.out.trans k1, (by have := se0.out; omega), .inr ⟨Gave.bind g1, rfl⟩⟩)
    clear F
    unfold lackE at hf ⊢
    go_wp2_with fail
    first | exact hf.out | exact ⟨rfl, hf.out⟩
  replace k1 := Lib.hid (k0.out.trans k1)
  have se1 := Lib.hid (show s1.l.length ≤ s.l.length + 3 from (by have := se0.out; omega))
  replace t1 := Lib.hid t1
  replace r1 := Lib.hid r1
  clear H1 l1
  clear cf1 hen1
  unfold byteV
  have hv1 := Lib.hid q1
  have H2 := push_any v1 t1.out hv1.out (by have := hl0.out; have := se1.out; omega)
  replace H2 := Lib.hid H2
  go_wp2_with fail
  with_reducible refine H2.out.mono ?_
  rintro e w2 ⟨rfl, t2, k2⟩
  have r2 := Ran.push v1 s1 t1.out.ok.S hv1.out
  have se2 : (({ s1 with l := s1.l ++ [(2, 256 + s1.r.S, v1)], r := { s1.r with S := (s1.r.S + 255) % 256 } } : Ts)).l.length ≤ s.l.length + 4 := by have := se1.out; simp; omega
  generalize hs2 : ({ s1 with l := s1.l ++ [(2, 256 + s1.r.S, v1)], r := { s1.r with S := (s1.r.S + 255) % 256 } } : Ts) = s2 at r2 t2 se2
  replace hs2 := Lib.hid hs2
  replace k2 := Lib.hid (k1.out.trans k2)
  replace t2 := Lib.hid t2
  replace r2 := Lib.hid r2
  replace se2 := Lib.hid se2
  clear H2
  have hf := Lib.hid (F.out (.returned (unitV ())) _ (Post.done (r1.out.bind (r2.out)) t2.out k2.out trivial (by have := se2.out; omega)))
  unfold unitV at hf
  clear F
  go_wp2_with fail
  first | exact hf.out | (go_end0; exact hf.out) | (go_ret; exact hf.out)
end
end Go.Proofs.YtknlbmjncginnaaGreatDoor
namespace Go.Proofs.YtknlbmjncginnaaGreatDoor
open Go.RowKit Go.Shelf
set_option maxRecDepth 100000
set_option maxHeartbeats 1000000
set_option linter.unusedVariables false

section
variable {K : Cx} {z : Zs} {s : Ts} {w w' : World} {c cd nd co no : Nat} {nm fm : ByteArray}
def callM (no : Nat) : M Unit := M.bind pushPcM fun _ => M.set fun r => { r with Pc := no }
theorem pushPcS_len (s : Ts) : (pushPcS s).l.length = s.l.length + 2 := by unfold pushPcS; simp
theorem callA_any (h : Tk K z s w) (hz : Zd K z w c nm fm cd nd co no) (hco : co < 256) (hne : co ≠ 117) (hl : s.l.length ≤ 80) :
    Calls Tryz.prog 214 #[.pointer (some ⟨K.b, 0, none⟩)] w (Post K z s w (callM no) unitV (fun _ => True) 12) := by
  obtain ⟨Q, hQ, F⟩ := post_name (Post K z s w (callM no) unitV (fun _ => True) 12)
  rw [hQ]
  clear hQ
  replace F := Lib.hid F
  have n117 : ((co : Int) == 117) = false := by rw [beq_eq_false_iff_ne]; omega
  have t0 := Lib.hid h
  have k0 := Lib.hid (Kp.refl K w)
  have hz0 := Lib.hid hz
  have hl0 := Lib.hid hl
  have se0 := Lib.hid (show s.l.length ≤ s.l.length + 0 from Nat.le_refl _)
  clear h hz hl
  go_enter Tryz.func214, Tryz.ntmps214
  have H1 := pushPc_any t0.out (by have := hl0.out; have := se0.out; omega)
  replace H1 := Lib.hid H1
  go_wp2_with fail
  with_reducible refine H1.out.mono ?_
  rintro e w1 ⟨rfl, t1, k1⟩
  have r1 := Ran.pushPc s t0.out.ok
  have se1 : (pushPcS s).l.length ≤ s.l.length + 2 := by have := se0.out; rw [pushPcS_len]; omega
  generalize hs1 : pushPcS s = s1 at r1 t1 se1
  replace hs1 := Lib.hid hs1
  replace k1 := Lib.hid (k0.out.trans k1)
  replace t1 := Lib.hid t1
  replace r1 := Lib.hid r1
  replace se1 := Lib.hid se1
  clear H1
  have c5 := t1.out.look.2.1.1
  have f5 := t1.out.look.2.2 5
  have d18 := t1.out.lookO.1.trans (by rw [hz0.out.o0])
  have d19 := t1.out.lookO.2.1.trans (by rw [hz0.out.o1])
  have d20 := t1.out.lookO.2.2.1
  have d21 := t1.out.lookO.2.2.2
  have hno := Lib.hid hz0.out.no
  have t2 := t1.out.toPc no hno.out
  have r2 := Ran.set (fun r => { r with Pc := no }) s1
  have se2 := (show ({ s1 with r := { s1.r with Pc := no } } : Ts).l.length ≤ s.l.length + 2 from se1.out)
  generalize hs2 : ({ s1 with r := { s1.r with Pc := no } } : Ts) = s2 at r2 t2 se2
  have k2 := Lib.hid (k1.out.set 5 (.int .u16 (no : Nat)))
  replace hs2 := Lib.hid hs2
  replace t2 := Lib.hid t2
  replace r2 := Lib.hid r2
  replace se2 := Lib.hid se2
  have hf := Lib.hid (F.out (.returned (unitV ())) _ (Post.done (r1.out.bind (r2.out)) t2.out k2.out trivial (by have := se2.out; omega)))
  unfold unitV at hf
  clear F
  go_wp2_with fail
  first | exact hf.out | (go_end0; exact hf.out) | (go_ret; exact hf.out)
def callUM (no : Nat) : M Unit := M.bind pushPcM fun _ => M.bind (M.set fun r => { r with Pc := no }) fun _ => M.set fun r => { r with Pc := 65280 ||| no }
def backM : M Unit := popPcM
theorem back_any (h : Tk K z s w) (hl : s.l.length ≤ 80) :
    Calls Tryz.prog 217 #[.pointer (some ⟨K.b, 0, none⟩)] w (Post K z s w backM unitV (fun _ => True) 12) := by
  have H1 := Lib.hid (popPc_any h (by omega))
  obtain ⟨Q, hQ, F⟩ := post_name (Post K z s w backM unitV (fun _ => True) 12)
  rw [hQ]
  replace F := Lib.hid F
  clear h hQ hl
  go_enter Tryz.func217, Tryz.ntmps217
  go_wp2_with fail
  with_reducible refine H1.out.mono ?_
  rintro e w1 ⟨s1, t1, k1, l1, h1⟩
  have hf := Lib.hid (F.out e _ ⟨s1, t1, k1, by omega, h1⟩)
  clear F H1 t1 k1 l1
  rcases h1 with ⟨v, _, _, rfl⟩ | ⟨_, rfl⟩
  · unfold unitV at hf ⊢
    go_wp2_with fail
    first | exact hf.out | (go_end0; exact hf.out)
  · unfold lackE at hf ⊢
    go_wp2_with fail
    first | exact hf.out | exact ⟨rfl, hf.out⟩
end
end Go.Proofs.YtknlbmjncginnaaGreatDoor
namespace Go.Proofs.YtknlbmjncginnaaGreatDoor
open Go.RowKit Go.Shelf
set_option maxRecDepth 100000
set_option maxHeartbeats 1000000
set_option linter.unusedVariables false

section
variable {K : Cx} {z : Zs} {s : Ts} {w w' : World} {c cd nd co no : Nat} {nm fm : ByteArray}
def compareWordM (no : Nat) : M Unit := M.bind (wordInPageM (no % 256)) fun v => M.bind (M.ask yaR) fun y => M.bind (M.set (putR 1 (decide (v ≤ y)))) fun _ => M.set (tellWR ((y + 65536 - v) % 65536))
theorem compareWord_any (h : Tk K z s w) (hz : Zd K z w c nm fm cd nd co no) (hl : s.l.length ≤ 80) :
    Calls Tryz.prog 152 #[.pointer (some ⟨K.b, 0, none⟩)] w (Post K z s w (compareWordM no) unitV (fun _ => True) 12) := by
  obtain ⟨Q, hQ, F⟩ := post_name (Post K z s w (compareWordM no) unitV (fun _ => True) 12)
  rw [hQ]
  clear hQ
  replace F := Lib.hid F
  have t0 := Lib.hid h
  have k0 := Lib.hid (Kp.refl K w)
  have hz0 := Lib.hid hz
  have hl0 := Lib.hid hl
  have se0 := Lib.hid (show s.l.length ≤ s.l.length + 0 from Nat.le_refl _)
  clear h hz hl
  go_enter Tryz.func152, Tryz.ntmps152
  have d18 := t0.out.lookO.1.trans (by rw [hz0.out.o0])
  have d19 := t0.out.lookO.2.1.trans (by rw [hz0.out.o1])
  have d20 := t0.out.lookO.2.2.1
  have d21 := t0.out.lookO.2.2.2
  have H1 := wordOf_any co no z.o2 z.o3 t0.out hz0.out.no (by have := hl0.out; have := se0.out; omega)
  replace H1 := Lib.hid H1
  go_wp2_with fail
  with_reducible refine H1.out.mono ?_
  rintro e w1 ⟨s1, t1, k1, l1, (⟨vw, r1, q1, rfl⟩ | ⟨g1, rfl⟩)⟩
  rotate_left
  · skip
    have hf := Lib.hid (F.out lackE _ ⟨s1, t1, k0.out.trans k1, (by have := se0.out; omega), .inr ⟨Gave.bind g1, rfl⟩⟩)
    clear F
    unfold lackE at hf ⊢
    go_wp2_with fail
    first | exact hf.out | exact ⟨rfl, hf.out⟩
  replace k1 := Lib.hid (k0.out.trans k1)
  have se1 := Lib.hid (show s1.l.length ≤ s.l.length + 2 from (by have := se0.out; omega))
  replace t1 := Lib.hid t1
  replace r1 := Lib.hid r1
  clear H1 l1
  unfold wordV
  clear d18 d19 d20 d21
  have hvb : vw < 65536 := q1
  have hy := Lib.hid (yaR_lt t1.out.ok)
  obtain ⟨yy, hyy, yyb⟩ : ∃ x : Nat, yaR s1.r = x ∧ x < 65536 := ⟨_, rfl, hy.out⟩
  replace hyy := Lib.hid hyy
  have ay := Lib.hid (show Ran (M.ask (yaR)) s1 yy s1 from by have ha := Ran.ask (yaR) s1; (try dsimp only at ha); rw [hyy.out] at ha; exact ha)
  have HY := ya_any t1.out
  rw [hyy.out] at HY
  have H2 := HY
  replace H2 := Lib.hid H2
  go_wp2_with fail
  with_reducible refine H2.out.mono ?_
  rintro e w2 ⟨rfl, q2, hw2⟩
  have b2 : Below w1.heap.size w1 w2 := by rw [hw2]; exact below_drewN (Below.refl _ _) _
  clear hw2
  have t2 := Lib.hid (t1.out.below b2)
  have k2 := Lib.hid (k1.out.trans (Kp.below b2))
  clear b2 H2
  obtain ⟨b, hb⟩ : ∃ x : Bool, (decide (vw ≤ yy)) = x := ⟨_, rfl⟩
  replace hb := Lib.hid hb
  have hbe : decide (vw ≤ yy) = b := hb.out
  have H3 := put_any 1 1 rfl b t2.out (by decide)
  replace H3 := Lib.hid H3
  go_wp2_with fail
  with_reducible refine H3.out.mono ?_
  rintro e w3 ⟨rfl, t3, k3⟩
  have r3 := Ran.set (putR 1 b) s1
  have se3 := (show ({ s1 with r := (putR 1 b) s1.r } : Ts).l.length ≤ s.l.length + 2 from se1.out)
  generalize hs3 : ({ s1 with r := (putR 1 b) s1.r } : Ts) = s3 at r3 t3 se3
  replace hs3 := Lib.hid hs3
  replace k3 := Lib.hid (k2.out.trans k3)
  replace t3 := Lib.hid t3
  replace r3 := Lib.hid r3
  replace se3 := Lib.hid se3
  clear H3
  have e5 : yaR s3.r = yy := by rw [← hs3.out]; exact hyy.out
  have HY2 := ya_any t3.out
  rw [e5] at HY2
  clear e5
  have H4 := HY2
  replace H4 := Lib.hid H4
  go_wp2_with fail
  with_reducible refine H4.out.mono ?_
  rintro e w4 ⟨rfl, q4, hw4⟩
  have b4 : Below w3.heap.size w3 w4 := by rw [hw4]; exact below_drewN (Below.refl _ _) _
  clear hw4
  have t4 := Lib.hid (t3.out.below b4)
  have k4 := Lib.hid (k3.out.trans (Kp.below b4))
  clear b4 H4
  obtain ⟨x1, hx1, x1b, x1w⟩ : ∃ x : Nat, (yy + 65536 - vw) % 65536 = x ∧ x < 65536 ∧ IntKind.u16.wrap ((yy : Int) - (vw : Int)) = (x : Int) := ⟨_, rfl, Nat.mod_lt _ (by decide), (by simp only [IntKind.wrap_u16]; omega)⟩
  replace hx1 := Lib.hid hx1
  have H5 := tellWord_any x1 t4.out x1b
  replace H5 := Lib.hid H5
  go_wp2_with fail
  with_reducible refine H5.out.mono ?_
  rintro e w5 ⟨rfl, t5, k5⟩
  have r5 := Ran.set (tellWR x1) s3
  have se5 := (show ({ s3 with r := (tellWR x1) s3.r } : Ts).l.length ≤ s.l.length + 2 from se3.out)
  generalize hs5 : ({ s3 with r := (tellWR x1) s3.r } : Ts) = s5 at r5 t5 se5
  replace hs5 := Lib.hid hs5
  replace k5 := Lib.hid (k4.out.trans k5)
  replace t5 := Lib.hid t5
  replace r5 := Lib.hid r5
  replace se5 := Lib.hid se5
  clear H5
  have e_yy := hyy.out
  try subst e_yy
  have e_b := hb.out
  try subst e_b
  have e_x1 := hx1.out
  try subst e_x1
  have hf := Lib.hid (F.out (.returned (unitV ())) _ (Post.done (r1.out.bind (ay.out.bind (r3.out.bind (r5.out)))) t5.out k5.out trivial (by have := se5.out; omega)))
  unfold unitV at hf
  clear F
  go_wp2_with fail
  first | exact hf.out | (go_end0; exact hf.out) | (go_ret; exact hf.out)
theorem pushPcS_len3 (s : Ts) : (pushPcS s).l.length = s.l.length + 2 := by unfold pushPcS; simp
theorem or_16 (a b : Nat) (ha : a < 65536) (hb : b < 65536) : a ||| b < 65536 := Nat.or_lt_two_pow (n := 16) ha hb
end
end Go.Proofs.YtknlbmjncginnaaGreatDoor
