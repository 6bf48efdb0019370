/-
  A processor knows the turn that is under way.
-/
import Derived.Test.YtnacdaodjgdnnaaGreatMKnow
import Derived.Deep.RegionHeld3
namespace Go.Proofs.YtnacdaodjgdnnaaGreat
open Go.RowKit Go.Shelf
set_option maxRecDepth 100000
set_option maxHeartbeats 1000000
set_option linter.unusedVariables false

theorem AX.put {w : World} {a : Option Addr} {l : List (Nat × Nat × Nat)} {b : Nat} (h : AX w a l) (i : Nat) (hb : ∀ p, a = some p → p.block ≠ b) (v : Value) : AX (w.setCell ⟨b, i, none⟩ v) a l := by
  rcases h with h | ⟨g, rfl, hg, hc⟩
  · exact .inl h
  · have hne : g ≠ b := hb _ rfl
    have he : ∀ j, (w.setCell ⟨b, i, none⟩ v).cell? ⟨g, j, none⟩ = w.cell? ⟨g, j, none⟩ := fun j => by
      unfold World.cell?
      rw [show (w.setCell ⟨b, i, none⟩ v).heap[(⟨g, j, none⟩ : Addr).block]? = w.heap[(⟨g, j, none⟩ : Addr).block]? from Below.heap_setCell w ⟨b, i, none⟩ v g hne]
    refine .inr ⟨g, rfl, by simpa [World.setCell] using hg, fun j hj => ?_⟩
    rw [he, he, he]
    exact hc j hj
/-- A turn laid into a processor. -/
def layM (W : World) (b : Nat) (v0 v1 v2 v3 v4 v5 v6 v7 v8 v9 v10 v11 v12 : Value) : World := ((((((((((((W.setCell ⟨b, 33, none⟩ v0).setCell ⟨b, 34, none⟩ v1).setCell ⟨b, 35, none⟩ v2).setCell ⟨b, 36, none⟩ v3).setCell ⟨b, 37, none⟩ v4).setCell ⟨b, 38, none⟩ v5).setCell ⟨b, 39, none⟩ v6).setCell ⟨b, 40, none⟩ v7).setCell ⟨b, 41, none⟩ v8).setCell ⟨b, 42, none⟩ v9).setCell ⟨b, 43, none⟩ v10).setCell ⟨b, 44, none⟩ v11).setCell ⟨b, 45, none⟩ v12
theorem Mk.laid {b : Nat} {s : Ms} {W V : World} {la : Option Addr} {lc : Nat} (x : Xs) (h : Mk b s W) (ha : AX W la x.l) (hlc : x.l.length ≤ lc) (hne : ∀ p, la = some p → p.block ≠ b) (ho : V.grownBy W (some b)) :
    Mk b { s with tl := x.l, td := !x.st, tr := x.tr, ta := x.ta } (layM W b (.slice la x.l.length lc) (.bool (!x.st)) (.int .u16 (x.tr.A : Nat)) (.int .u16 (x.tr.X : Nat)) (.int .u16 (x.tr.Y : Nat)) (.int .u16 (x.tr.S : Nat)) (.int .u16 (x.tr.D : Nat)) (.int .u16 (x.tr.PC : Nat)) (.int .u8 (x.tr.B : Nat)) (.int .u8 (x.tr.K : Nat)) (.int .u8 (x.tr.P : Nat)) (.bool x.tr.E) (.int .u8 (x.ta : Nat))) ∧ V.grownBy (layM W b (.slice la x.l.length lc) (.bool (!x.st)) (.int .u16 (x.tr.A : Nat)) (.int .u16 (x.tr.X : Nat)) (.int .u16 (x.tr.Y : Nat)) (.int .u16 (x.tr.S : Nat)) (.int .u16 (x.tr.D : Nat)) (.int .u16 (x.tr.PC : Nat)) (.int .u8 (x.tr.B : Nat)) (.int .u8 (x.tr.K : Nat)) (.int .u8 (x.tr.P : Nat)) (.bool x.tr.E) (.int .u8 (x.ta : Nat))) (some b) := by
  obtain ⟨a, c, h1, _, _, _⟩ := h.cells
  unfold msC at h1
  have q0 := h1.put 33 (.slice la x.l.length lc)
  simp only [List.setIfInBounds_toArray, List.set_cons_zero, List.set_cons_succ] at q0
  clear h1
  have q1 := q0.put 34 (.bool (!x.st))
  simp only [List.setIfInBounds_toArray, List.set_cons_zero, List.set_cons_succ] at q1
  clear q0
  have q2 := q1.put 35 (.int .u16 (x.tr.A : Nat))
  simp only [List.setIfInBounds_toArray, List.set_cons_zero, List.set_cons_succ] at q2
  clear q1
  have q3 := q2.put 36 (.int .u16 (x.tr.X : Nat))
  simp only [List.setIfInBounds_toArray, List.set_cons_zero, List.set_cons_succ] at q3
  clear q2
  have q4 := q3.put 37 (.int .u16 (x.tr.Y : Nat))
  simp only [List.setIfInBounds_toArray, List.set_cons_zero, List.set_cons_succ] at q4
  clear q3
  have q5 := q4.put 38 (.int .u16 (x.tr.S : Nat))
  simp only [List.setIfInBounds_toArray, List.set_cons_zero, List.set_cons_succ] at q5
  clear q4
  have q6 := q5.put 39 (.int .u16 (x.tr.D : Nat))
  simp only [List.setIfInBounds_toArray, List.set_cons_zero, List.set_cons_succ] at q6
  clear q5
  have q7 := q6.put 40 (.int .u16 (x.tr.PC : Nat))
  simp only [List.setIfInBounds_toArray, List.set_cons_zero, List.set_cons_succ] at q7
  clear q6
  have q8 := q7.put 41 (.int .u8 (x.tr.B : Nat))
  simp only [List.setIfInBounds_toArray, List.set_cons_zero, List.set_cons_succ] at q8
  clear q7
  have q9 := q8.put 42 (.int .u8 (x.tr.K : Nat))
  simp only [List.setIfInBounds_toArray, List.set_cons_zero, List.set_cons_succ] at q9
  clear q8
  have q10 := q9.put 43 (.int .u8 (x.tr.P : Nat))
  simp only [List.setIfInBounds_toArray, List.set_cons_zero, List.set_cons_succ] at q10
  clear q9
  have q11 := q10.put 44 (.bool x.tr.E)
  simp only [List.setIfInBounds_toArray, List.set_cons_zero, List.set_cons_succ] at q11
  clear q10
  have q12 := q11.put 45 (.int .u8 (x.ta : Nat))
  simp only [List.setIfInBounds_toArray, List.set_cons_zero, List.set_cons_succ] at q12
  clear q11
  unfold layM
  exact ⟨⟨h.ok, ⟨la, lc, q12, (((((((((((((ha.put 33 hne _).put 34 hne _).put 35 hne _).put 36 hne _).put 37 hne _).put 38 hne _).put 39 hne _).put 40 hne _).put 41 hne _).put 42 hne _).put 43 hne _).put 44 hne _).put 45 hne _), hlc, hne⟩, h.bytes, h.ct⟩, (only_set (only_set (only_set (only_set (only_set (only_set (only_set (only_set (only_set (only_set (only_set (only_set (only_set ho 33 _) 34 _) 35 _) 36 _) 37 _) 38 _) 39 _) 40 _) 41 _) 42 _) 43 _) 44 _) 45 _)⟩
theorem Mk.head {b : Nat} {s : Ms} {W : World} (h : Mk b s W) : W.cell? ⟨b, 10, none⟩ = some (.int .u8 (s.md : Nat)) ∧ W.cell? ⟨b, 11, none⟩ = some (.int .u8 (s.why : Nat)) ∧ W.cell? ⟨b, 0, none⟩ = some (.int .u16 (s.r.A : Nat)) ∧ W.cell? ⟨b, 1, none⟩ = some (.int .u16 (s.r.X : Nat)) ∧ W.cell? ⟨b, 2, none⟩ = some (.int .u16 (s.r.Y : Nat)) ∧ W.cell? ⟨b, 3, none⟩ = some (.int .u16 (s.r.S : Nat)) ∧ W.cell? ⟨b, 4, none⟩ = some (.int .u16 (s.r.D : Nat)) ∧ W.cell? ⟨b, 5, none⟩ = some (.int .u16 (s.r.PC : Nat)) ∧ W.cell? ⟨b, 6, none⟩ = some (.int .u8 (s.r.B : Nat)) ∧ W.cell? ⟨b, 7, none⟩ = some (.int .u8 (s.r.K : Nat)) ∧ W.cell? ⟨b, 8, none⟩ = some (.int .u8 (s.r.P : Nat)) ∧ W.cell? ⟨b, 9, none⟩ = some (.bool s.r.E) := by
  obtain ⟨a, c, h1, _⟩ := h.cells
  rw [h1.cell, h1.cell, h1.cell, h1.cell, h1.cell, h1.cell, h1.cell, h1.cell, h1.cell, h1.cell, h1.cell, h1.cell]
  exact ⟨rfl, rfl, rfl, rfl, rfl, rfl, rfl, rfl, rfl, rfl, rfl, rfl⟩
theorem Mk.turn {b : Nat} {s : Ms} {W : World} (h : Mk b s W) (i : Nat) (hi : i < 46) : ∃ v, W.cell? ⟨b, i, none⟩ = some v ∧ W.frozen? ⟨b, i, none⟩ = false := by
  obtain ⟨a, c, h1, _⟩ := h.cells
  have hs : (msC s a c).size = 46 := rfl
  exact ⟨(msC s a c)[i]'(by rw [hs]; exact hi), by rw [h1.cell, Array.getElem?_eq_getElem], h1.free i⟩
theorem know_enter {b : Nat} {s : Ms} {w : World} (h : Mk b s w) (hmd : s.md = 2) (hwhy : s.why < 256) (x : Xs) (hx : (enterTopX s.why ⟨s.r.settle, s.ct, s.sf, [], false, cd0, 0⟩).2 = x) :
    Calls Tryz.prog 159 #[.pointer (some ⟨b, 0, none⟩)] w fun e w' => e = .returned (.tuple #[]) ∧ Mk b { s with tl := x.l, td := !x.st, tr := x.tr, ta := x.ta } w' ∧ w.grownBy w' (some b) := by
  have hbel := fun (W : World) (hb : Below w.heap.size w W) => h.below hb
  have HB := fun (W : World) (hb : Below w.heap.size w W) => bytesSeen_any (h.below hb)
  have HT := fun (W : World) (hb : Below w.heap.size w W) => turnOf_enter s.why s.r (some ⟨b, 16, none⟩) s.ct 16 s.sf W hwhy h.ok (h.below hb).row h.ct
  rw [hx] at HT
  have hhd := fun (W : World) (hb : Below w.heap.size w W) => (h.below hb).head
  rw [hmd] at hhd
  have htu := fun (W : World) (hb : Below w.heap.size w W) => (h.below hb).turn
  have hlt := h.lt
  have hfin := fun (W : World) (B : Nat) (la : Option Addr) (lc : Nat) (hb : Below w.heap.size w W) (hB : w.heap.size ≤ B) (ho : W.ownsRow B 35 3 (.slice la x.l.length lc) x.l.length (accX x.l)) => (by
    obtain ⟨la', lc', e, hA, hl⟩ := ax_of ho rfl
    injection e with e1 _ e3
    subst e1
    subst e3
    exact Mk.laid (V := w) x (h.below hb) hA hl (fun p hp => by have := ab_of ho p hp; omega) (Below.only hb b) :
    Mk b { s with tl := x.l, td := !x.st, tr := x.tr, ta := x.ta } (layM W b (.slice la x.l.length lc) (.bool (!x.st)) (.int .u16 (x.tr.A : Nat)) (.int .u16 (x.tr.X : Nat)) (.int .u16 (x.tr.Y : Nat)) (.int .u16 (x.tr.S : Nat)) (.int .u16 (x.tr.D : Nat)) (.int .u16 (x.tr.PC : Nat)) (.int .u8 (x.tr.B : Nat)) (.int .u8 (x.tr.K : Nat)) (.int .u8 (x.tr.P : Nat)) (.bool x.tr.E) (.int .u8 (x.ta : Nat))) ∧ w.grownBy (layM W b (.slice la x.l.length lc) (.bool (!x.st)) (.int .u16 (x.tr.A : Nat)) (.int .u16 (x.tr.X : Nat)) (.int .u16 (x.tr.Y : Nat)) (.int .u16 (x.tr.S : Nat)) (.int .u16 (x.tr.D : Nat)) (.int .u16 (x.tr.PC : Nat)) (.int .u8 (x.tr.B : Nat)) (.int .u8 (x.tr.K : Nat)) (.int .u8 (x.tr.P : Nat)) (.bool x.tr.E) (.int .u8 (x.ta : Nat))) (some b))
  have hkeep := fun (W : World) (B : Nat) (la : Option Addr) (lc : Nat) (hb : Below w.heap.size w W) (hB : w.heap.size ≤ B) (ho : W.ownsRow B 35 3 (.slice la x.l.length lc) x.l.length (accX x.l)) => (hfin W B la lc hb hB ho).1.head
  dsimp only at hkeep
  rw [hmd] at hkeep
  simp only [show ((2 : Nat) : Int) = 2 from rfl] at hkeep
  unfold layM at hfin hkeep
  unfold tnV Rg.v rgC at HT
  have hd : Below w.heap.size w w.drew := Below.drew (Below.refl _ _)
  have q0 := hhd _ hd
  have htr := fun (W : World) (hb : Below w.drew.heap.size w.drew W) => hd.trans hb
  replace hfin := Lib.hid hfin
  replace hkeep := Lib.hid hkeep
  replace HB := Lib.hid HB
  replace HT := Lib.hid HT
  replace hhd := Lib.hid hhd
  replace htu := Lib.hid htu
  replace htr := Lib.hid htr
  replace hd := Lib.hid hd
  simp only [show ((2 : Nat) : Int) = 2 from rfl] at hhd q0
  clear h hx hmd hwhy hbel
  generalize hs' : ({ s with tl := x.l, td := !x.st, tr := x.tr, ta := x.ta } : Ms) = s' at *
  clear hs'
  generalize s.why = why at *
  generalize s.r.A = rA at *
  generalize s.r.X = rX at *
  generalize s.r.Y = rY at *
  generalize s.r.S = rS at *
  generalize s.r.D = rD at *
  generalize s.r.PC = rPC at *
  generalize s.r.B = rB at *
  generalize s.r.K = rK at *
  generalize s.r.P = rP at *
  generalize s.r.E = rE at *
  generalize s.ct = ct at *
  go_enter Tryz.func159, Tryz.ntmps159
  go_upto_region 0 with (fail)
  go_region_held3 (fun V => V.cell? ⟨b, 10, none⟩ = some (.int .u8 2) ∧ V.cell? ⟨b, 11, none⟩ = some (.int .u8 why) ∧ V.cell? ⟨b, 0, none⟩ = some (.int .u16 rA) ∧ V.cell? ⟨b, 1, none⟩ = some (.int .u16 rX) ∧ V.cell? ⟨b, 2, none⟩ = some (.int .u16 rY) ∧ V.cell? ⟨b, 3, none⟩ = some (.int .u16 rS) ∧ V.cell? ⟨b, 4, none⟩ = some (.int .u16 rD) ∧ V.cell? ⟨b, 5, none⟩ = some (.int .u16 rPC) ∧ V.cell? ⟨b, 6, none⟩ = some (.int .u8 rB) ∧ V.cell? ⟨b, 7, none⟩ = some (.int .u8 rK) ∧ V.cell? ⟨b, 8, none⟩ = some (.int .u8 rP) ∧ V.cell? ⟨b, 9, none⟩ = some (.bool rE))
    (first | with_reducible exact q0 | with_reducible exact hhd.out _ b1 | with_reducible exact hhd.out _ b2 | with_reducible exact hkeep.out _ _ _ _ b2 b1.size ho | go_keep)
    (first
      | (go_at_call 105; (with_reducible refine (HB.out _ hd.out).mono ?_); rintro e W1 ⟨rfl, hb1⟩; have b1 := Below.trans hd.out (hb1.mono (show w.heap.size ≤ w.drew.heap.size from Nat.le_refl _)))
      | (go_at_call 90; (with_reducible refine (HT.out _ b1).mono ?_); rintro e W2 ⟨lv, rfl, ho, hb2⟩; obtain ⟨la, lc, rfl⟩ := row_slice ho; have b2 := b1.trans (hb2.mono b1.size); have htu2 := htu.out _ b2; obtain ⟨u0, t0, f0⟩ := htu2 33 (by decide); obtain ⟨u1, t1, f1⟩ := htu2 34 (by decide); obtain ⟨u2, t2, f2⟩ := htu2 35 (by decide); obtain ⟨u3, t3, f3⟩ := htu2 36 (by decide); obtain ⟨u4, t4, f4⟩ := htu2 37 (by decide); obtain ⟨u5, t5, f5⟩ := htu2 38 (by decide); obtain ⟨u6, t6, f6⟩ := htu2 39 (by decide); obtain ⟨u7, t7, f7⟩ := htu2 40 (by decide); obtain ⟨u8, t8, f8⟩ := htu2 41 (by decide); obtain ⟨u9, t9, f9⟩ := htu2 42 (by decide); obtain ⟨u10, t10, f10⟩ := htu2 43 (by decide); obtain ⟨u11, t11, f11⟩ := htu2 44 (by decide); obtain ⟨u12, t12, f12⟩ := htu2 45 (by decide); have hfn := Lib.hid (hfin.out _ _ _ _ b2 b1.size ho)))
  go_wp2_with fail
  go_end0
  exact ⟨rfl, hfn.out⟩
end Go.Proofs.YtnacdaodjgdnnaaGreat
