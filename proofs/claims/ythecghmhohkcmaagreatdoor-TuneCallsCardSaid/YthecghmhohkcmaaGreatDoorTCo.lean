/-
  Course and Run by the code.
-/
import Derived.Test.YthecghmhohkcmaaGreatDoorTRun
import Derived.Test.YthecghmhohkcmaaGreatDoorTWh
import Derived.StillTailTactics
namespace Go.Proofs.YthecghmhohkcmaaGreatDoor
open Go.RowKit Go.Shelf
set_option maxRecDepth 100000
set_option maxHeartbeats 2000000
set_option linter.unusedVariables false

theorem pegs_info : True := trivial
def s0 (r : Rp) (q : Sc) : Ts := ⟨r, [], q⟩
theorem bare0 : Bare z0 := ⟨rfl, rfl, rfl, rfl, rfl, rfl, rfl, rfl⟩
/-- A runner that has just been made is one. -/
theorem Tk.made {w W W' : World} {x b : Nat} {lv : Value} {r : Rp} {q : Sc} {mem : Option (Nat → Nat)} {a : Option Addr} {n c : Nat} {f : Nat → Nat} (hr : r.Ok) (hq : q.Ok) (hm : q.mem = mem)
    (hb : Below w.heap.size w W) (hx : w.heap.size ≤ x) (hX : Whole W x 25 #[.slice a n c]) (hnc : n ≤ c) (hR : Row w a n f) (hF : Fits mem q.seen n f)
    (hB : Below W.heap.size W W') (hbb : W.heap.size ≤ b) (hW : Whole W' b 68 (rnT r (ansV ⟨w, w.heap.size, b, x, mem⟩) lv z0)) (ho : W'.ownsRow W.heap.size 42 3 lv 0 []) :
    Tk ⟨w, w.heap.size, b, x, mem⟩ z0 (s0 r q) W' := by
  refine ⟨hr, hq, hm, ⟨lv, hW, ?_⟩, ⟨a, n, c, f, hX.below hB hX.lt, hnc, hR, hF⟩, Nat.le_trans hb.size hbb, hx, hb.trans (hB.mono hb.size), rfl⟩
  rcases ho with ⟨h1, ⟨h2, h3⟩ | ⟨g, cap, cur, h2, h3, h4⟩⟩
  · exact ⟨h1, .inl ⟨h2, h3⟩⟩
  · exact ⟨h1, .inr ⟨g, cap, cur, h2, Nat.le_trans hb.size h3, h4⟩⟩
theorem run_any {K : Cx} {s : Ts} {w : World} (A : Nat → Nat → Nat → M Unit) (h : Tk K z0 s w) (hl : s.l = []) (HA : ∀ s1 c, Ran fetchM s c s1 → ActOk K c A) :
    Calls Tryz.prog 26 #[.pointer (some ⟨K.b, 0, none⟩)] w (PostR K s w (runM A)) := by
  cases hh : s.r.H with
  | true => exact run_halt A h hl hh
  | false => exact run_go A h bare0 hl hh HA
/-- What Course answers. -/
def courseP (w : World) (A : Nat → Nat → Nat → M Unit) (r : Rp) (q : Sc) (e : Ending) (w' : World) : Prop :=
  ∃ s' lv, Below w.heap.size w w' ∧ w'.ownsRow w.heap.size 42 3 lv s'.l.length (accX s'.l) ∧ s'.l.length ≤ 40 ∧
    ((Ran (runM A) (s0 r q) () s' ∧ s'.r.Ok ∧ e = .returned (.tuple #[lv, .bool true, pegV s'.r])) ∨ (Gave (runM A) (s0 r q) s' ∧ e = .returned (.tuple #[lv, .bool false, pegV ⟨0, 0, 0, 0, 0, 0, false⟩])))
theorem course_any (A : Nat → Nat → Nat → M Unit) (r : Rp) (a : Option Addr) (n c : Nat) (f : Nat → Nat) (w : World) (hr : r.Ok) (hR : Row w a n f) (hnc : n ≤ c) (HA : ∀ K s1 c, Ran fetchM (s0 r ⟨none, (List.range n).map f⟩) c s1 → ActOk K c A) :
    Calls Tryz.prog 11 #[pegV r, .slice a n c] w (courseP w A r ⟨none, (List.range n).map f⟩) := by
  obtain ⟨Q, hQ, F⟩ := post_name (courseP w A r ⟨none, (List.range n).map f⟩)
  rw [hQ]
  clear hQ
  replace F := Lib.hid F
  have hqok : Sc.Ok ⟨none, (List.range n).map f⟩ := ⟨fun x hx => by
    obtain ⟨i, hi, rfl⟩ := List.mem_map.1 hx
    exact hR.1 i (List.mem_range.1 hi), fun f h => by cases h⟩
  have hfit : Fits none (Sc.mk none ((List.range n).map f)).seen n f := ⟨by simp, fun i hi => by rw [List.getD_eq_getElem?_getD]; simp [hi]⟩
  have hP1 := ((Whole.fresh w 24 (pegC r)).alloc (.cells #[.slice a n c] 25)).alloc (.cells (pegC ⟨0, 0, 0, 0, 0, 0, false⟩) 24)
  have hX1 := (Whole.fresh (w.alloc (.cells (pegC r) 24)) 25 #[.slice a n c]).alloc (.cells (pegC ⟨0, 0, 0, 0, 0, 0, false⟩) 24)
  have hO1 := Whole.fresh ((w.alloc (.cells (pegC r) 24)).alloc (.cells #[.slice a n c] 25)) 24 (pegC ⟨0, 0, 0, 0, 0, 0, false⟩)
  have hB1 := (((Below.refl w.heap.size w).alloc (Nat.le_refl _) (.cells (pegC r) 24)).alloc (by simp) (.cells #[.slice a n c] 25)).alloc (by simp; omega) (.cells (pegC ⟨0, 0, 0, 0, 0, 0, false⟩) 24)
  rw [show (w.alloc (.cells (pegC r) 24)).heap.size = w.heap.size + 1 by simp] at hX1
  rw [show ((w.alloc (.cells (pegC r) 24)).alloc (.cells #[.slice a n c] 25)).heap.size = w.heap.size + 1 + 1 by simp] at hO1
  unfold pegC at hP1 hX1 hO1 hB1
  simp only [show ((0 : Nat) : Int) = 0 from rfl] at hP1 hX1 hO1 hB1
  unfold pegV
  go_enter Tryz.func11, Tryz.ntmps11
  go_upto_region 1 with (fail)
  generalize (((w.alloc (.cells #[.int .u8 r.A, .int .u8 r.X, .int .u8 r.Y, .int .u8 r.S, .int .u8 r.P, .int .u16 r.Pc, .bool r.H] 24)).alloc (.cells #[.slice a n c] 25)).alloc (.cells #[.int .u8 0, .int .u8 0, .int .u8 0, .int .u8 0, .int .u8 0, .int .u16 0, .bool false] 24)) = W1 at *
  generalize hxg : w.heap.size + 1 = x at *
  have hxw : w.heap.size ≤ x := by omega
  generalize hog : x + 1 = O at *
  have how : w.heap.size ≤ O := by omega
  have hRO := Lib.hid (runnerOf_any r 24 x W1)
  unfold pegV at hRO
  have x0 := hP1.cell 0
  have x1 := hP1.cell 1
  have x2 := hP1.cell 2
  have x3 := hP1.cell 3
  have x4 := hP1.cell 4
  have x5 := hP1.cell 5
  have x6 := hP1.cell 6
  simp only [List.getElem?_toArray, List.getElem?_cons_zero, List.getElem?_cons_succ] at x0 x1 x2 x3 x4 x5 x6
  replace hxg := Lib.hid hxg
  replace hog := Lib.hid hog
  go_wp2_with fail
  with_reducible refine hRO.out.mono ?_
  rintro e W2 ⟨b, lv, rfl, hB2, hbb, hW2, ho2⟩
  have hT2 := Tk.made (q := ⟨none, (List.range n).map f⟩) (mem := none) hr hqok rfl hB1 hxw hX1 hnc hR hfit hB2 hbb hW2 ho2
  have hO2 := hO1.below hB2 hO1.lt
  have hdo := run_any A (hT2.alloc (.cells #[.bool false] 4)) rfl (fun s1 c h => HA _ s1 c h)
  have hWhole := whole_any (k := 26) (fs := #[.pointer (some ⟨b, 0, none⟩)]) W2
    (fun V => ∃ z' s', Tk ⟨w, w.heap.size, b, x, none⟩ z' s' V ∧ Kp ⟨w, w.heap.size, b, x, none⟩ (W2.alloc (.cells #[.bool false] 4)) V ∧ s'.l.length ≤ 40 ∧ Ran (runM A) (s0 r ⟨none, (List.range n).map f⟩) () s')
    (fun V => ∃ z' s', Tk ⟨w, w.heap.size, b, x, none⟩ z' s' V ∧ Kp ⟨w, w.heap.size, b, x, none⟩ (W2.alloc (.cells #[.bool false] 4)) V ∧ s'.l.length ≤ 40 ∧ Gave (runM A) (s0 r ⟨none, (List.range n).map f⟩) s')
    (fun _ _ => rfl) (hdo.mono (by
      rintro e V ⟨z', s', t, k, l, h⟩
      have hl : s'.l.length ≤ 40 := by simpa [s0] using l
      refine ⟨k.stay (hT2.alloc _) (Whole.fresh W2 _ _), ?_⟩
      rcases h with ⟨u, h1, _, rfl⟩ | ⟨h1, rfl⟩
      · exact .inl ⟨rfl, z', s', t, k, hl, h1⟩
      · exact .inr ⟨rfl, z', s', t, k, hl, h1⟩))
  have hB2' := Lib.hid (hB1.trans (hB2.mono hB1.size))
  have hO2' := Lib.hid hO2
  have hT2' := Lib.hid hT2
  have hsW : w.heap.size ≤ W2.heap.size := by have := hB2'.out.size; exact this
  replace hWhole := Lib.hid hWhole
  clear hdo hT2 hO2 hB2 hbb hW2 ho2 x0 x1 x2 x3 x4 x5 x6 hRO hP1 hX1 hO1 hB1 hfit hqok HA hR hnc
  go_wp2_with fail
  with_reducible refine hWhole.out.mono ?_
  rintro e W3 (⟨rfl, V, ⟨z', s', t, k, l, h⟩, rfl⟩ | ⟨rfl, V, ⟨z', s', t, k, l, h⟩, rfl⟩)
  · have hbool := k.stay (hT2'.out.alloc _) (Whole.fresh W2 4 #[.bool false])
    have t2 := t.other hbool hsW 0 (.bool true)
    have hO3 := (k.stay (hT2'.out.alloc _) (hO2'.out.alloc _)).away (p := ⟨W2.heap.size, 0, none⟩) (whole_apart (k.stay (hT2'.out.alloc _) (hO2'.out.alloc _)) hbool (by decide)) (.bool true)
    generalize V.setCell ⟨W2.heap.size, 0, none⟩ (.bool true) = W4 at *
    obtain ⟨lv4, hw4, ho4⟩ := t2.cells
    obtain ⟨la, lc, rfl⟩ := row_slice ho4
    have hne := own_apart ho4 hO3 (by decide)
    have hbel := t2.bel
    have c8 := hw4.cell 8
    have c0 := hw4.cell 0
    have c1 := hw4.cell 1
    have c2 := hw4.cell 2
    have c3 := hw4.cell 3
    have c4 := hw4.cell 4
    have c5 := hw4.cell 5
    have c6 := hw4.cell 6
    have o0 := hO3.cell 0
    have o1 := hO3.cell 1
    have o2 := hO3.cell 2
    have o3 := hO3.cell 3
    have o4 := hO3.cell 4
    have o5 := hO3.cell 5
    have o6 := hO3.cell 6
    have f0 := hO3.free 0
    have f1 := hO3.free 1
    have f2 := hO3.free 2
    have f3 := hO3.free 3
    have f4 := hO3.free 4
    have f5 := hO3.free 5
    have f6 := hO3.free 6
    unfold rnT at c8 c0 c1 c2 c3 c4 c5 c6
    simp only [List.getElem?_toArray, List.getElem?_cons_zero, List.getElem?_cons_succ] at c8 c0 c1 c2 c3 c4 c5 c6 o0 o1 o2 o3 o4 o5 o6
    have hz := (((((((hO3.drew.put 0 (.int .u8 (s'.r.A : Nat))).put 1 (.int .u8 (s'.r.X : Nat))).put 2 (.int .u8 (s'.r.Y : Nat))).put 3 (.int .u8 (s'.r.S : Nat))).put 4 (.int .u8 (s'.r.P : Nat))).put 5 (.int .u16 (s'.r.Pc : Nat))).put 6 (.bool s'.r.H))
    have z0 := hz.cell 0
    have z1 := hz.cell 1
    have z2 := hz.cell 2
    have z3 := hz.cell 3
    have z4 := hz.cell 4
    have z5 := hz.cell 5
    have z6 := hz.cell 6
    simp only [List.getElem?_toArray, List.getElem?_cons_zero, List.getElem?_cons_succ, List.setIfInBounds_toArray, List.set_cons_zero, List.set_cons_succ] at z0 z1 z2 z3 z4 z5 z6
    have hf := Lib.hid (F.out (.returned (.tuple #[.slice la s'.l.length lc, .bool true, pegV s'.r])) _ ⟨s', _, (((((((hbel.drew.setCell (p := ⟨O, 0, none⟩) how (.int .u8 (s'.r.A : Nat))).setCell (p := ⟨O, 1, none⟩) how (.int .u8 (s'.r.X : Nat))).setCell (p := ⟨O, 2, none⟩) how (.int .u8 (s'.r.Y : Nat))).setCell (p := ⟨O, 3, none⟩) how (.int .u8 (s'.r.S : Nat))).setCell (p := ⟨O, 4, none⟩) how (.int .u8 (s'.r.P : Nat))).setCell (p := ⟨O, 5, none⟩) how (.int .u16 (s'.r.Pc : Nat))).setCell (p := ⟨O, 6, none⟩) how (.bool s'.r.H)), (row_put (row_put (row_put (row_put (row_put (row_put (row_put ho4.drew (p := ⟨O, 0, none⟩) hne (.int .u8 (s'.r.A : Nat))) (p := ⟨O, 1, none⟩) hne (.int .u8 (s'.r.X : Nat))) (p := ⟨O, 2, none⟩) hne (.int .u8 (s'.r.Y : Nat))) (p := ⟨O, 3, none⟩) hne (.int .u8 (s'.r.S : Nat))) (p := ⟨O, 4, none⟩) hne (.int .u8 (s'.r.P : Nat))) (p := ⟨O, 5, none⟩) hne (.int .u16 (s'.r.Pc : Nat))) (p := ⟨O, 6, none⟩) hne (.bool s'.r.H)), l, .inl ⟨h, t2.ok, rfl⟩⟩)
    unfold pegV at hf
    clear F hWhole t t2 hO3 hw4 ho4 hz hbel hbool k hO2' hB2' hT2' hne h hxg hog
    generalize s'.l.length = L at *
    go_upto_region 4 with (fail)
    go_still_tail 10, (by kernel_rfl)
    show wpList _ _ _ _ _ W4.drew
    have o0 : W4.drew.cell? ⟨O, 0, none⟩ = some (.int .u8 0) := o0
    have o1 : W4.drew.cell? ⟨O, 1, none⟩ = some (.int .u8 0) := o1
    have o2 : W4.drew.cell? ⟨O, 2, none⟩ = some (.int .u8 0) := o2
    have o3 : W4.drew.cell? ⟨O, 3, none⟩ = some (.int .u8 0) := o3
    have o4 : W4.drew.cell? ⟨O, 4, none⟩ = some (.int .u8 0) := o4
    have o5 : W4.drew.cell? ⟨O, 5, none⟩ = some (.int .u16 0) := o5
    have o6 : W4.drew.cell? ⟨O, 6, none⟩ = some (.bool false) := o6
    have f0 : W4.drew.frozen? ⟨O, 0, none⟩ = false := f0
    have f1 : W4.drew.frozen? ⟨O, 1, none⟩ = false := f1
    have f2 : W4.drew.frozen? ⟨O, 2, none⟩ = false := f2
    have f3 : W4.drew.frozen? ⟨O, 3, none⟩ = false := f3
    have f4 : W4.drew.frozen? ⟨O, 4, none⟩ = false := f4
    have f5 : W4.drew.frozen? ⟨O, 5, none⟩ = false := f5
    have f6 : W4.drew.frozen? ⟨O, 6, none⟩ = false := f6
    generalize W4.drew = W5 at *
    go_wp2_with fail
    exact bodyPost_ret (v := .tuple #[.slice la L lc, .bool true, .agg #[.int .u8 (s'.r.A : Nat), .int .u8 (s'.r.X : Nat), .int .u8 (s'.r.Y : Nat), .int .u8 (s'.r.S : Nat), .int .u8 (s'.r.P : Nat), .int .u16 (s'.r.Pc : Nat), .bool s'.r.H]]) (by simp [results, Tryz.results11, go_sem, z0, z1, z2, z3, z4, z5, z6]) rfl hf.out
  · have hbool := k.stay (hT2'.out.alloc _) (Whole.fresh W2 4 #[.bool false])
    have t2 := (t.alloc (.cells #[] 60)).other (hbool.alloc _) hsW 0 (.bool false)
    have hO3 := ((k.stay (hT2'.out.alloc _) (hO2'.out.alloc _)).alloc (.cells #[] 60)).away (p := ⟨W2.heap.size, 0, none⟩) (whole_apart (k.stay (hT2'.out.alloc _) (hO2'.out.alloc _)) hbool (by decide)) (.bool false)
    generalize (V.alloc (.cells #[] 60)).setCell ⟨W2.heap.size, 0, none⟩ (.bool false) = W4 at *
    obtain ⟨lv4, hw4, ho4⟩ := t2.cells
    obtain ⟨la, lc, rfl⟩ := row_slice ho4
    have hne := own_apart ho4 hO3 (by decide)
    have hbel := t2.bel
    have c8 := hw4.cell 8
    have o0 := hO3.cell 0
    have o1 := hO3.cell 1
    have o2 := hO3.cell 2
    have o3 := hO3.cell 3
    have o4 := hO3.cell 4
    have o5 := hO3.cell 5
    have o6 := hO3.cell 6
    have f0 := hO3.free 0
    have f1 := hO3.free 1
    have f2 := hO3.free 2
    have f3 := hO3.free 3
    have f4 := hO3.free 4
    have f5 := hO3.free 5
    have f6 := hO3.free 6
    unfold rnT at c8
    simp only [List.getElem?_toArray, List.getElem?_cons_zero, List.getElem?_cons_succ] at c8 o0 o1 o2 o3 o4 o5 o6
    have hz := (((((((hO3.put 0 (.int .u8 0)).put 1 (.int .u8 0)).put 2 (.int .u8 0)).put 3 (.int .u8 0)).put 4 (.int .u8 0)).put 5 (.int .u16 0)).put 6 (.bool false))
    have z0 := hz.cell 0
    have z1 := hz.cell 1
    have z2 := hz.cell 2
    have z3 := hz.cell 3
    have z4 := hz.cell 4
    have z5 := hz.cell 5
    have z6 := hz.cell 6
    simp only [List.getElem?_toArray, List.getElem?_cons_zero, List.getElem?_cons_succ, List.setIfInBounds_toArray, List.set_cons_zero, List.set_cons_succ] at z0 z1 z2 z3 z4 z5 z6
    have hf := Lib.hid (F.out (.returned (.tuple #[.slice la s'.l.length lc, .bool false, pegV ⟨0, 0, 0, 0, 0, 0, false⟩])) _ ⟨s', _, (((((((hbel.setCell (p := ⟨O, 0, none⟩) how (.int .u8 0)).setCell (p := ⟨O, 1, none⟩) how (.int .u8 0)).setCell (p := ⟨O, 2, none⟩) how (.int .u8 0)).setCell (p := ⟨O, 3, none⟩) how (.int .u8 0)).setCell (p := ⟨O, 4, none⟩) how (.int .u8 0)).setCell (p := ⟨O, 5, none⟩) how (.int .u16 0)).setCell (p := ⟨O, 6, none⟩) how (.bool false)), (row_put (row_put (row_put (row_put (row_put (row_put (row_put ho4 (p := ⟨O, 0, none⟩) hne (.int .u8 0)) (p := ⟨O, 1, none⟩) hne (.int .u8 0)) (p := ⟨O, 2, none⟩) hne (.int .u8 0)) (p := ⟨O, 3, none⟩) hne (.int .u8 0)) (p := ⟨O, 4, none⟩) hne (.int .u8 0)) (p := ⟨O, 5, none⟩) hne (.int .u16 0)) (p := ⟨O, 6, none⟩) hne (.bool false)), l, .inr ⟨h, rfl⟩⟩)
    unfold pegV at hf
    clear F hWhole t t2 hO3 hw4 ho4 hz hbel hbool k hO2' hB2' hT2' hne h hxg hog
    generalize s'.l.length = L at *
    go_wp2_with fail
    exact bodyPost_ret (v := .tuple #[.slice la L lc, .bool false, .agg #[.int .u8 0, .int .u8 0, .int .u8 0, .int .u8 0, .int .u8 0, .int .u16 0, .bool false]]) (by simp [results, Tryz.results11, go_sem, z0, z1, z2, z3, z4, z5, z6]) rfl hf.out
end Go.Proofs.YthecghmhohkcmaaGreatDoor
