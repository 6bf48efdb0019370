/-
  Run by the code.
-/
import Derived.Test.YthecghmhohkcmaaGreatDoorTCo
import Derived.StillTailTactics
namespace Go.Proofs.YthecghmhohkcmaaGreatDoor
open Go.RowKit Go.Shelf
set_option maxRecDepth 100000
set_option maxHeartbeats 2000000
set_option linter.unusedVariables false

/-- A memory answers each read. -/
theorem go_some {α : Type} (p : Pg α) : ∀ l q f, q.mem = some f → ∃ l' q' a, go p l q = (l', q', some a) ∧ q'.mem = some f := by
  induction p with
  | ret a => intro l q f h; exact ⟨l, q, a, rfl, h⟩
  | idle p ih => intro l q f h; exact ih _ _ _ h
  | write a v p ih => intro l q f h; exact ih _ _ _ h
  | read a p ih =>
    intro l q f h
    have ht : q.take (a % 65536) = some (f (a % 65536), q) := by unfold Sc.take; rw [h]
    simp only [go, ht]
    exact ih _ _ _ _ h
theorem no_gave {α : Type} {m : M α} {s s' : Ts} {f : Nat → Nat} (h : s.q.mem = some f) (g : Gave m s s') : False := by
  obtain ⟨l', q', a, e, _⟩ := go_some (m s.r) s.l s.q f h
  unfold Gave at g
  rw [e] at g
  cases g
/-- What Run answers. -/
def runP (w : World) (A : Nat → Nat → Nat → M Unit) (r : Rp) (f : Nat → Nat) (e : Ending) (w' : World) : Prop :=
  ∃ s' lv, Below w.heap.size w w' ∧ w'.ownsRow w.heap.size 42 3 lv s'.l.length (accX s'.l) ∧ s'.l.length ≤ 40 ∧
    Ran (runM A) (s0 r ⟨some f, []⟩) () s' ∧ s'.r.Ok ∧ e = .returned (.tuple #[lv, pegV s'.r, .int .i64 0])
theorem runlaw_any (A : Nat → Nat → Nat → M Unit) (r : Rp) (a : Option Addr) (c : Nat) (f : Nat → Nat) (w : World) (hr : r.Ok) (hR : Row w a 65536 f) (hnc : 65536 ≤ c) (HA : ∀ K s1 c, Ran fetchM (s0 r ⟨some f, []⟩) c s1 → ActOk K c A) :
    Calls Tryz.prog 16 #[pegV r, .slice a 65536 c] w (runP w A r f) := by
  obtain ⟨Q, hQ, F⟩ := post_name (runP w A r f)
  rw [hQ]
  clear hQ
  replace F := Lib.hid F
  have hqok : Sc.Ok ⟨some f, []⟩ := ⟨fun x hx => absurd hx List.not_mem_nil, fun g h i hi => by
    injection h with h
    subst h
    exact hR.1 i hi⟩
  have hfit : Fits (some f) (Sc.mk (some f) []).seen 65536 f := ⟨rfl, rfl⟩
  have hP1 := ((Whole.fresh w 24 (pegC r)).alloc (.cells #[.slice a 65536 c] 25)).alloc (.cells (pegC ⟨0, 0, 0, 0, 0, 0, false⟩) 24)
  have hX1 := (Whole.fresh (w.alloc (.cells (pegC r) 24)) 25 #[.slice a 65536 c]).alloc (.cells (pegC ⟨0, 0, 0, 0, 0, 0, false⟩) 24)
  have hO1 := Whole.fresh ((w.alloc (.cells (pegC r) 24)).alloc (.cells #[.slice a 65536 c] 25)) 24 (pegC ⟨0, 0, 0, 0, 0, 0, false⟩)
  have hB1 := (((Below.refl w.heap.size w).alloc (Nat.le_refl _) (.cells (pegC r) 24)).alloc (by simp) (.cells #[.slice a 65536 c] 25)).alloc (by simp; omega) (.cells (pegC ⟨0, 0, 0, 0, 0, 0, false⟩) 24)
  rw [show (w.alloc (.cells (pegC r) 24)).heap.size = w.heap.size + 1 by simp] at hX1
  rw [show ((w.alloc (.cells (pegC r) 24)).alloc (.cells #[.slice a 65536 c] 25)).heap.size = w.heap.size + 1 + 1 by simp] at hO1
  unfold pegC at hP1 hX1 hO1 hB1
  simp only [show ((0 : Nat) : Int) = 0 from rfl] at hP1 hX1 hO1 hB1
  unfold pegV
  go_enter Tryz.func16, Tryz.ntmps16
  go_upto_region 3 with (fail)
  generalize (((w.alloc (.cells #[.int .u8 r.A, .int .u8 r.X, .int .u8 r.Y, .int .u8 r.S, .int .u8 r.P, .int .u16 r.Pc, .bool r.H] 24)).alloc (.cells #[.slice a 65536 c] 25)).alloc (.cells #[.int .u8 0, .int .u8 0, .int .u8 0, .int .u8 0, .int .u8 0, .int .u16 0, .bool false] 24)) = W1 at *
  generalize hxg : w.heap.size + 1 = x at *
  have hxw : w.heap.size ≤ x := by omega
  generalize hog : x + 1 = O at *
  have how : w.heap.size ≤ O := by omega
  have hRO := Lib.hid (runnerOf_any r 27 x W1)
  unfold pegV at hRO
  have x0 := hP1.cell 0
  have x1 := hP1.cell 1
  have x2 := hP1.cell 2
  have x3 := hP1.cell 3
  have x4 := hP1.cell 4
  have x5 := hP1.cell 5
  have x6 := hP1.cell 6
  simp only [List.getElem?_toArray, List.getElem?_cons_zero, List.getElem?_cons_succ] at x0 x1 x2 x3 x4 x5 x6
  replace hxg := Lib.hid hxg
  replace hog := Lib.hid hog
  go_wp2_with fail
  with_reducible refine hRO.out.mono ?_
  rintro e W2 ⟨b, lv, rfl, hB2, hbb, hW2, ho2⟩
  have hT2 := Tk.made (q := ⟨some f, []⟩) (mem := some f) hr hqok rfl hB1 hxw hX1 hnc hR hfit hB2 hbb hW2 ho2
  have hO2 := hO1.below hB2 hO1.lt
  have hdo := (run_any A hT2 rfl (fun s1 c h => HA _ s1 c h)).mono (R' := fun e V => ∃ z' s', Tk ⟨w, w.heap.size, b, x, some f⟩ z' s' V ∧ Kp ⟨w, w.heap.size, b, x, some f⟩ W2 V ∧ s'.l.length ≤ 40 ∧ Ran (runM A) (s0 r ⟨some f, []⟩) () s' ∧ e = .returned (.tuple #[])) (by
    rintro e V ⟨z', s', t, k, l, h⟩
    have hl : s'.l.length ≤ 40 := by simpa [s0] using l
    rcases h with ⟨u, h1, _, rfl⟩ | ⟨h1, rfl⟩
    · exact ⟨z', s', t, k, hl, h1, rfl⟩
    · exact (no_gave rfl h1).elim)
  have hB2' := Lib.hid (hB1.trans (hB2.mono hB1.size))
  have hO2' := Lib.hid hO2
  have hT2' := Lib.hid hT2
  have hsW : w.heap.size ≤ W2.heap.size := by have := hB2'.out.size; exact this
  replace hdo := Lib.hid hdo
  clear hT2 hO2 hB2 hbb hW2 ho2 x0 x1 x2 x3 x4 x5 x6 hRO hP1 hX1 hO1 hB1 hfit hqok HA hR hnc
  go_wp2_with fail
  with_reducible refine hdo.out.mono ?_
  rintro e W4 ⟨z', s', t2, k, l, h, rfl⟩
  have hO3 := k.stay hT2'.out hO2'.out
  obtain ⟨lv4, hw4, ho4⟩ := t2.cells
  obtain ⟨la, lc, rfl⟩ := row_slice ho4
  have hne := own_apart ho4 hO3 (by decide)
  have hbel := t2.bel
  have c8 := hw4.cell 8
  have c0 := hw4.cell 0
  have c1 := hw4.cell 1
  have c2 := hw4.cell 2
  have c3 := hw4.cell 3
  have c4 := hw4.cell 4
  have c5 := hw4.cell 5
  have c6 := hw4.cell 6
  have o0 := hO3.cell 0
  have o1 := hO3.cell 1
  have o2 := hO3.cell 2
  have o3 := hO3.cell 3
  have o4 := hO3.cell 4
  have o5 := hO3.cell 5
  have o6 := hO3.cell 6
  have f0 := hO3.free 0
  have f1 := hO3.free 1
  have f2 := hO3.free 2
  have f3 := hO3.free 3
  have f4 := hO3.free 4
  have f5 := hO3.free 5
  have f6 := hO3.free 6
  unfold rnT at c8 c0 c1 c2 c3 c4 c5 c6
  simp only [List.getElem?_toArray, List.getElem?_cons_zero, List.getElem?_cons_succ] at c8 c0 c1 c2 c3 c4 c5 c6 o0 o1 o2 o3 o4 o5 o6
  have hz := (((((((hO3.drew.put 0 (.int .u8 (s'.r.A : Nat))).put 1 (.int .u8 (s'.r.X : Nat))).put 2 (.int .u8 (s'.r.Y : Nat))).put 3 (.int .u8 (s'.r.S : Nat))).put 4 (.int .u8 (s'.r.P : Nat))).put 5 (.int .u16 (s'.r.Pc : Nat))).put 6 (.bool s'.r.H))
  have z0 := hz.cell 0
  have z1 := hz.cell 1
  have z2 := hz.cell 2
  have z3 := hz.cell 3
  have z4 := hz.cell 4
  have z5 := hz.cell 5
  have z6 := hz.cell 6
  simp only [List.getElem?_toArray, List.getElem?_cons_zero, List.getElem?_cons_succ, List.setIfInBounds_toArray, List.set_cons_zero, List.set_cons_succ] at z0 z1 z2 z3 z4 z5 z6
  have hf := Lib.hid (F.out (.returned (.tuple #[.slice la s'.l.length lc, pegV s'.r, .int .i64 0])) _ ⟨s', _, (((((((hbel.drew.setCell (p := ⟨O, 0, none⟩) how (.int .u8 (s'.r.A : Nat))).setCell (p := ⟨O, 1, none⟩) how (.int .u8 (s'.r.X : Nat))).setCell (p := ⟨O, 2, none⟩) how (.int .u8 (s'.r.Y : Nat))).setCell (p := ⟨O, 3, none⟩) how (.int .u8 (s'.r.S : Nat))).setCell (p := ⟨O, 4, none⟩) how (.int .u8 (s'.r.P : Nat))).setCell (p := ⟨O, 5, none⟩) how (.int .u16 (s'.r.Pc : Nat))).setCell (p := ⟨O, 6, none⟩) how (.bool s'.r.H)), (row_put (row_put (row_put (row_put (row_put (row_put (row_put ho4.drew (p := ⟨O, 0, none⟩) hne (.int .u8 (s'.r.A : Nat))) (p := ⟨O, 1, none⟩) hne (.int .u8 (s'.r.X : Nat))) (p := ⟨O, 2, none⟩) hne (.int .u8 (s'.r.Y : Nat))) (p := ⟨O, 3, none⟩) hne (.int .u8 (s'.r.S : Nat))) (p := ⟨O, 4, none⟩) hne (.int .u8 (s'.r.P : Nat))) (p := ⟨O, 5, none⟩) hne (.int .u16 (s'.r.Pc : Nat))) (p := ⟨O, 6, none⟩) hne (.bool s'.r.H)), l, h, t2.ok, rfl⟩)
  unfold pegV at hf
  clear F hdo t2 hO3 hw4 ho4 hz hbel k hO2' hB2' hT2' hne h hxg hog
  generalize s'.l.length = L at *
  go_upto_region 5 with (fail)
  go_still_tail 9, (by kernel_rfl)
  show wpList _ _ _ _ _ W4.drew
  have o0 : W4.drew.cell? ⟨O, 0, none⟩ = some (.int .u8 0) := o0
  have o1 : W4.drew.cell? ⟨O, 1, none⟩ = some (.int .u8 0) := o1
  have o2 : W4.drew.cell? ⟨O, 2, none⟩ = some (.int .u8 0) := o2
  have o3 : W4.drew.cell? ⟨O, 3, none⟩ = some (.int .u8 0) := o3
  have o4 : W4.drew.cell? ⟨O, 4, none⟩ = some (.int .u8 0) := o4
  have o5 : W4.drew.cell? ⟨O, 5, none⟩ = some (.int .u16 0) := o5
  have o6 : W4.drew.cell? ⟨O, 6, none⟩ = some (.bool false) := o6
  have f0 : W4.drew.frozen? ⟨O, 0, none⟩ = false := f0
  have f1 : W4.drew.frozen? ⟨O, 1, none⟩ = false := f1
  have f2 : W4.drew.frozen? ⟨O, 2, none⟩ = false := f2
  have f3 : W4.drew.frozen? ⟨O, 3, none⟩ = false := f3
  have f4 : W4.drew.frozen? ⟨O, 4, none⟩ = false := f4
  have f5 : W4.drew.frozen? ⟨O, 5, none⟩ = false := f5
  have f6 : W4.drew.frozen? ⟨O, 6, none⟩ = false := f6
  generalize W4.drew = W5 at *
  go_wp2_with fail
  exact bodyPost_ret (v := .tuple #[.slice la L lc, .agg #[.int .u8 (s'.r.A : Nat), .int .u8 (s'.r.X : Nat), .int .u8 (s'.r.Y : Nat), .int .u8 (s'.r.S : Nat), .int .u8 (s'.r.P : Nat), .int .u16 (s'.r.Pc : Nat), .bool s'.r.H], .int .i64 0]) (by simp [results, Tryz.results16, go_sem, z0, z1, z2, z3, z4, z5, z6]) rfl hf.out
end Go.Proofs.YthecghmhohkcmaaGreatDoor
