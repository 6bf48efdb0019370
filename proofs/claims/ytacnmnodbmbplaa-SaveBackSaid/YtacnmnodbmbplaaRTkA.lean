/-
  The document's reader: what it is; its Left and End.
-/
import Derived.Test.YtacnmnodbmbplaaRdTakesM
namespace Go.Proofs.Ytacnmnodbmbplaa
open Go.RowKit Go.Shelf
set_option maxRecDepth 100000
set_option maxHeartbeats 1000000

theorem results_cells2 {P : Program} {fn : Func} {p1 p2 : Tmp} {ty1 ty2 : TypeId} (h : fn.results = #[.cell p1 ty1, .cell p2 ty2]) (tmps : Array Value) (w : World) (g1 g2 : Nat) (t1 t2 : TypeId) (cs1 cs2 : Array Value) (fr1 fr2 : Nat × Nat) (d1 d2 : TypeDesc)
    (hp1 : tmps.getD p1 undef = .pointer (some ⟨g1, 0, none⟩)) (hg1 : w.heap[g1]? = some (.cells cs1 t1 fr1)) (hu1 : P.underlying ty1 = some d1) (hd1 : (match d1 with | .struct _ | .array _ _ => true | _ => false) = true) (hi1 : (P.info? ty1).map (·.size) = some cs1.size)
    (hp2 : tmps.getD p2 undef = .pointer (some ⟨g2, 0, none⟩)) (hg2 : w.heap[g2]? = some (.cells cs2 t2 fr2)) (hu2 : P.underlying ty2 = some d2) (hd2 : (match d2 with | .struct _ | .array _ _ => true | _ => false) = true) (hi2 : (P.info? ty2).map (·.size) = some cs2.size) :
    (results fn tmps).run P w = .ok (.tuple #[.agg cs1, .agg cs2]) w := by
  have hp1' : tmps[p1]?.getD undef = .pointer (some ⟨g1, 0, none⟩) := by simpa using hp1
  have hp2' : tmps[p2]?.getD undef = .pointer (some ⟨g2, 0, none⟩) := by simpa using hp2
  simp [results, h, hp1', hp2', asAddr, run_loadVar_row w g1 t1 ty1 cs1 fr1 d1 hg1 hu1 hd1 hi1, run_loadVar_row w g2 t2 ty2 cs2 fr2 d2 hg2 hu2 hd2 hi2]
/-- The ends of what is open, the body's first. -/
def RS.endF (s : RS) : Nat → Nat := fun i => if i = 0 then s.n else s.ends (i - 1)
theorem RS.endF_last (s : RS) : s.endF s.op = s.endN := rfl
def rdV (a : Option Addr) (c : Nat) (ae : Option Addr) (ce : Nat) (s : RS) : Value := .agg #[.slice a s.n c, .int .i64 (s.at_ : Nat), .slice ae (s.op + 1) ce]
/-- The document's reader. -/
structure RDoc (w : World) (a : Option Addr) (c : Nat) (ae : Option Addr) (ce : Nat) (s : RS) : Prop where
  body : Row w a s.n s.f
  ends : IRow w ae (s.op + 1) s.endF
  le : s.n ≤ c
  len : s.op + 1 ≤ ce
theorem RDoc.below {w w' : World} {a ae : Option Addr} {c ce : Nat} {s : RS} (h : RDoc w a c ae ce s) (hb : Below w.heap.size w w') : RDoc w' a c ae ce s := ⟨h.body.below hb, h.ends.below hb, h.le, h.len⟩
theorem IRow.form {w : World} {a : Option Addr} {n : Nat} {f : Nat → Nat} (h : IRow w a (n + 1) f) : ∃ b o, a = some ⟨b, o, none⟩ ∧ b < w.heap.size ∧ ∀ i, i < n + 1 → w.cell? ⟨b, o + i, none⟩ = some (.int .i64 (f i : Nat)) := by
  rcases h with h | h
  · omega
  · exact h
theorem rleftd_any {a ae : Option Addr} {c ce : Nat} {s : RS} (w : World) (h : RDoc w a c ae ce s) (hg : s.Good) :
    Calls Try.prog 23 #[rdV a c ae ce s] w fun e w' => e = .returned (.int .i64 (s.left : Nat)) ∧ Below w.heap.size w w' := by
  obtain ⟨be, oe, rfl, hbe, hce⟩ := h.ends.form
  have hX := Whole.fresh w 48 #[.slice a s.n c, .int .i64 (s.at_ : Nat), .slice (some ⟨be, oe, none⟩) (s.op + 1) ce]
  have hB := (Below.refl w.heap.size w).alloc (Nat.le_refl _) (.cells #[.slice a s.n c, .int .i64 (s.at_ : Nat), .slice (some ⟨be, oe, none⟩) (s.op + 1) ce] 48)
  have ce' := (hB.cell (p := ⟨be, oe + s.op, none⟩) hbe).trans (hce s.op (by omega))
  have hlast := s.endF_last
  have h1 := hg.le
  have h2 := hg.end_le
  have h3 := hg.n
  have h4 := hg.op
  rw [hlast] at ce'
  have hl : s.left = s.endN - s.at_ := rfl
  rw [hl]
  have i1 : ((s.op + 1 : Nat) : Int) - 1 = (s.op : Int) := by omega
  have i2 : wrap64 (((s.op + 1 : Nat) : Int) - 1) = (s.op : Int) := by unfold wrap64; omega
  have i3 : IntKind.i64.wrap (((s.op + 1 : Nat) : Int) - 1) = (s.op : Int) := by simp only [IntKind.wrap_i64]; omega
  have i4 : (s.op : Int) < ((s.op + 1 : Nat) : Int) := by omega
  have i5 : (0 : Int) ≤ (s.op : Int) := by omega
  have i6 : IntKind.i64.wrap (s.op : Int) = (s.op : Int) := by simp only [IntKind.wrap_i64]; omega
  have i7 : wrap64 (s.op : Int) = (s.op : Int) := by unfold wrap64; omega
  have r1 : wrap64 ((s.endN : Int) - (s.at_ : Int)) = ((s.endN - s.at_ : Nat) : Int) := by unfold wrap64; omega
  have r2 : IntKind.i64.wrap ((s.endN : Int) - (s.at_ : Int)) = ((s.endN - s.at_ : Nat) : Int) := by simp only [IntKind.wrap_i64]; omega
  unfold rdV
  obtain ⟨n, hn⟩ : ∃ n, s.n = n := ⟨_, rfl⟩
  rw [hn] at hX hB ce' ⊢
  clear h hce hlast h2 h3 hl hn
  generalize s.endN = E at *
  generalize s.at_ = A at *
  replace h1 := Lib.hid h1
  replace h4 := Lib.hid h4
  go_enter Try.func23, Try.ntmps23
  go_upto_region 1 with (fail)
  generalize w.alloc (.cells #[.slice a n c, .int .i64 (A : Nat), .slice (some ⟨be, oe, none⟩) (s.op + 1) ce] 48) = W0 at *
  have c1 := hX.cell 1
  have c2 := hX.cell 2
  simp only [List.getElem?_toArray, List.getElem?_cons_zero, List.getElem?_cons_succ] at c1 c2
  go_quiet (fail)
  have hB1 := below_drewN hB nq
  clear hX hB ce' c1 c2
  go_wp2_with fail
  go_ret
  exact ⟨rfl, hB1⟩
end Go.Proofs.Ytacnmnodbmbplaa
namespace Go.Proofs.Ytacnmnodbmbplaa
open Go.RowKit Go.Shelf
set_option maxRecDepth 100000
set_option maxHeartbeats 1000000

theorem rd_end {w W : World} (hB : Below w.heap.size w W) (hU : Whole W (w.heap.size + 1 + 1) 48 #[.slice none 0 0, .int .i64 0, .slice none 0 0]) (hV : Whole W (w.heap.size + 1 + 1 + 1) 50 #[.int .i64 0, .slice none 0 0, .int .i64 0]) (u0 u1 u2 u3 u4 u5 : Value) :
    Whole ((((((W.setCell ⟨w.heap.size + 1 + 1, 0, none⟩ u0).setCell ⟨w.heap.size + 1 + 1, 1, none⟩ u1).setCell ⟨w.heap.size + 1 + 1, 2, none⟩ u2).setCell ⟨w.heap.size + 1 + 1 + 1, 0, none⟩ u3).setCell ⟨w.heap.size + 1 + 1 + 1, 1, none⟩ u4).setCell ⟨w.heap.size + 1 + 1 + 1, 2, none⟩ u5) (w.heap.size + 1 + 1) 48 #[u0, u1, u2] ∧
    Whole ((((((W.setCell ⟨w.heap.size + 1 + 1, 0, none⟩ u0).setCell ⟨w.heap.size + 1 + 1, 1, none⟩ u1).setCell ⟨w.heap.size + 1 + 1, 2, none⟩ u2).setCell ⟨w.heap.size + 1 + 1 + 1, 0, none⟩ u3).setCell ⟨w.heap.size + 1 + 1 + 1, 1, none⟩ u4).setCell ⟨w.heap.size + 1 + 1 + 1, 2, none⟩ u5) (w.heap.size + 1 + 1 + 1) 50 #[u3, u4, u5] ∧
    Below w.heap.size w ((((((W.setCell ⟨w.heap.size + 1 + 1, 0, none⟩ u0).setCell ⟨w.heap.size + 1 + 1, 1, none⟩ u1).setCell ⟨w.heap.size + 1 + 1, 2, none⟩ u2).setCell ⟨w.heap.size + 1 + 1 + 1, 0, none⟩ u3).setCell ⟨w.heap.size + 1 + 1 + 1, 1, none⟩ u4).setCell ⟨w.heap.size + 1 + 1 + 1, 2, none⟩ u5) := by
  have h1 : w.heap.size + 1 + 1 ≠ w.heap.size + 1 + 1 + 1 := by omega
  have h2 : w.heap.size + 1 + 1 + 1 ≠ w.heap.size + 1 + 1 := by omega
  refine ⟨?_, ?_, ?_⟩
  · exact ((((((hU.put 0 u0).put 1 u1).put 2 u2).away (p := ⟨w.heap.size + 1 + 1 + 1, 0, none⟩) h1 u3).away (p := ⟨w.heap.size + 1 + 1 + 1, 1, none⟩) h1 u4).away (p := ⟨w.heap.size + 1 + 1 + 1, 2, none⟩) h1 u5).as rfl
  · exact ((((((hV.away (p := ⟨w.heap.size + 1 + 1, 0, none⟩) h2 u0).away (p := ⟨w.heap.size + 1 + 1, 1, none⟩) h2 u1).away (p := ⟨w.heap.size + 1 + 1, 2, none⟩) h2 u2).put 0 u3).put 1 u4).put 2 u5).as rfl
  · exact (((((hB.setCell (p := ⟨w.heap.size + 1 + 1, 0, none⟩) (by show w.heap.size ≤ w.heap.size + 1 + 1; omega) u0).setCell (p := ⟨w.heap.size + 1 + 1, 1, none⟩) (by show w.heap.size ≤ w.heap.size + 1 + 1; omega) u1).setCell (p := ⟨w.heap.size + 1 + 1, 2, none⟩) (by show w.heap.size ≤ w.heap.size + 1 + 1; omega) u2).setCell (p := ⟨w.heap.size + 1 + 1 + 1, 0, none⟩) (by show w.heap.size ≤ w.heap.size + 1 + 1 + 1; omega) u3).setCell (p := ⟨w.heap.size + 1 + 1 + 1, 1, none⟩) (by show w.heap.size ≤ w.heap.size + 1 + 1 + 1; omega) u4).setCell (p := ⟨w.heap.size + 1 + 1 + 1, 2, none⟩) (by show w.heap.size ≤ w.heap.size + 1 + 1 + 1; omega) u5
theorem rtk_0n {a ae : Option Addr} {c ce : Nat} {s : RS} (n : Int) (pa : Option Addr) (len cap : Nat) (w : World) (h : RDoc w a c ae ce s) (hg : s.Good) (hz : s.left < 1) :
    Calls Try.prog 20 #[rdV a c ae ce s, putV 0 n pa len cap] w fun e w' => ∃ ab cb ae' ce', e = .returned (.tuple #[rdV a c ae' ce' (s.step 0 n).s, tookV (s.step 0 n).N ab (s.step 0 n).len cb (s.step 0 n).E]) ∧ RDoc w' a c ae' ce' (s.step 0 n).s ∧ Row w' ab (s.step 0 n).len (s.step 0 n).g ∧ Below w.heap.size w w' ∧ NewRow w.heap.size w' ae ae' := by
  have hX := (((Whole.fresh w 48 #[.slice a s.n c, .int .i64 (s.at_ : Nat), .slice ae (s.op + 1) ce]).alloc (.cells #[.int .i64 0, .int .i64 n, .slice pa len cap] 32)).alloc (.cells #[.slice none 0 0, .int .i64 0, .slice none 0 0] 48)).alloc (.cells #[.int .i64 0, .slice none 0 0, .int .i64 0] 50)
  have hY := ((Whole.fresh (w.alloc (.cells #[.slice a s.n c, .int .i64 (s.at_ : Nat), .slice ae (s.op + 1) ce] 48)) 32 #[.int .i64 0, .int .i64 n, .slice pa len cap]).alloc (.cells #[.slice none 0 0, .int .i64 0, .slice none 0 0] 48)).alloc (.cells #[.int .i64 0, .slice none 0 0, .int .i64 0] 50)
  have hU := (Whole.fresh ((w.alloc (.cells #[.slice a s.n c, .int .i64 (s.at_ : Nat), .slice ae (s.op + 1) ce] 48)).alloc (.cells #[.int .i64 0, .int .i64 n, .slice pa len cap] 32)) 48 #[.slice none 0 0, .int .i64 0, .slice none 0 0]).alloc (.cells #[.int .i64 0, .slice none 0 0, .int .i64 0] 50)
  have hV := Whole.fresh (((w.alloc (.cells #[.slice a s.n c, .int .i64 (s.at_ : Nat), .slice ae (s.op + 1) ce] 48)).alloc (.cells #[.int .i64 0, .int .i64 n, .slice pa len cap] 32)).alloc (.cells #[.slice none 0 0, .int .i64 0, .slice none 0 0] 48)) 50 #[.int .i64 0, .slice none 0 0, .int .i64 0]
  have hB := ((((Below.refl w.heap.size w).alloc (Nat.le_refl _) (.cells #[.slice a s.n c, .int .i64 (s.at_ : Nat), .slice ae (s.op + 1) ce] 48)).alloc (by simp) (.cells #[.int .i64 0, .int .i64 n, .slice pa len cap] 32)).alloc (by simp; omega) (.cells #[.slice none 0 0, .int .i64 0, .slice none 0 0] 48)).alloc (by simp; omega) (.cells #[.int .i64 0, .slice none 0 0, .int .i64 0] 50)
  have hs1 : (w.alloc (.cells #[.slice a s.n c, .int .i64 (s.at_ : Nat), .slice ae (s.op + 1) ce] 48)).heap.size = w.heap.size + 1 := by simp
  have hs2 : ((w.alloc (.cells #[.slice a s.n c, .int .i64 (s.at_ : Nat), .slice ae (s.op + 1) ce] 48)).alloc (.cells #[.int .i64 0, .int .i64 n, .slice pa len cap] 32)).heap.size = w.heap.size + 1 + 1 := by simp
  have hs3 : (((w.alloc (.cells #[.slice a s.n c, .int .i64 (s.at_ : Nat), .slice ae (s.op + 1) ce] 48)).alloc (.cells #[.int .i64 0, .int .i64 n, .slice pa len cap] 32)).alloc (.cells #[.slice none 0 0, .int .i64 0, .slice none 0 0] 48)).heap.size = w.heap.size + 1 + 1 + 1 := by simp
  rw [hs1] at hY
  rw [hs2] at hU
  rw [hs3] at hV
  clear hs1 hs2 hs3
  have hstep : s.step 0 n = ⟨s, 0, 0, fun _ => 0, 56⟩ := (show s.step 0 n = s.stepN 1 from rfl).trans (if_pos hz)
  rw [hstep]
  have HLf := Lib.hid (fun (W : World) (hW : RDoc W a c ae ce s) => rleftd_any W hW hg)
  have hRD := Lib.hid h
  have i1 : decide ((s.left : Int) < 1) = true := decide_eq_true (by omega)
  have i2 : (s.left : Int) < 1 := by omega
  have i3 : s.left < 1 := by omega
  unfold rdV putV at *
  obtain ⟨n', hn'⟩ : ∃ n', s.n = n' := ⟨_, rfl⟩
  have hL0 : s.left = 0 := by omega
  rw [hL0] at HLf
  clear hstep hg h hz hn' i1 i2 i3 hL0
  go_enter Try.func20, Try.ntmps20
  go_upto_region 1 with (fail)
  generalize ((((w.alloc (.cells #[.slice a s.n c, .int .i64 (s.at_ : Nat), .slice ae (s.op + 1) ce] 48)).alloc (.cells #[.int .i64 0, .int .i64 n, .slice pa len cap] 32)).alloc (.cells #[.slice none 0 0, .int .i64 0, .slice none 0 0] 48)).alloc (.cells #[.int .i64 0, .slice none 0 0, .int .i64 0] 50)) = W0 at *
  have x0 := hX.cell 0
  have x1 := hX.cell 1
  have x2 := hX.cell 2
  have y0 := hY.cell 0
  simp only [List.getElem?_toArray, List.getElem?_cons_zero, List.getElem?_cons_succ] at x0 x1 x2 y0
  go_wp2_with fail
  refine (HLf.out _ (hRD.out.below hB)).mono ?_
  rintro e W1 ⟨rfl, hB1⟩
  clear x0 x1 x2 y0
  replace hX := hX.below hB1 hX.lt
  replace hY := hY.below hB1 hY.lt
  replace hU := hU.below hB1 hU.lt
  replace hV := hV.below hB1 hV.lt
  have hB := hB.trans (hB1.mono hB.size)
  clear hB1
  have x0 := hX.cell 0
  have x1 := hX.cell 1
  have x2 := hX.cell 2
  simp only [List.getElem?_toArray, List.getElem?_cons_zero, List.getElem?_cons_succ] at x0 x1 x2
  have z0 := hU.cell 0
  have z1 := hU.cell 1
  have z2 := hU.cell 2
  have v0 := hV.cell 0
  have v1 := hV.cell 1
  have v2 := hV.cell 2
  simp only [List.getElem?_toArray, List.getElem?_cons_zero, List.getElem?_cons_succ] at z0 z1 z2 v0 v1 v2
  have g0 := hU.free 0
  have g1 := hU.free 1
  have g2 := hU.free 2
  have k0 := hV.free 0
  have k1 := hV.free 1
  have k2 := hV.free 2
  have fin := Lib.hid (rd_end hB hU hV (.slice a s.n c) (.int .i64 (s.at_ : Nat)) (.slice ae (s.op + 1) ce) (.int .i64 0) (.slice none 0 0) (.int .i64 56))
  clear HLf hX hY hU hV hB
  go_wp2_with fail
  exact bodyPost_ret (results_cells2 (fn := Try.f20) (p1 := 4) (p2 := 5) (ty1 := 48) (ty2 := 50) rfl _ _ _ _ _ _ _ _ (0, 0) (0, 0) _ _ rfl fin.out.1 Try.underlying48 rfl (by kernel_rfl) rfl fin.out.2.1 Try.underlying50 rfl (by kernel_rfl)) rfl ⟨_, _, _, _, rfl, hRD.out.below fin.out.2.2, Row.nil _ _ _, fin.out.2.2, .inl rfl⟩
theorem rtk_1n {a ae : Option Addr} {c ce : Nat} {s : RS} (n : Int) (pa : Option Addr) (len cap : Nat) (w : World) (h : RDoc w a c ae ce s) (hg : s.Good) (hz : s.left < 2) :
    Calls Try.prog 20 #[rdV a c ae ce s, putV 1 n pa len cap] w fun e w' => ∃ ab cb ae' ce', e = .returned (.tuple #[rdV a c ae' ce' (s.step 1 n).s, tookV (s.step 1 n).N ab (s.step 1 n).len cb (s.step 1 n).E]) ∧ RDoc w' a c ae' ce' (s.step 1 n).s ∧ Row w' ab (s.step 1 n).len (s.step 1 n).g ∧ Below w.heap.size w w' ∧ NewRow w.heap.size w' ae ae' := by
  have hX := (((Whole.fresh w 48 #[.slice a s.n c, .int .i64 (s.at_ : Nat), .slice ae (s.op + 1) ce]).alloc (.cells #[.int .i64 1, .int .i64 n, .slice pa len cap] 32)).alloc (.cells #[.slice none 0 0, .int .i64 0, .slice none 0 0] 48)).alloc (.cells #[.int .i64 0, .slice none 0 0, .int .i64 0] 50)
  have hY := ((Whole.fresh (w.alloc (.cells #[.slice a s.n c, .int .i64 (s.at_ : Nat), .slice ae (s.op + 1) ce] 48)) 32 #[.int .i64 1, .int .i64 n, .slice pa len cap]).alloc (.cells #[.slice none 0 0, .int .i64 0, .slice none 0 0] 48)).alloc (.cells #[.int .i64 0, .slice none 0 0, .int .i64 0] 50)
  have hU := (Whole.fresh ((w.alloc (.cells #[.slice a s.n c, .int .i64 (s.at_ : Nat), .slice ae (s.op + 1) ce] 48)).alloc (.cells #[.int .i64 1, .int .i64 n, .slice pa len cap] 32)) 48 #[.slice none 0 0, .int .i64 0, .slice none 0 0]).alloc (.cells #[.int .i64 0, .slice none 0 0, .int .i64 0] 50)
  have hV := Whole.fresh (((w.alloc (.cells #[.slice a s.n c, .int .i64 (s.at_ : Nat), .slice ae (s.op + 1) ce] 48)).alloc (.cells #[.int .i64 1, .int .i64 n, .slice pa len cap] 32)).alloc (.cells #[.slice none 0 0, .int .i64 0, .slice none 0 0] 48)) 50 #[.int .i64 0, .slice none 0 0, .int .i64 0]
  have hB := ((((Below.refl w.heap.size w).alloc (Nat.le_refl _) (.cells #[.slice a s.n c, .int .i64 (s.at_ : Nat), .slice ae (s.op + 1) ce] 48)).alloc (by simp) (.cells #[.int .i64 1, .int .i64 n, .slice pa len cap] 32)).alloc (by simp; omega) (.cells #[.slice none 0 0, .int .i64 0, .slice none 0 0] 48)).alloc (by simp; omega) (.cells #[.int .i64 0, .slice none 0 0, .int .i64 0] 50)
  have hs1 : (w.alloc (.cells #[.slice a s.n c, .int .i64 (s.at_ : Nat), .slice ae (s.op + 1) ce] 48)).heap.size = w.heap.size + 1 := by simp
  have hs2 : ((w.alloc (.cells #[.slice a s.n c, .int .i64 (s.at_ : Nat), .slice ae (s.op + 1) ce] 48)).alloc (.cells #[.int .i64 1, .int .i64 n, .slice pa len cap] 32)).heap.size = w.heap.size + 1 + 1 := by simp
  have hs3 : (((w.alloc (.cells #[.slice a s.n c, .int .i64 (s.at_ : Nat), .slice ae (s.op + 1) ce] 48)).alloc (.cells #[.int .i64 1, .int .i64 n, .slice pa len cap] 32)).alloc (.cells #[.slice none 0 0, .int .i64 0, .slice none 0 0] 48)).heap.size = w.heap.size + 1 + 1 + 1 := by simp
  rw [hs1] at hY
  rw [hs2] at hU
  rw [hs3] at hV
  clear hs1 hs2 hs3
  have hstep : s.step 1 n = ⟨s, 0, 0, fun _ => 0, 56⟩ := (show s.step 1 n = s.stepN 2 from rfl).trans (if_pos hz)
  rw [hstep]
  have HLf := Lib.hid (fun (W : World) (hW : RDoc W a c ae ce s) => rleftd_any W hW hg)
  have hRD := Lib.hid h
  have i1 : decide ((s.left : Int) < 2) = true := decide_eq_true (by omega)
  have i2 : (s.left : Int) < 2 := by omega
  have i3 : s.left < 2 := by omega
  unfold rdV putV at *
  obtain ⟨n', hn'⟩ : ∃ n', s.n = n' := ⟨_, rfl⟩
  clear hstep hg h hz hn'
  generalize s.left = L at *
  go_enter Try.func20, Try.ntmps20
  go_upto_region 1 with (fail)
  generalize ((((w.alloc (.cells #[.slice a s.n c, .int .i64 (s.at_ : Nat), .slice ae (s.op + 1) ce] 48)).alloc (.cells #[.int .i64 1, .int .i64 n, .slice pa len cap] 32)).alloc (.cells #[.slice none 0 0, .int .i64 0, .slice none 0 0] 48)).alloc (.cells #[.int .i64 0, .slice none 0 0, .int .i64 0] 50)) = W0 at *
  have x0 := hX.cell 0
  have x1 := hX.cell 1
  have x2 := hX.cell 2
  have y0 := hY.cell 0
  simp only [List.getElem?_toArray, List.getElem?_cons_zero, List.getElem?_cons_succ] at x0 x1 x2 y0
  go_wp2_with fail
  refine (HLf.out _ (hRD.out.below hB)).mono ?_
  rintro e W1 ⟨rfl, hB1⟩
  clear x0 x1 x2 y0
  replace hX := hX.below hB1 hX.lt
  replace hY := hY.below hB1 hY.lt
  replace hU := hU.below hB1 hU.lt
  replace hV := hV.below hB1 hV.lt
  have hB := hB.trans (hB1.mono hB.size)
  clear hB1
  have x0 := hX.cell 0
  have x1 := hX.cell 1
  have x2 := hX.cell 2
  simp only [List.getElem?_toArray, List.getElem?_cons_zero, List.getElem?_cons_succ] at x0 x1 x2
  have z0 := hU.cell 0
  have z1 := hU.cell 1
  have z2 := hU.cell 2
  have v0 := hV.cell 0
  have v1 := hV.cell 1
  have v2 := hV.cell 2
  simp only [List.getElem?_toArray, List.getElem?_cons_zero, List.getElem?_cons_succ] at z0 z1 z2 v0 v1 v2
  have g0 := hU.free 0
  have g1 := hU.free 1
  have g2 := hU.free 2
  have k0 := hV.free 0
  have k1 := hV.free 1
  have k2 := hV.free 2
  have fin := Lib.hid (rd_end hB hU hV (.slice a s.n c) (.int .i64 (s.at_ : Nat)) (.slice ae (s.op + 1) ce) (.int .i64 0) (.slice none 0 0) (.int .i64 56))
  clear HLf hX hY hU hV hB
  go_wp2_with fail
  exact bodyPost_ret (results_cells2 (fn := Try.f20) (p1 := 4) (p2 := 5) (ty1 := 48) (ty2 := 50) rfl _ _ _ _ _ _ _ _ (0, 0) (0, 0) _ _ rfl fin.out.1 Try.underlying48 rfl (by kernel_rfl) rfl fin.out.2.1 Try.underlying50 rfl (by kernel_rfl)) rfl ⟨_, _, _, _, rfl, hRD.out.below fin.out.2.2, Row.nil _ _ _, fin.out.2.2, .inl rfl⟩
theorem rtk_2n {a ae : Option Addr} {c ce : Nat} {s : RS} (n : Int) (pa : Option Addr) (len cap : Nat) (w : World) (h : RDoc w a c ae ce s) (hg : s.Good) (hz : s.left < 4) :
    Calls Try.prog 20 #[rdV a c ae ce s, putV 2 n pa len cap] w fun e w' => ∃ ab cb ae' ce', e = .returned (.tuple #[rdV a c ae' ce' (s.step 2 n).s, tookV (s.step 2 n).N ab (s.step 2 n).len cb (s.step 2 n).E]) ∧ RDoc w' a c ae' ce' (s.step 2 n).s ∧ Row w' ab (s.step 2 n).len (s.step 2 n).g ∧ Below w.heap.size w w' ∧ NewRow w.heap.size w' ae ae' := by
  have hX := (((Whole.fresh w 48 #[.slice a s.n c, .int .i64 (s.at_ : Nat), .slice ae (s.op + 1) ce]).alloc (.cells #[.int .i64 2, .int .i64 n, .slice pa len cap] 32)).alloc (.cells #[.slice none 0 0, .int .i64 0, .slice none 0 0] 48)).alloc (.cells #[.int .i64 0, .slice none 0 0, .int .i64 0] 50)
  have hY := ((Whole.fresh (w.alloc (.cells #[.slice a s.n c, .int .i64 (s.at_ : Nat), .slice ae (s.op + 1) ce] 48)) 32 #[.int .i64 2, .int .i64 n, .slice pa len cap]).alloc (.cells #[.slice none 0 0, .int .i64 0, .slice none 0 0] 48)).alloc (.cells #[.int .i64 0, .slice none 0 0, .int .i64 0] 50)
  have hU := (Whole.fresh ((w.alloc (.cells #[.slice a s.n c, .int .i64 (s.at_ : Nat), .slice ae (s.op + 1) ce] 48)).alloc (.cells #[.int .i64 2, .int .i64 n, .slice pa len cap] 32)) 48 #[.slice none 0 0, .int .i64 0, .slice none 0 0]).alloc (.cells #[.int .i64 0, .slice none 0 0, .int .i64 0] 50)
  have hV := Whole.fresh (((w.alloc (.cells #[.slice a s.n c, .int .i64 (s.at_ : Nat), .slice ae (s.op + 1) ce] 48)).alloc (.cells #[.int .i64 2, .int .i64 n, .slice pa len cap] 32)).alloc (.cells #[.slice none 0 0, .int .i64 0, .slice none 0 0] 48)) 50 #[.int .i64 0, .slice none 0 0, .int .i64 0]
  have hB := ((((Below.refl w.heap.size w).alloc (Nat.le_refl _) (.cells #[.slice a s.n c, .int .i64 (s.at_ : Nat), .slice ae (s.op + 1) ce] 48)).alloc (by simp) (.cells #[.int .i64 2, .int .i64 n, .slice pa len cap] 32)).alloc (by simp; omega) (.cells #[.slice none 0 0, .int .i64 0, .slice none 0 0] 48)).alloc (by simp; omega) (.cells #[.int .i64 0, .slice none 0 0, .int .i64 0] 50)
  have hs1 : (w.alloc (.cells #[.slice a s.n c, .int .i64 (s.at_ : Nat), .slice ae (s.op + 1) ce] 48)).heap.size = w.heap.size + 1 := by simp
  have hs2 : ((w.alloc (.cells #[.slice a s.n c, .int .i64 (s.at_ : Nat), .slice ae (s.op + 1) ce] 48)).alloc (.cells #[.int .i64 2, .int .i64 n, .slice pa len cap] 32)).heap.size = w.heap.size + 1 + 1 := by simp
  have hs3 : (((w.alloc (.cells #[.slice a s.n c, .int .i64 (s.at_ : Nat), .slice ae (s.op + 1) ce] 48)).alloc (.cells #[.int .i64 2, .int .i64 n, .slice pa len cap] 32)).alloc (.cells #[.slice none 0 0, .int .i64 0, .slice none 0 0] 48)).heap.size = w.heap.size + 1 + 1 + 1 := by simp
  rw [hs1] at hY
  rw [hs2] at hU
  rw [hs3] at hV
  clear hs1 hs2 hs3
  have hstep : s.step 2 n = ⟨s, 0, 0, fun _ => 0, 56⟩ := (show s.step 2 n = s.stepN 4 from rfl).trans (if_pos hz)
  rw [hstep]
  have HLf := Lib.hid (fun (W : World) (hW : RDoc W a c ae ce s) => rleftd_any W hW hg)
  have hRD := Lib.hid h
  have i1 : decide ((s.left : Int) < 4) = true := decide_eq_true (by omega)
  have i2 : (s.left : Int) < 4 := by omega
  have i3 : s.left < 4 := by omega
  unfold rdV putV at *
  obtain ⟨n', hn'⟩ : ∃ n', s.n = n' := ⟨_, rfl⟩
  clear hstep hg h hz hn'
  generalize s.left = L at *
  go_enter Try.func20, Try.ntmps20
  go_upto_region 1 with (fail)
  generalize ((((w.alloc (.cells #[.slice a s.n c, .int .i64 (s.at_ : Nat), .slice ae (s.op + 1) ce] 48)).alloc (.cells #[.int .i64 2, .int .i64 n, .slice pa len cap] 32)).alloc (.cells #[.slice none 0 0, .int .i64 0, .slice none 0 0] 48)).alloc (.cells #[.int .i64 0, .slice none 0 0, .int .i64 0] 50)) = W0 at *
  have x0 := hX.cell 0
  have x1 := hX.cell 1
  have x2 := hX.cell 2
  have y0 := hY.cell 0
  simp only [List.getElem?_toArray, List.getElem?_cons_zero, List.getElem?_cons_succ] at x0 x1 x2 y0
  go_wp2_with fail
  refine (HLf.out _ (hRD.out.below hB)).mono ?_
  rintro e W1 ⟨rfl, hB1⟩
  clear x0 x1 x2 y0
  replace hX := hX.below hB1 hX.lt
  replace hY := hY.below hB1 hY.lt
  replace hU := hU.below hB1 hU.lt
  replace hV := hV.below hB1 hV.lt
  have hB := hB.trans (hB1.mono hB.size)
  clear hB1
  have x0 := hX.cell 0
  have x1 := hX.cell 1
  have x2 := hX.cell 2
  simp only [List.getElem?_toArray, List.getElem?_cons_zero, List.getElem?_cons_succ] at x0 x1 x2
  have z0 := hU.cell 0
  have z1 := hU.cell 1
  have z2 := hU.cell 2
  have v0 := hV.cell 0
  have v1 := hV.cell 1
  have v2 := hV.cell 2
  simp only [List.getElem?_toArray, List.getElem?_cons_zero, List.getElem?_cons_succ] at z0 z1 z2 v0 v1 v2
  have g0 := hU.free 0
  have g1 := hU.free 1
  have g2 := hU.free 2
  have k0 := hV.free 0
  have k1 := hV.free 1
  have k2 := hV.free 2
  have fin := Lib.hid (rd_end hB hU hV (.slice a s.n c) (.int .i64 (s.at_ : Nat)) (.slice ae (s.op + 1) ce) (.int .i64 0) (.slice none 0 0) (.int .i64 56))
  clear HLf hX hY hU hV hB
  go_wp2_with fail
  exact bodyPost_ret (results_cells2 (fn := Try.f20) (p1 := 4) (p2 := 5) (ty1 := 48) (ty2 := 50) rfl _ _ _ _ _ _ _ _ (0, 0) (0, 0) _ _ rfl fin.out.1 Try.underlying48 rfl (by kernel_rfl) rfl fin.out.2.1 Try.underlying50 rfl (by kernel_rfl)) rfl ⟨_, _, _, _, rfl, hRD.out.below fin.out.2.2, Row.nil _ _ _, fin.out.2.2, .inl rfl⟩
theorem rtk_3n {a ae : Option Addr} {c ce : Nat} {s : RS} (n : Int) (pa : Option Addr) (len cap : Nat) (w : World) (h : RDoc w a c ae ce s) (hg : s.Good) (hz : s.left < 8) :
    Calls Try.prog 20 #[rdV a c ae ce s, putV 3 n pa len cap] w fun e w' => ∃ ab cb ae' ce', e = .returned (.tuple #[rdV a c ae' ce' (s.step 3 n).s, tookV (s.step 3 n).N ab (s.step 3 n).len cb (s.step 3 n).E]) ∧ RDoc w' a c ae' ce' (s.step 3 n).s ∧ Row w' ab (s.step 3 n).len (s.step 3 n).g ∧ Below w.heap.size w w' ∧ NewRow w.heap.size w' ae ae' := by
  have hX := (((Whole.fresh w 48 #[.slice a s.n c, .int .i64 (s.at_ : Nat), .slice ae (s.op + 1) ce]).alloc (.cells #[.int .i64 3, .int .i64 n, .slice pa len cap] 32)).alloc (.cells #[.slice none 0 0, .int .i64 0, .slice none 0 0] 48)).alloc (.cells #[.int .i64 0, .slice none 0 0, .int .i64 0] 50)
  have hY := ((Whole.fresh (w.alloc (.cells #[.slice a s.n c, .int .i64 (s.at_ : Nat), .slice ae (s.op + 1) ce] 48)) 32 #[.int .i64 3, .int .i64 n, .slice pa len cap]).alloc (.cells #[.slice none 0 0, .int .i64 0, .slice none 0 0] 48)).alloc (.cells #[.int .i64 0, .slice none 0 0, .int .i64 0] 50)
  have hU := (Whole.fresh ((w.alloc (.cells #[.slice a s.n c, .int .i64 (s.at_ : Nat), .slice ae (s.op + 1) ce] 48)).alloc (.cells #[.int .i64 3, .int .i64 n, .slice pa len cap] 32)) 48 #[.slice none 0 0, .int .i64 0, .slice none 0 0]).alloc (.cells #[.int .i64 0, .slice none 0 0, .int .i64 0] 50)
  have hV := Whole.fresh (((w.alloc (.cells #[.slice a s.n c, .int .i64 (s.at_ : Nat), .slice ae (s.op + 1) ce] 48)).alloc (.cells #[.int .i64 3, .int .i64 n, .slice pa len cap] 32)).alloc (.cells #[.slice none 0 0, .int .i64 0, .slice none 0 0] 48)) 50 #[.int .i64 0, .slice none 0 0, .int .i64 0]
  have hB := ((((Below.refl w.heap.size w).alloc (Nat.le_refl _) (.cells #[.slice a s.n c, .int .i64 (s.at_ : Nat), .slice ae (s.op + 1) ce] 48)).alloc (by simp) (.cells #[.int .i64 3, .int .i64 n, .slice pa len cap] 32)).alloc (by simp; omega) (.cells #[.slice none 0 0, .int .i64 0, .slice none 0 0] 48)).alloc (by simp; omega) (.cells #[.int .i64 0, .slice none 0 0, .int .i64 0] 50)
  have hs1 : (w.alloc (.cells #[.slice a s.n c, .int .i64 (s.at_ : Nat), .slice ae (s.op + 1) ce] 48)).heap.size = w.heap.size + 1 := by simp
  have hs2 : ((w.alloc (.cells #[.slice a s.n c, .int .i64 (s.at_ : Nat), .slice ae (s.op + 1) ce] 48)).alloc (.cells #[.int .i64 3, .int .i64 n, .slice pa len cap] 32)).heap.size = w.heap.size + 1 + 1 := by simp
  have hs3 : (((w.alloc (.cells #[.slice a s.n c, .int .i64 (s.at_ : Nat), .slice ae (s.op + 1) ce] 48)).alloc (.cells #[.int .i64 3, .int .i64 n, .slice pa len cap] 32)).alloc (.cells #[.slice none 0 0, .int .i64 0, .slice none 0 0] 48)).heap.size = w.heap.size + 1 + 1 + 1 := by simp
  rw [hs1] at hY
  rw [hs2] at hU
  rw [hs3] at hV
  clear hs1 hs2 hs3
  have hstep : s.step 3 n = ⟨s, 0, 0, fun _ => 0, 56⟩ := (show s.step 3 n = s.stepN 8 from rfl).trans (if_pos hz)
  rw [hstep]
  have HLf := Lib.hid (fun (W : World) (hW : RDoc W a c ae ce s) => rleftd_any W hW hg)
  have hRD := Lib.hid h
  have i1 : decide ((s.left : Int) < 8) = true := decide_eq_true (by omega)
  have i2 : (s.left : Int) < 8 := by omega
  have i3 : s.left < 8 := by omega
  unfold rdV putV at *
  obtain ⟨n', hn'⟩ : ∃ n', s.n = n' := ⟨_, rfl⟩
  clear hstep hg h hz hn'
  generalize s.left = L at *
  go_enter Try.func20, Try.ntmps20
  go_upto_region 1 with (fail)
  generalize ((((w.alloc (.cells #[.slice a s.n c, .int .i64 (s.at_ : Nat), .slice ae (s.op + 1) ce] 48)).alloc (.cells #[.int .i64 3, .int .i64 n, .slice pa len cap] 32)).alloc (.cells #[.slice none 0 0, .int .i64 0, .slice none 0 0] 48)).alloc (.cells #[.int .i64 0, .slice none 0 0, .int .i64 0] 50)) = W0 at *
  have x0 := hX.cell 0
  have x1 := hX.cell 1
  have x2 := hX.cell 2
  have y0 := hY.cell 0
  simp only [List.getElem?_toArray, List.getElem?_cons_zero, List.getElem?_cons_succ] at x0 x1 x2 y0
  go_wp2_with fail
  refine (HLf.out _ (hRD.out.below hB)).mono ?_
  rintro e W1 ⟨rfl, hB1⟩
  clear x0 x1 x2 y0
  replace hX := hX.below hB1 hX.lt
  replace hY := hY.below hB1 hY.lt
  replace hU := hU.below hB1 hU.lt
  replace hV := hV.below hB1 hV.lt
  have hB := hB.trans (hB1.mono hB.size)
  clear hB1
  have x0 := hX.cell 0
  have x1 := hX.cell 1
  have x2 := hX.cell 2
  simp only [List.getElem?_toArray, List.getElem?_cons_zero, List.getElem?_cons_succ] at x0 x1 x2
  have z0 := hU.cell 0
  have z1 := hU.cell 1
  have z2 := hU.cell 2
  have v0 := hV.cell 0
  have v1 := hV.cell 1
  have v2 := hV.cell 2
  simp only [List.getElem?_toArray, List.getElem?_cons_zero, List.getElem?_cons_succ] at z0 z1 z2 v0 v1 v2
  have g0 := hU.free 0
  have g1 := hU.free 1
  have g2 := hU.free 2
  have k0 := hV.free 0
  have k1 := hV.free 1
  have k2 := hV.free 2
  have fin := Lib.hid (rd_end hB hU hV (.slice a s.n c) (.int .i64 (s.at_ : Nat)) (.slice ae (s.op + 1) ce) (.int .i64 0) (.slice none 0 0) (.int .i64 56))
  clear HLf hX hY hU hV hB
  go_wp2_with fail
  exact bodyPost_ret (results_cells2 (fn := Try.f20) (p1 := 4) (p2 := 5) (ty1 := 48) (ty2 := 50) rfl _ _ _ _ _ _ _ _ (0, 0) (0, 0) _ _ rfl fin.out.1 Try.underlying48 rfl (by kernel_rfl) rfl fin.out.2.1 Try.underlying50 rfl (by kernel_rfl)) rfl ⟨_, _, _, _, rfl, hRD.out.below fin.out.2.2, Row.nil _ _ _, fin.out.2.2, .inl rfl⟩
theorem rtk_4n {a ae : Option Addr} {c ce : Nat} {s : RS} (n : Int) (pa : Option Addr) (len cap : Nat) (w : World) (h : RDoc w a c ae ce s) (hg : s.Good) (hz : s.left < 1) :
    Calls Try.prog 20 #[rdV a c ae ce s, putV 4 n pa len cap] w fun e w' => ∃ ab cb ae' ce', e = .returned (.tuple #[rdV a c ae' ce' (s.step 4 n).s, tookV (s.step 4 n).N ab (s.step 4 n).len cb (s.step 4 n).E]) ∧ RDoc w' a c ae' ce' (s.step 4 n).s ∧ Row w' ab (s.step 4 n).len (s.step 4 n).g ∧ Below w.heap.size w w' ∧ NewRow w.heap.size w' ae ae' := by
  have hX := (((Whole.fresh w 48 #[.slice a s.n c, .int .i64 (s.at_ : Nat), .slice ae (s.op + 1) ce]).alloc (.cells #[.int .i64 4, .int .i64 n, .slice pa len cap] 32)).alloc (.cells #[.slice none 0 0, .int .i64 0, .slice none 0 0] 48)).alloc (.cells #[.int .i64 0, .slice none 0 0, .int .i64 0] 50)
  have hY := ((Whole.fresh (w.alloc (.cells #[.slice a s.n c, .int .i64 (s.at_ : Nat), .slice ae (s.op + 1) ce] 48)) 32 #[.int .i64 4, .int .i64 n, .slice pa len cap]).alloc (.cells #[.slice none 0 0, .int .i64 0, .slice none 0 0] 48)).alloc (.cells #[.int .i64 0, .slice none 0 0, .int .i64 0] 50)
  have hU := (Whole.fresh ((w.alloc (.cells #[.slice a s.n c, .int .i64 (s.at_ : Nat), .slice ae (s.op + 1) ce] 48)).alloc (.cells #[.int .i64 4, .int .i64 n, .slice pa len cap] 32)) 48 #[.slice none 0 0, .int .i64 0, .slice none 0 0]).alloc (.cells #[.int .i64 0, .slice none 0 0, .int .i64 0] 50)
  have hV := Whole.fresh (((w.alloc (.cells #[.slice a s.n c, .int .i64 (s.at_ : Nat), .slice ae (s.op + 1) ce] 48)).alloc (.cells #[.int .i64 4, .int .i64 n, .slice pa len cap] 32)).alloc (.cells #[.slice none 0 0, .int .i64 0, .slice none 0 0] 48)) 50 #[.int .i64 0, .slice none 0 0, .int .i64 0]
  have hB := ((((Below.refl w.heap.size w).alloc (Nat.le_refl _) (.cells #[.slice a s.n c, .int .i64 (s.at_ : Nat), .slice ae (s.op + 1) ce] 48)).alloc (by simp) (.cells #[.int .i64 4, .int .i64 n, .slice pa len cap] 32)).alloc (by simp; omega) (.cells #[.slice none 0 0, .int .i64 0, .slice none 0 0] 48)).alloc (by simp; omega) (.cells #[.int .i64 0, .slice none 0 0, .int .i64 0] 50)
  have hs1 : (w.alloc (.cells #[.slice a s.n c, .int .i64 (s.at_ : Nat), .slice ae (s.op + 1) ce] 48)).heap.size = w.heap.size + 1 := by simp
  have hs2 : ((w.alloc (.cells #[.slice a s.n c, .int .i64 (s.at_ : Nat), .slice ae (s.op + 1) ce] 48)).alloc (.cells #[.int .i64 4, .int .i64 n, .slice pa len cap] 32)).heap.size = w.heap.size + 1 + 1 := by simp
  have hs3 : (((w.alloc (.cells #[.slice a s.n c, .int .i64 (s.at_ : Nat), .slice ae (s.op + 1) ce] 48)).alloc (.cells #[.int .i64 4, .int .i64 n, .slice pa len cap] 32)).alloc (.cells #[.slice none 0 0, .int .i64 0, .slice none 0 0] 48)).heap.size = w.heap.size + 1 + 1 + 1 := by simp
  rw [hs1] at hY
  rw [hs2] at hU
  rw [hs3] at hV
  clear hs1 hs2 hs3
  have hstep : s.step 4 n = ⟨s, 0, 0, fun _ => 0, 56⟩ := by
    have hf : s.flagE = 56 := if_pos hz
    show (⟨if s.flagE = 0 then s.adv 1 else s, if s.flagE = 0 then ((s.num 1 : Nat) : Int) else 0, 0, fun _ => 0, s.flagE⟩ : Tk) = _
    rw [hf]; rfl
  rw [hstep]
  have HLf := Lib.hid (fun (W : World) (hW : RDoc W a c ae ce s) => rleftd_any W hW hg)
  have hRD := Lib.hid h
  have i1 : decide ((s.left : Int) < 1) = true := decide_eq_true (by omega)
  have i2 : (s.left : Int) < 1 := by omega
  have i3 : s.left < 1 := by omega
  unfold rdV putV at *
  obtain ⟨n', hn'⟩ : ∃ n', s.n = n' := ⟨_, rfl⟩
  have hL0 : s.left = 0 := by omega
  rw [hL0] at HLf
  clear hstep hg h hz hn' i1 i2 i3 hL0
  go_enter Try.func20, Try.ntmps20
  go_upto_region 1 with (fail)
  generalize ((((w.alloc (.cells #[.slice a s.n c, .int .i64 (s.at_ : Nat), .slice ae (s.op + 1) ce] 48)).alloc (.cells #[.int .i64 4, .int .i64 n, .slice pa len cap] 32)).alloc (.cells #[.slice none 0 0, .int .i64 0, .slice none 0 0] 48)).alloc (.cells #[.int .i64 0, .slice none 0 0, .int .i64 0] 50)) = W0 at *
  have x0 := hX.cell 0
  have x1 := hX.cell 1
  have x2 := hX.cell 2
  have y0 := hY.cell 0
  simp only [List.getElem?_toArray, List.getElem?_cons_zero, List.getElem?_cons_succ] at x0 x1 x2 y0
  go_wp2_with fail
  refine (HLf.out _ (hRD.out.below hB)).mono ?_
  rintro e W1 ⟨rfl, hB1⟩
  clear x0 x1 x2 y0
  replace hX := hX.below hB1 hX.lt
  replace hY := hY.below hB1 hY.lt
  replace hU := hU.below hB1 hU.lt
  replace hV := hV.below hB1 hV.lt
  have hB := hB.trans (hB1.mono hB.size)
  clear hB1
  have x0 := hX.cell 0
  have x1 := hX.cell 1
  have x2 := hX.cell 2
  simp only [List.getElem?_toArray, List.getElem?_cons_zero, List.getElem?_cons_succ] at x0 x1 x2
  have z0 := hU.cell 0
  have z1 := hU.cell 1
  have z2 := hU.cell 2
  have v0 := hV.cell 0
  have v1 := hV.cell 1
  have v2 := hV.cell 2
  simp only [List.getElem?_toArray, List.getElem?_cons_zero, List.getElem?_cons_succ] at z0 z1 z2 v0 v1 v2
  have g0 := hU.free 0
  have g1 := hU.free 1
  have g2 := hU.free 2
  have k0 := hV.free 0
  have k1 := hV.free 1
  have k2 := hV.free 2
  have fin := Lib.hid (rd_end hB hU hV (.slice a s.n c) (.int .i64 (s.at_ : Nat)) (.slice ae (s.op + 1) ce) (.int .i64 0) (.slice none 0 0) (.int .i64 56))
  clear HLf hX hY hU hV hB
  go_wp2_with fail
  exact bodyPost_ret (results_cells2 (fn := Try.f20) (p1 := 4) (p2 := 5) (ty1 := 48) (ty2 := 50) rfl _ _ _ _ _ _ _ _ (0, 0) (0, 0) _ _ rfl fin.out.1 Try.underlying48 rfl (by kernel_rfl) rfl fin.out.2.1 Try.underlying50 rfl (by kernel_rfl)) rfl ⟨_, _, _, _, rfl, hRD.out.below fin.out.2.2, Row.nil _ _ _, fin.out.2.2, .inl rfl⟩
end Go.Proofs.Ytacnmnodbmbplaa
