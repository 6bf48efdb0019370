/-
  A course: what stands around what its name does.
-/
import Derived.Test.YtnacdaodjgdnnaaGreatXRegA
import Derived.Test.YtnacdaodjgdnnaaGreatCodB
namespace Go.Proofs.YtnacdaodjgdnnaaGreat
open Go.RowKit Go.Shelf
set_option maxRecDepth 100000
set_option maxHeartbeats 1000000
set_option linter.unusedVariables false

/-- A code, whole. -/
def cdF (c : Nat) : Cd5 := (c, Cd.nameF c, Cd.modeF c, Cd.useF (Cd.nameF c).toList (Cd.modeF c), Cd.widthF (Cd.nameF c).toList)
/-- A course, A being what each code's name does. -/
def courseX (A : Nat → X Unit) : X Unit := fun s => if (fetchX 1 s).2.st then ((), { (fetchX 1 s).2 with cd := cdF (fetchX 1 s).1 }) else A (fetchX 1 s).1 { (fetchX 1 s).2 with cd := cdF (fetchX 1 s).1 }
theorem Xk.code {W0 w : World} {B b : Nat} {s : Xs} (h : Xk W0 B b s w) (c1 : Nat) (c2 : ByteArray) (c3 c4 c5 : Nat) : Xk W0 B b { s with cd := (c1, c2, c3, c4, c5) } (((((w.setCell ⟨b, 13, none⟩ (.int .u8 (c1 : Nat))).setCell ⟨b, 14, none⟩ (.string c2)).setCell ⟨b, 15, none⟩ (.int .u8 (c3 : Nat))).setCell ⟨b, 16, none⟩ (.int .u8 (c4 : Nat))).setCell ⟨b, 17, none⟩ (.int .u8 (c5 : Nat))) := by
  have h1 := h.wr 13 (.int .u8 (c1 : Nat)) { s with cd := (c1, s.cd.2) } h.ok rfl rfl rfl (fun _ _ => rfl)
  have h2 := h1.wr 14 (.string c2) { s with cd := (c1, c2, s.cd.2.2) } h.ok rfl rfl rfl (fun _ _ => rfl)
  have h3 := h2.wr 15 (.int .u8 (c3 : Nat)) { s with cd := (c1, c2, c3, s.cd.2.2.2) } h.ok rfl rfl rfl (fun _ _ => rfl)
  have h4 := h3.wr 16 (.int .u8 (c4 : Nat)) { s with cd := (c1, c2, c3, c4, s.cd.2.2.2.2) } h.ok rfl rfl rfl (fun _ _ => rfl)
  exact h4.wr 17 (.int .u8 (c5 : Nat)) { s with cd := (c1, c2, c3, c4, c5) } h.ok rfl rfl rfl (fun _ _ => rfl)
theorem Xk.cds {W0 w : World} {B b : Nat} {s : Xs} (h : Xk W0 B b s w) : (w.cell? ⟨b, 12, none⟩ = some (.bool s.st) ∧ w.cell? ⟨b, 13, none⟩ = some (.int .u8 (s.cd.1 : Nat)) ∧ w.cell? ⟨b, 14, none⟩ = some (.string s.cd.2.1)) ∧ (w.cell? ⟨b, 15, none⟩ = some (.int .u8 (s.cd.2.2.1 : Nat)) ∧ w.cell? ⟨b, 16, none⟩ = some (.int .u8 (s.cd.2.2.2.1 : Nat)) ∧ w.cell? ⟨b, 17, none⟩ = some (.int .u8 (s.cd.2.2.2.2 : Nat)) ∧ w.cell? ⟨b, 18, none⟩ = some (.int .u8 (s.af : Nat))) := by
  obtain ⟨a, c, lv, h1, _⟩ := h.cells
  rw [h1.cell, h1.cell, h1.cell, h1.cell, h1.cell, h1.cell, h1.cell]
  exact ⟨⟨rfl, rfl, rfl⟩, ⟨rfl, rfl, rfl, rfl⟩⟩
theorem course_of (A : Nat → X Unit) (r : Rg) (a : Option Addr) (n c : Nat) (f : Nat → Nat) (w : World) (h : r.Ok) (hR : Row w a n f) (hnc : n ≤ c)
    (hA : (fetchX 1 ⟨r.settle, n, f, [], false, cd0, 0⟩).2.st = false → ∀ (V : World) (B b : Nat) (W : World), Xk V B b { (fetchX 1 ⟨r.settle, n, f, [], false, cd0, 0⟩).2 with cd := cdF (fetchX 1 ⟨r.settle, n, f, [], false, cd0, 0⟩).1 } W → (fetchX 1 ⟨r.settle, n, f, [], false, cd0, 0⟩).1 < 256 →
      ∃ k, (∀ (args : Array Value) (W : World), (callFunc k args).run Tryz.prog W = .ok (.enter k args) W) ∧ (∀ W, Calls Tryz.prog 60 #[.pointer (some ⟨b, 0, none⟩), .string (Cd.nameF (fetchX 1 ⟨r.settle, n, f, [], false, cd0, 0⟩).1)] W fun e W' => e = .returned (.func (.func k) #[.pointer (some ⟨b, 0, none⟩)] #[]) ∧ W = W') ∧
        Calls Tryz.prog k #[.pointer (some ⟨b, 0, none⟩)] W fun e W' => e = .returned (.tuple #[]) ∧ Xk V B b (A (fetchX 1 ⟨r.settle, n, f, [], false, cd0, 0⟩).1 { (fetchX 1 ⟨r.settle, n, f, [], false, cd0, 0⟩).2 with cd := cdF (fetchX 1 ⟨r.settle, n, f, [], false, cd0, 0⟩).1 }).2 W') :
    Calls Tryz.prog 16 #[r.v, .slice a n c] w fun e w' => ∃ lv, e = .returned (tnV lv (!(courseX A ⟨r.settle, n, f, [], false, cd0, 0⟩).2.st) (courseX A ⟨r.settle, n, f, [], false, cd0, 0⟩).2.tr (courseX A ⟨r.settle, n, f, [], false, cd0, 0⟩).2.ta) ∧
      w'.ownsRow w.heap.size 35 3 lv (courseX A ⟨r.settle, n, f, [], false, cd0, 0⟩).2.l.length (accX (courseX A ⟨r.settle, n, f, [], false, cd0, 0⟩).2.l) ∧ Below w.heap.size w w' := by
  have hG := (Whole.fresh w 24 (rgC r.A r.X r.Y r.S r.D r.PC r.B r.K r.P r.E)).alloc (.cells #[.slice none 0 0, .bool false, .int .u16 0, .int .u16 0, .int .u16 0, .int .u16 0, .int .u16 0, .int .u16 0, .int .u8 0, .int .u8 0, .int .u8 0, .bool false, .int .u8 0] 29)
  have hB := ((Below.refl w.heap.size w).alloc (Nat.le_refl _) (.cells (rgC r.A r.X r.Y r.S r.D r.PC r.B r.K r.P r.E) 24)).alloc (by simp) (.cells #[.slice none 0 0, .bool false, .int .u16 0, .int .u16 0, .int .u16 0, .int .u16 0, .int .u16 0, .int .u16 0, .int .u8 0, .int .u8 0, .int .u8 0, .bool false, .int .u8 0] 29)
  have hT := Whole.fresh (w.alloc (.cells (rgC r.A r.X r.Y r.S r.D r.PC r.B r.K r.P r.E) 24)) 29 #[.slice none 0 0, .bool false, .int .u16 0, .int .u16 0, .int .u16 0, .int .u16 0, .int .u16 0, .int .u16 0, .int .u8 0, .int .u8 0, .int .u8 0, .bool false, .int .u8 0]
  have hR2 := (hR.alloc (.cells (rgC r.A r.X r.Y r.S r.D r.PC r.B r.K r.P r.E) 24)).alloc (.cells #[.slice none 0 0, .bool false, .int .u16 0, .int .u16 0, .int .u16 0, .int .u16 0, .int .u16 0, .int .u16 0, .int .u8 0, .int .u8 0, .int .u8 0, .bool false, .int .u8 0] 29)
  have hsz : (w.alloc (.cells (rgC r.A r.X r.Y r.S r.D r.PC r.B r.K r.P r.E) 24)).heap.size = w.heap.size + 1 := by simp
  rw [hsz] at hT
  generalize hV : (w.alloc (.cells (rgC r.A r.X r.Y r.S r.D r.PC r.B r.K r.P r.E) 24)).alloc (.cells #[.slice none 0 0, .bool false, .int .u16 0, .int .u16 0, .int .u16 0, .int .u16 0, .int .u16 0, .int .u16 0, .int .u8 0, .int .u8 0, .int .u8 0, .bool false, .int .u8 0] 29) = V at *
  have HR := runnerOf_any r a n c f V h hR2 hnc
  generalize hs0 : (⟨r.settle, n, f, [], false, cd0, 0⟩ : Xs) = s0 at *
  have hl0 : s0.l.length ≤ 80 := by rw [← hs0]; exact Nat.zero_le _
  have HT := fun (b : Nat) (s : Xs) (W : World) (hW : Xk V V.heap.size b s W) => turn_any hW
  have g0 := hG.cell 0
  have g1 := hG.cell 1
  have g2 := hG.cell 2
  have g3 := hG.cell 3
  have g4 := hG.cell 4
  have g5 := hG.cell 5
  have g6 := hG.cell 6
  have g7 := hG.cell 7
  have g8 := hG.cell 8
  have g9 := hG.cell 9
  unfold rgC at g0 g1 g2 g3 g4 g5 g6 g7 g8 g9 hV
  simp only [List.getElem?_toArray, List.getElem?_cons_zero, List.getElem?_cons_succ] at g0 g1 g2 g3 g4 g5 g6 g7 g8 g9
  have hszT : w.heap.size ≤ w.heap.size + 1 := Nat.le_succ _
  have hVs := hB.size
  have hTlt := hT.lt
  have hlast : ∀ (s : Xs) (lv : Value) (W : World) (d : Bool) (q : Rg) (z : Nat), W.ownsRow V.heap.size 35 3 lv s.l.length (accX s.l) → Below V.heap.size V W → (Whole W (w.heap.size + 1) 29 #[.slice none 0 0, .bool false, .int .u16 0, .int .u16 0, .int .u16 0, .int .u16 0, .int .u16 0, .int .u16 0, .int .u8 0, .int .u8 0, .int .u8 0, .bool false, .int .u8 0] ∧ Hid (Whole (layT W (w.heap.size + 1) lv (.bool d) (.int .u16 (q.A : Nat)) (.int .u16 (q.X : Nat)) (.int .u16 (q.Y : Nat)) (.int .u16 (q.S : Nat)) (.int .u16 (q.D : Nat)) (.int .u16 (q.PC : Nat)) (.int .u8 (q.B : Nat)) (.int .u8 (q.K : Nat)) (.int .u8 (q.P : Nat)) (.bool q.E) (.int .u8 (z : Nat))) (w.heap.size + 1) 29 #[lv, .bool d, .int .u16 (q.A : Nat), .int .u16 (q.X : Nat), .int .u16 (q.Y : Nat), .int .u16 (q.S : Nat), .int .u16 (q.D : Nat), .int .u16 (q.PC : Nat), .int .u8 (q.B : Nat), .int .u8 (q.K : Nat), .int .u8 (q.P : Nat), .bool q.E, .int .u8 (z : Nat)] ∧ (layT W (w.heap.size + 1) lv (.bool d) (.int .u16 (q.A : Nat)) (.int .u16 (q.X : Nat)) (.int .u16 (q.Y : Nat)) (.int .u16 (q.S : Nat)) (.int .u16 (q.D : Nat)) (.int .u16 (q.PC : Nat)) (.int .u8 (q.B : Nat)) (.int .u8 (q.K : Nat)) (.int .u8 (q.P : Nat)) (.bool q.E) (.int .u8 (z : Nat))).ownsRow w.heap.size 35 3 lv s.l.length (accX s.l) ∧ Below w.heap.size w (layT W (w.heap.size + 1) lv (.bool d) (.int .u16 (q.A : Nat)) (.int .u16 (q.X : Nat)) (.int .u16 (q.Y : Nat)) (.int .u16 (q.S : Nat)) (.int .u16 (q.D : Nat)) (.int .u16 (q.PC : Nat)) (.int .u8 (q.B : Nat)) (.int .u8 (q.K : Nat)) (.int .u8 (q.P : Nat)) (.bool q.E) (.int .u8 (z : Nat))))) :=
    fun s lv W d q z ho hb => by
      have hTw := hT.below hb hTlt
      exact ⟨hTw, Lib.hid (layT_fin lv (.bool d) _ _ _ _ _ _ _ _ _ (.bool q.E) _ hTw (row_base ho hVs) (own_apart ho hTw (by decide)) (hB.trans (hb.mono hVs)) hszT)⟩
  unfold layT at hlast
  unfold Rg.v rgC
  replace HT := Lib.hid HT
  replace HR := Lib.hid HR
  unfold Rg.v rgC at HR
  replace hlast := Lib.hid hlast
  clear hG hB hT hR2 hR hsz hszT hVs hTlt hnc hs0
  unfold tnV

  have HF := fun (b : Nat) (W : World) (hW : Xk V V.heap.size b s0 W) => xfetch_any (m := 1) hW (by decide) (by omega)
  have hcx : (courseX A s0).2 = if (fetchX 1 s0).2.st then { (fetchX 1 s0).2 with cd := cdF (fetchX 1 s0).1 } else (A (fetchX 1 s0).1 { (fetchX 1 s0).2 with cd := cdF (fetchX 1 s0).1 }).2 := by
    unfold courseX
    split <;> rfl
  obtain ⟨s, hse⟩ : ∃ s, (courseX A s0).2 = s := ⟨_, rfl⟩
  rw [hse] at hcx ⊢
  generalize fetchX 1 s0 = p at *
  obtain ⟨v, s1⟩ := p
  dsimp only at *
  have HO := fun (W : World) (hv : v < 256) => Cd.of_any v W hv
  have hcd : cdF v = (v, Cd.nameF v, Cd.modeF v, Cd.useF (Cd.nameF v).toList (Cd.modeF v), Cd.widthF (Cd.nameF v).toList) := rfl
  rw [hcd] at hcx hA
  unfold Cd.codeV at HO
  generalize Cd.useF (Cd.nameF v).toList (Cd.modeF v) = c4 at *
  generalize Cd.widthF (Cd.nameF v).toList = c5 at *
  generalize Cd.modeF v = c3 at *
  generalize Cd.nameF v = c2 at *
  have hcode := Lib.hid fun (b : Nat) (W : World) (hW : Xk V V.heap.size b s1 W) => And.intro hW.cds (And.intro hW.look.2.2 (hW.code v c2 c3 c4 c5))
  have hlk := Lib.hid fun (b : Nat) (W : World) (hW : Xk V V.heap.size b { s1 with cd := (v, c2, c3, c4, c5) } W) => hW.cds
  simp only [show ((1 : Nat) : Int) = 1 from rfl] at HF
  replace HF := Lib.hid HF
  replace HO := Lib.hid HO
  replace hA := Lib.hid hA
  clear hcd hse hl0
  obtain ⟨K0, hK0⟩ : ∃ K0 : Cd5, (v, c2, c3, c4, c5) = K0 := ⟨_, rfl⟩
  generalize s1.cd.1 = d1 at *
  generalize s1.cd.2.1 = d2 at *
  generalize s1.cd.2.2.1 = d3 at *
  generalize s1.cd.2.2.2.1 = d4 at *
  generalize s1.cd.2.2.2.2 = d5 at *
  clear hK0 K0
  by_cases hst : s1.st = true
  · rw [if_pos hst] at hcx
    clear hA
    rw [← hcx] at hlk hcode
    go_enter Tryz.func16, Tryz.ntmps16
    go_upto_region 1 with (fail)
    clear hV
    go_wp2_with fail
    refine HR.out.mono ?_
    rintro e W1 ⟨b, rfl, hk0⟩
    replace hk0 := Lib.hid hk0
    clear HR
    go_wp2_with fail
    refine (HF.out _ _ hk0.out).mono ?_
    rintro e W2 ⟨rfl, h2, _, hv⟩
    have hv2 : v < 256 := by have : v < 256 ^ 1 := hv; omega
    have ev1 : (v : Int) % 256 = (v : Int) := by omega
    have ev2 : IntKind.u8.wrap (v : Int) = (v : Int) := by simp only [IntKind.wrap_u8]; omega
    have HO2 := Lib.hid fun W => HO.out W hv2
    replace h2 := Lib.hid h2
    replace hv2 := Lib.hid hv2
    clear HF hk0 HO hv
    go_wp2_with fail
    refine (HO2.out _).mono ?_
    rintro e W3 ⟨rfl, hb3⟩
    obtain ⟨⟨⟨m12, m13, m14⟩, m15, m16, m17, m18⟩, hfr, hk⟩ := hcode.out _ _ (h2.out.below hb3)
    have fr13 := hfr 13
    have fr14 := hfr 14
    have fr15 := hfr 15
    have fr16 := hfr 16
    have fr17 := hfr 17
    clear hfr hcode h2 hb3 HO2 m12 m18
    go_upto_region 3 with (fail)
    generalize ((((W3.setCell ⟨b, 13, none⟩ (.int .u8 (v : Nat))).setCell ⟨b, 14, none⟩ (.string c2)).setCell ⟨b, 15, none⟩ (.int .u8 (c3 : Nat))).setCell ⟨b, 16, none⟩ (.int .u8 (c4 : Nat))).setCell ⟨b, 17, none⟩ (.int .u8 (c5 : Nat)) = W4 at *
    clear m13 m14 m15 m16 m17 fr13 fr14 fr15 fr16 fr17
    obtain ⟨⟨c12, c13, c14⟩, _⟩ := hlk.out _ _ hk
    replace hk := Lib.hid hk
    have c12' : W4.cell? ⟨b, 12, none⟩ = some (.bool true) := by rw [c12, hcx]; exact congrArg some (congrArg Value.bool hst)
    clear hcx hlk hst c12 c13 c14
    go_wp2_with fail
    refine (HT.out _ _ _ hk.out).mono ?_
    rintro e W5 ⟨lv, rfl, ho, hb⟩
    obtain ⟨la, lc, rfl⟩ := row_slice ho

    obtain ⟨hTc, hfn⟩ := hlast.out s _ W5 (!s.st) s.tr s.ta ho hb
    have t0 := hTc.cell 0
    have f0 := hTc.free 0
    have t1 := hTc.cell 1
    have f1 := hTc.free 1
    have t2 := hTc.cell 2
    have f2 := hTc.free 2
    have t3 := hTc.cell 3
    have f3 := hTc.free 3
    have t4 := hTc.cell 4
    have f4 := hTc.free 4
    have t5 := hTc.cell 5
    have f5 := hTc.free 5
    have t6 := hTc.cell 6
    have f6 := hTc.free 6
    have t7 := hTc.cell 7
    have f7 := hTc.free 7
    have t8 := hTc.cell 8
    have f8 := hTc.free 8
    have t9 := hTc.cell 9
    have f9 := hTc.free 9
    have t10 := hTc.cell 10
    have f10 := hTc.free 10
    have t11 := hTc.cell 11
    have f11 := hTc.free 11
    have t12 := hTc.cell 12
    have f12 := hTc.free 12
    simp only [List.getElem?_toArray, List.getElem?_cons_zero, List.getElem?_cons_succ] at t0 t1 t2 t3 t4 t5 t6 t7 t8 t9 t10 t11 t12
    clear HT hk hTc ho hb hlast g0 g1 g2 g3 g4 g5 g6 g7 g8 g9
    unfold tnV
    go_wp2_with fail
    exact bodyPost_ret (results_cell_row (fn := Tryz.f16) (p := 4) (ty := 29) rfl _ _ _ _ _ (0, 0) _ rfl hfn.out.1 Tryz.underlying29 rfl (by kernel_rfl)) rfl ⟨_, rfl, hfn.out.2⟩
  · rw [if_neg hst] at hcx
    replace hst : s1.st = false := by simpa using hst
    go_enter Tryz.func16, Tryz.ntmps16
    go_upto_region 1 with (fail)
    clear hV
    go_wp2_with fail
    refine HR.out.mono ?_
    rintro e W1 ⟨b, rfl, hk0⟩
    replace hk0 := Lib.hid hk0
    clear HR
    go_wp2_with fail
    refine (HF.out _ _ hk0.out).mono ?_
    rintro e W2 ⟨rfl, h2, _, hv⟩
    have hv2 : v < 256 := by have : v < 256 ^ 1 := hv; omega
    have ev1 : (v : Int) % 256 = (v : Int) := by omega
    have ev2 : IntKind.u8.wrap (v : Int) = (v : Int) := by simp only [IntKind.wrap_u8]; omega
    have HO2 := Lib.hid fun W => HO.out W hv2
    replace h2 := Lib.hid h2
    replace hv2 := Lib.hid hv2
    clear HF hk0 HO hv
    go_wp2_with fail
    refine (HO2.out _).mono ?_
    rintro e W3 ⟨rfl, hb3⟩
    obtain ⟨⟨⟨m12, m13, m14⟩, m15, m16, m17, m18⟩, hfr, hk⟩ := hcode.out _ _ (h2.out.below hb3)
    have fr13 := hfr 13
    have fr14 := hfr 14
    have fr15 := hfr 15
    have fr16 := hfr 16
    have fr17 := hfr 17
    clear hfr hcode h2 hb3 HO2 m12 m18
    go_upto_region 3 with (fail)
    generalize ((((W3.setCell ⟨b, 13, none⟩ (.int .u8 (v : Nat))).setCell ⟨b, 14, none⟩ (.string c2)).setCell ⟨b, 15, none⟩ (.int .u8 (c3 : Nat))).setCell ⟨b, 16, none⟩ (.int .u8 (c4 : Nat))).setCell ⟨b, 17, none⟩ (.int .u8 (c5 : Nat)) = W4 at *
    clear m13 m14 m15 m16 m17 fr13 fr14 fr15 fr16 fr17
    obtain ⟨⟨c12, c13, c14⟩, _⟩ := hlk.out _ _ hk
    rw [hst] at c12
    obtain ⟨k, hen, hact, hrun⟩ := hA.out hst _ _ _ _ hk hv2.out
    rw [← hcx] at hrun
    replace hact := Lib.hid hact
    replace hrun := Lib.hid hrun
    clear hA hcx hlk hst hk hv2 c13
    go_wp2_with fail
    refine (hact.out _).mono ?_
    rintro e W ⟨rfl, rfl⟩
    go_wp2_with fail
    refine hrun.out.mono ?_
    rintro e W5 ⟨rfl, hk⟩
    replace hk := Lib.hid hk
    clear hact hrun c12 c14
    go_wp2_with fail
    refine (HT.out _ _ _ hk.out).mono ?_
    rintro e W6 ⟨lv, rfl, ho, hb⟩
    obtain ⟨la, lc, rfl⟩ := row_slice ho

    obtain ⟨hTc, hfn⟩ := hlast.out s _ W6 (!s.st) s.tr s.ta ho hb
    have t0 := hTc.cell 0
    have f0 := hTc.free 0
    have t1 := hTc.cell 1
    have f1 := hTc.free 1
    have t2 := hTc.cell 2
    have f2 := hTc.free 2
    have t3 := hTc.cell 3
    have f3 := hTc.free 3
    have t4 := hTc.cell 4
    have f4 := hTc.free 4
    have t5 := hTc.cell 5
    have f5 := hTc.free 5
    have t6 := hTc.cell 6
    have f6 := hTc.free 6
    have t7 := hTc.cell 7
    have f7 := hTc.free 7
    have t8 := hTc.cell 8
    have f8 := hTc.free 8
    have t9 := hTc.cell 9
    have f9 := hTc.free 9
    have t10 := hTc.cell 10
    have f10 := hTc.free 10
    have t11 := hTc.cell 11
    have f11 := hTc.free 11
    have t12 := hTc.cell 12
    have f12 := hTc.free 12
    simp only [List.getElem?_toArray, List.getElem?_cons_zero, List.getElem?_cons_succ] at t0 t1 t2 t3 t4 t5 t6 t7 t8 t9 t10 t11 t12
    clear HT hk hTc ho hb hlast g0 g1 g2 g3 g4 g5 g6 g7 g8 g9
    unfold tnV
    go_wp2_with fail
    exact bodyPost_ret (results_cell_row (fn := Tryz.f16) (p := 4) (ty := 29) rfl _ _ _ _ _ (0, 0) _ rfl hfn.out.1 Tryz.underlying29 rfl (by kernel_rfl)) rfl ⟨_, rfl, hfn.out.2⟩
end Go.Proofs.YtnacdaodjgdnnaaGreat
namespace Go.Proofs.YtnacdaodjgdnnaaGreat
open Go.RowKit Go.Shelf
set_option maxRecDepth 100000
set_option maxHeartbeats 1000000
set_option linter.unusedVariables false

def ldaN : ByteArray := ⟨#[76, 68, 65]⟩
theorem lda_name : Cd.nameF 169 = ldaN := by
  rw [Cd.nameF_list, show Cd.nameL 169 = [76, 68, 65] from by decide +kernel]
  rfl
theorem lda_mode : Cd.modeF 169 = 2 := by decide +kernel
theorem lda_register (w : World) : Calls Tryz.prog 180 #[.string ldaN] w fun e w' => e = .returned (.int .u8 ((65 : Nat) : Nat)) ∧ w = w' := by
  unfold ldaN
  go_enter Tryz.func180, Tryz.ntmps180
  go_wp2_with fail
  go_ret
  exact ⟨rfl, rfl⟩
theorem lda_operation (w : World) : Calls Tryz.prog 181 #[.string ldaN] w fun e w' => e = .returned (.int .u8 ((7 : Nat) : Nat)) ∧ w = w' := by
  unfold ldaN
  go_enter Tryz.func181, Tryz.ntmps181
  go_wp2_with fail
  go_ret
  exact ⟨rfl, rfl⟩
theorem lda_act (b : Nat) (w : World) : Calls Tryz.prog 60 #[.pointer (some ⟨b, 0, none⟩), .string ldaN] w fun e w' => e = .returned (.func (.func 112) #[.pointer (some ⟨b, 0, none⟩)] #[]) ∧ w = w' := by
  unfold ldaN
  go_enter Tryz.func60, Tryz.ntmps60
  go_wp2_with fail
  go_ret
  exact ⟨rfl, rfl⟩
end Go.Proofs.YtnacdaodjgdnnaaGreat
namespace Go.Proofs.YtnacdaodjgdnnaaGreat
open Go.RowKit Go.Shelf
set_option maxRecDepth 100000
set_option maxHeartbeats 1000000
set_option linter.unusedVariables false

def row3 (x y z : Nat) : Nat → Nat := fun i => if i = 0 then x else if i = 1 then y else z
theorem row_any8 (x y z : Nat) (w : World) (hx : x < 256) (hy : y < 256) (hz : z < 256) : Calls Tryz.prog 68 #[.int .u8 (x : Nat), .int .u8 (y : Nat), .int .u8 (z : Nat)] w fun e w' => ∃ G, e = .returned (.slice (some ⟨G, 0, none⟩) 3 3) ∧ Row w' (some ⟨G, 0, none⟩) 3 (row3 x y z) ∧ Below w.heap.size w w' := by
  have hmk : ∀ w : World, (Instr.makeSlice 25 (.int .i64 3) (.int .i64 3)).run Tryz.prog w = .ok (.slice (some ⟨w.heap.size, 0, none⟩) 3 3) (w.alloc (.cells #[.int .u8 0, .int .u8 0, .int .u8 0] 5)) := fun _ => by kernel_rfl
  have hX := Whole.fresh w 5 #[.int .u8 0, .int .u8 0, .int .u8 0]
  have hB := (((((Below.refl w.heap.size w).alloc (Nat.le_refl _) (.cells #[.int .u8 0, .int .u8 0, .int .u8 0] 5)).setCell (p := ⟨w.heap.size, 0, none⟩) (Nat.le_refl _) (.int .u8 (x : Nat))).setCell (p := ⟨w.heap.size, 1, none⟩) (Nat.le_refl _) (.int .u8 (y : Nat))).setCell (p := ⟨w.heap.size, 2, none⟩) (Nat.le_refl _) (.int .u8 (z : Nat)))
  have h3 := ((hX.put 0 (.int .u8 (x : Nat))).put 1 (.int .u8 (y : Nat))).put 2 (.int .u8 (z : Nat))
  simp only [List.setIfInBounds_toArray, List.set_cons_zero, List.set_cons_succ] at h3
  have hR : Row _ (some ⟨w.heap.size, 0, none⟩) 3 (row3 x y z) := ⟨fun i _ => by unfold row3; (repeat' split) <;> assumption, .inr ⟨w.heap.size, 0, rfl, h3.lt, fun i hi => by
    rcases (show i = 0 ∨ i = 1 ∨ i = 2 by omega) with rfl | rfl | rfl
    · exact h3.cell 0
    · exact h3.cell 1
    · exact h3.cell 2⟩⟩
  replace hR := Lib.hid hR
  replace hB := Lib.hid hB
  have x0 := hX.cell 0
  have x1 := hX.cell 1
  have x2 := hX.cell 2
  have f0 := hX.free 0
  have f1 := hX.free 1
  have f2 := hX.free 2
  simp only [List.getElem?_toArray, List.getElem?_cons_zero, List.getElem?_cons_succ] at x0 x1 x2
  clear hX h3
  obtain ⟨V, hV⟩ : ∃ V, w.alloc (.cells #[.int .u8 0, .int .u8 0, .int .u8 0] 5) = V := ⟨_, rfl⟩
  rw [hV] at x0 x1 x2 f0 f1 f2 hR hB
  obtain ⟨G, hG⟩ : ∃ G, w.heap.size = G := ⟨_, rfl⟩
  go_enter Tryz.func68, Tryz.ntmps68
  go_upto_region 2 with (fail)
  rw [hG] at x0 x1 x2 f0 f1 f2 hR hB
  clear hmk hV
  replace hG := Lib.hid hG
  go_wp2_with fail
  go_ret
  exact ⟨G, rfl, hR.out, by rw [hG.out]; exact hB.out⟩
def awR : Rg := ⟨0, 0, 0, 0, 0, 32768, 0, 128, 0, false⟩
theorem awR_ok : awR.Ok := ⟨by decide, by decide, by decide, by decide, by decide, by decide, by decide, by decide, by decide⟩
def awA : Nat → X Unit := fun _ => takeImmX 65 7
def awS : Xs := (courseX awA ⟨awR.settle, 3, row3 169 52 18, [], false, cd0, 0⟩).2
def awS' : Xs := (takeImmX 65 7 { (fetchX 1 ⟨awR.settle, 3, row3 169 52 18, [], false, cd0, 0⟩).2 with cd := cdF 169 }).2
theorem aw_fetch : (fetchX 1 ⟨awR.settle, 3, row3 169 52 18, [], false, cd0, 0⟩).1 = 169 ∧ (fetchX 1 ⟨awR.settle, 3, row3 169 52 18, [], false, cd0, 0⟩).2.st = false ∧ (fetchX 1 ⟨awR.settle, 3, row3 169 52 18, [], false, cd0, 0⟩).2.l.length = 1 := by decide +kernel
theorem aw_is : awS = awS' := by
  obtain ⟨h1, h2, _⟩ := aw_fetch
  unfold awS courseX awA
  dsimp only
  rw [h2, h1]
  rfl
theorem aw_l : awS.l = [(1, 8421376, 0), (1, 8421377, 0), (1, 8421378, 0)] := by
  rw [aw_is]
  decide +kernel
theorem aw_st : awS.st = false := by
  rw [aw_is]
  decide +kernel
theorem aw_ta : awS.ta = 0 := by
  unfold Xs.ta
  rw [aw_st, aw_is]
  decide +kernel
theorem aw_tr : (awS.tr.A = 4660 ∧ awS.tr.X = 0 ∧ awS.tr.Y = 0 ∧ awS.tr.S = 0 ∧ awS.tr.D = 0) ∧ (awS.tr.PC = 32771 ∧ awS.tr.B = 0 ∧ awS.tr.K = 128 ∧ awS.tr.P = 0 ∧ awS.tr.E = false) := by
  unfold Xs.tr
  rw [aw_st, aw_is]
  decide +kernel
theorem aw_course (w : World) (a : Option Addr) (hR : Row w a 3 (row3 169 52 18)) :
    Calls Tryz.prog 16 #[.agg #[.int .u16 0, .int .u16 0, .int .u16 0, .int .u16 0, .int .u16 0, .int .u16 32768, .int .u8 0, .int .u8 128, .int .u8 0, .bool false], .slice a 3 3] w fun e w' => ∃ g cap, e = .returned (.agg #[.slice (some ⟨g, 0, none⟩) 3 cap, .bool true, .int .u16 4660, .int .u16 0, .int .u16 0, .int .u16 0, .int .u16 0, .int .u16 32771, .int .u8 0, .int .u8 128, .int .u8 0, .bool false, .int .u8 0]) ∧
      (w'.cell? ⟨g, 6, none⟩ = some (.int .u8 1) ∧ w'.cell? ⟨g, 7, none⟩ = some (.int .u32 8421378) ∧ w'.cell? ⟨g, 8, none⟩ = some (.int .u8 0)) ∧ g < w'.heap.size ∧ Below w.heap.size w w' := by
  have hv := aw_fetch
  refine (course_of awA awR a 3 3 (row3 169 52 18) w awR_ok hR (Nat.le_refl _) ?_).mono ?_
  · intro hst V B b W hX hlt
    obtain ⟨h1, h2, h3⟩ := hv
    refine ⟨112, enters_of Tryz.func112 (by kernel_rfl) rfl, fun W' => ?_, ?_⟩
    · rw [h1, lda_name]
      exact lda_act b W'
    · rw [h1] at hX ⊢
      refine (take_imm (L := 65) (op := 7) hX (by show (fetchX 1 _).2.l.length ≤ 90; rw [h3]; decide) (by decide) (by decide) lda_mode ?_ ?_).mono fun e W' ⟨e1, e2, _⟩ => ⟨e1, e2⟩
      · intro W'
        show Calls Tryz.prog 180 #[.string (Cd.nameF 169)] W' _
        rw [lda_name]
        exact lda_register W'
      · intro W'
        show Calls Tryz.prog 181 #[.string (Cd.nameF 169)] W' _
        rw [lda_name]
        exact lda_operation W'
  · rintro e w' ⟨lv, rfl, ho, hb⟩
    have e0 : (courseX awA ⟨awR.settle, 3, row3 169 52 18, [], false, cd0, 0⟩).2 = awS := rfl
    rw [e0] at ho ⊢
    rw [aw_l] at ho
    obtain ⟨g, cap, rfl, hg, hgl⟩ := ho.form (by decide)
    have hcell := ho.cells (g := g) rfl
    obtain ⟨⟨t0, t1, t2, t3, t4⟩, t5, t6, t7, t8, t9⟩ := aw_tr
    refine ⟨g, cap, ?_, ⟨hcell 6 _ rfl, hcell 7 _ rfl, hcell 8 _ rfl⟩, hgl, hb⟩
    unfold tnV
    rw [aw_st, aw_ta, t0, t1, t2, t3, t4, t5, t6, t7, t8, t9]
    rfl
theorem awake8 (w : World) : Calls Tryz.prog 20 #[] w fun e w' => e = .returned (.bool true) ∧ Below w.heap.size w w' := by
  have HR := Lib.hid (row_any8 169 52 18 w (by decide) (by decide) (by decide))
  have HC := Lib.hid (fun a W hR => aw_course W a hR)
  simp only [show ((169 : Nat) : Int) = 169 from rfl, show ((52 : Nat) : Int) = 52 from rfl, show ((18 : Nat) : Int) = 18 from rfl] at HR
  go_enter Tryz.func20, Tryz.ntmps20
  go_wp2_with fail
  refine HR.out.mono ?_
  rintro e W0 ⟨G, rfl, hR, hB0⟩
  have HC1 := Lib.hid (HC.out _ _ hR)
  clear HR HC hR
  go_wp2_with fail
  refine HC1.out.mono ?_
  rintro e W1 ⟨g, cap, rfl, ⟨c0, c1, c2⟩, hgl, hb⟩
  have hB1 := hB0.trans (hb.mono hB0.size)
  clear hB0 hb HC1
  have hT := Whole.fresh W1 29 #[.slice none 0 0, .bool false, .int .u16 0, .int .u16 0, .int .u16 0, .int .u16 0, .int .u16 0, .int .u16 0, .int .u8 0, .int .u8 0, .int .u8 0, .bool false, .int .u8 0]
  have hB2 := hB1.alloc hB1.size (.cells #[.slice none 0 0, .bool false, .int .u16 0, .int .u16 0, .int .u16 0, .int .u16 0, .int .u16 0, .int .u16 0, .int .u8 0, .int .u8 0, .int .u8 0, .bool false, .int .u8 0] 29)
  have d0 := (World.cell?_alloc_lt W1 (.cells #[.slice none 0 0, .bool false, .int .u16 0, .int .u16 0, .int .u16 0, .int .u16 0, .int .u16 0, .int .u16 0, .int .u8 0, .int .u8 0, .int .u8 0, .bool false, .int .u8 0] 29) ⟨g, 6, none⟩ hgl).trans c0
  have d1 := (World.cell?_alloc_lt W1 (.cells #[.slice none 0 0, .bool false, .int .u16 0, .int .u16 0, .int .u16 0, .int .u16 0, .int .u16 0, .int .u16 0, .int .u8 0, .int .u8 0, .int .u8 0, .bool false, .int .u8 0] 29) ⟨g, 7, none⟩ hgl).trans c1
  have d2 := (World.cell?_alloc_lt W1 (.cells #[.slice none 0 0, .bool false, .int .u16 0, .int .u16 0, .int .u16 0, .int .u16 0, .int .u16 0, .int .u16 0, .int .u8 0, .int .u8 0, .int .u8 0, .bool false, .int .u8 0] 29) ⟨g, 8, none⟩ hgl).trans c2
  have hle := hB1.size
  obtain ⟨T, hTe⟩ : ∃ T, W1.heap.size = T := ⟨_, rfl⟩
  rw [hTe] at hT hgl hle
  obtain ⟨V1, hV1⟩ : ∃ V1, W1.alloc (.cells #[.slice none 0 0, .bool false, .int .u16 0, .int .u16 0, .int .u16 0, .int .u16 0, .int .u16 0, .int .u16 0, .int .u8 0, .int .u8 0, .int .u8 0, .bool false, .int .u8 0] 29) = V1 := ⟨_, rfl⟩
  rw [hV1] at hT hB2 d0 d1 d2
  have hgT : g ≠ T := by omega
  obtain ⟨q, _, qb⟩ := layT_fin (lv := .slice none 0 0) (n := 0) (xs := []) (.slice (some ⟨g, 0, none⟩) 3 cap) (.bool true) (.int .u16 4660) (.int .u16 0) (.int .u16 0) (.int .u16 0) (.int .u16 0) (.int .u16 32771) (.int .u8 0) (.int .u8 128) (.int .u8 0) (.bool false) (.int .u8 0) hT (World.ownsRow_nil V1 w.heap.size 35 3) (by simp [Value.ownBlock]) hB2 hle
  have e0 := (layT_cell V1 T g 6 (.slice (some ⟨g, 0, none⟩) 3 cap) (.bool true) (.int .u16 4660) (.int .u16 0) (.int .u16 0) (.int .u16 0) (.int .u16 0) (.int .u16 32771) (.int .u8 0) (.int .u8 128) (.int .u8 0) (.bool false) (.int .u8 0) hgT).trans d0
  have e1 := (layT_cell V1 T g 7 (.slice (some ⟨g, 0, none⟩) 3 cap) (.bool true) (.int .u16 4660) (.int .u16 0) (.int .u16 0) (.int .u16 0) (.int .u16 0) (.int .u16 32771) (.int .u8 0) (.int .u8 128) (.int .u8 0) (.bool false) (.int .u8 0) hgT).trans d1
  have e2 := (layT_cell V1 T g 8 (.slice (some ⟨g, 0, none⟩) 3 cap) (.bool true) (.int .u16 4660) (.int .u16 0) (.int .u16 0) (.int .u16 0) (.int .u16 0) (.int .u16 32771) (.int .u8 0) (.int .u8 128) (.int .u8 0) (.bool false) (.int .u8 0) hgT).trans d2
  unfold layT at q qb e0 e1 e2
  have t0 := hT.cell 0
  have f0 := hT.free 0
  have t1 := hT.cell 1
  have f1 := hT.free 1
  have t2 := hT.cell 2
  have f2 := hT.free 2
  have t3 := hT.cell 3
  have f3 := hT.free 3
  have t4 := hT.cell 4
  have f4 := hT.free 4
  have t5 := hT.cell 5
  have f5 := hT.free 5
  have t6 := hT.cell 6
  have f6 := hT.free 6
  have t7 := hT.cell 7
  have f7 := hT.free 7
  have t8 := hT.cell 8
  have f8 := hT.free 8
  have t9 := hT.cell 9
  have f9 := hT.free 9
  have t10 := hT.cell 10
  have f10 := hT.free 10
  have t11 := hT.cell 11
  have f11 := hT.free 11
  have t12 := hT.cell 12
  have f12 := hT.free 12
  simp only [List.getElem?_toArray, List.getElem?_cons_zero, List.getElem?_cons_succ] at t0 t1 t2 t3 t4 t5 t6 t7 t8 t9 t10 t11 t12
  clear c0 c1 c2 d0 d1 d2 hB1 hB2 hle hgT hgl hT
  go_upto_region 2 with (fail)
  generalize ((((((((((((V1.setCell ⟨T, 0, none⟩ (.slice (some ⟨g, 0, none⟩) 3 cap)).setCell ⟨T, 1, none⟩ (.bool true)).setCell ⟨T, 2, none⟩ (.int .u16 4660)).setCell ⟨T, 3, none⟩ (.int .u16 0)).setCell ⟨T, 4, none⟩ (.int .u16 0)).setCell ⟨T, 5, none⟩ (.int .u16 0)).setCell ⟨T, 6, none⟩ (.int .u16 0)).setCell ⟨T, 7, none⟩ (.int .u16 32771)).setCell ⟨T, 8, none⟩ (.int .u8 0)).setCell ⟨T, 9, none⟩ (.int .u8 128)).setCell ⟨T, 10, none⟩ (.int .u8 0)).setCell ⟨T, 11, none⟩ (.bool false)).setCell ⟨T, 12, none⟩ (.int .u8 0) = W2 at *
  have q0 := q.cell 0
  have q1 := q.cell 1
  have q2 := q.cell 2
  have q3 := q.cell 3
  have q4 := q.cell 4
  have q5 := q.cell 5
  have q6 := q.cell 6
  have q7 := q.cell 7
  have q8 := q.cell 8
  have q9 := q.cell 9
  have q10 := q.cell 10
  have q11 := q.cell 11
  have q12 := q.cell 12
  simp only [List.getElem?_toArray, List.getElem?_cons_zero, List.getElem?_cons_succ] at q0 q1 q2 q3 q4 q5 q6 q7 q8 q9 q10 q11 q12
  clear q hV1 hTe t0 f0 t1 f1 t2 f2 t3 f3 t4 f4 t5 f5 t6 f6 t7 f7 t8 f8 t9 f9 t10 f10 t11 f11 t12 f12
  replace qb := Lib.hid qb
  go_wp2_with fail
  go_ret
  exact ⟨rfl, qb.out⟩
end Go.Proofs.YtnacdaodjgdnnaaGreat
