/-
  Course, by the code.
-/
import Derived.Test.YtkbieadebfpjdaaOpD
import Derived.RegionTactic
namespace Go.Proofs.Ytkbieadebfpjdaa
open Go.RowKit Go.Shelf
set_option maxRecDepth 100000
set_option maxHeartbeats 1000000
set_option linter.unusedVariables false

/-- A code's value. -/
def codeV (cd : Nat) (nm : ByteArray) (m u wd : Nat) : Value := .agg #[.int .u8 cd, .string nm, .int .u8 m, .int .u8 u, .int .u8 wd]
/-- A course: what its walk comes to. -/
def courseM (m u : Nat) (r : Rg) (n : Nat) (f : Nat → Nat) : (Nat × Bool) × Ws := operandM m u ⟨r.settle, n, f, [], false⟩
def placeOf (p : (Nat × Bool) × Ws) : Nat × Bool := if p.2.st then (0, false) else p.1
def pcOf (p : (Nat × Bool) × Ws) : Nat := if p.2.st then 0 else p.2.r.PC
theorem course_any (cd : Nat) (nm : ByteArray) (m u wd : Nat) (r : Rg) (a : Option Addr) (n c : Nat) (f : Nat → Nat) (w : World) (hm : m < 256) (hu : u < 256) (hr : r.Ok) (hR : Row w a n f) (hnc : n ≤ c) :
    Calls Try.prog 12 #[codeV cd nm m u wd, r.v, .slice a n c] w fun e w' => ∃ lv, e = .returned (.tuple #[lv, plV (placeOf (courseM m u r n f)).1 (placeOf (courseM m u r n f)).2, .int .u16 (pcOf (courseM m u r n f) : Nat), .bool (!(courseM m u r n f).2.st)]) ∧
      w'.ownsRow w.heap.size 42 3 lv (courseM m u r n f).2.l.length (accV (courseM m u r n f).2.l) ∧ Below w.heap.size w w' := by
  have HS := fun W => settle_any r W hr
  have HO := fun b W (hW : Wk w w.heap.size b ⟨r.settle, n, f, [], false⟩ W) => operand_any (m := m) (u := u) hW (by show 0 ≤ 90; decide) hm hu
  have hC := ((Whole.fresh w 34 #[.int .u8 cd, .string nm, .int .u8 m, .int .u8 u, .int .u8 wd]).alloc (.cells (rgC r.A r.X r.Y r.S r.D r.PC r.B r.K r.P r.E) 24)).alloc (.cells #[.int .u32 0, .bool false] 27)
  have hG := (Whole.fresh (w.alloc (.cells #[.int .u8 cd, .string nm, .int .u8 m, .int .u8 u, .int .u8 wd] 34)) 24 (rgC r.A r.X r.Y r.S r.D r.PC r.B r.K r.P r.E)).alloc (.cells #[.int .u32 0, .bool false] 27)
  have hP := Whole.fresh ((w.alloc (.cells #[.int .u8 cd, .string nm, .int .u8 m, .int .u8 u, .int .u8 wd] 34)).alloc (.cells (rgC r.A r.X r.Y r.S r.D r.PC r.B r.K r.P r.E) 24)) 27 #[.int .u32 0, .bool false]
  have hB := (((Below.refl w.heap.size w).alloc (Nat.le_refl _) (.cells #[.int .u8 cd, .string nm, .int .u8 m, .int .u8 u, .int .u8 wd] 34)).alloc (by simp) (.cells (rgC r.A r.X r.Y r.S r.D r.PC r.B r.K r.P r.E) 24)).alloc (by simp; omega) (.cells #[.int .u32 0, .bool false] 27)
  rw [World.size_alloc] at hG hP
  rw [World.size_alloc] at hP
  have hok := hr.settle
  rw [show operandM m u ⟨r.settle, n, f, [], false⟩ = courseM m u r n f from rfl] at HO
  generalize courseM m u r n f = p at *
  obtain ⟨⟨pa, pb⟩, s'⟩ := p
  unfold codeV Rg.v at *
  unfold rgC at *
  have g0 := hG.cell 0
  have g1 := hG.cell 1
  have g2 := hG.cell 2
  have g3 := hG.cell 3
  have g4 := hG.cell 4
  have g5 := hG.cell 5
  have g6 := hG.cell 6
  have g7 := hG.cell 7
  have g8 := hG.cell 8
  have g9 := hG.cell 9
  simp only [List.getElem?_toArray, List.getElem?_cons_zero, List.getElem?_cons_succ] at g0 g1 g2 g3 g4 g5 g6 g7 g8 g9
  replace HS := Lib.hid HS
  replace HO := Lib.hid HO
  have hRh := Lib.hid (And.intro hR hnc)
  clear hR hnc hG
  go_enter Try.func12, Try.ntmps12
  go_upto_region 1 with (fail)
  generalize ((w.alloc (.cells #[.int .u8 cd, .string nm, .int .u8 m, .int .u8 u, .int .u8 wd] 34)).alloc (.cells #[.int .u16 r.A, .int .u16 r.X, .int .u16 r.Y, .int .u16 r.S, .int .u16 r.D, .int .u16 r.PC, .int .u8 r.B, .int .u8 r.K, .int .u8 r.P, .bool r.E] 24)).alloc (.cells #[.int .u32 0, .bool false] 27) = W1 at *
  go_wp2_with fail
  refine (HS.out _).mono ?_
  rintro e W2 ⟨rfl, hb2⟩
  have hC2 := hC.below hb2 hC.lt
  have hP2 := hP.below hb2 hP.lt
  have hPl := hP.lt
  have hB2 := hB.trans (hb2.mono hB.size)
  have hl2 := hb2.size
  clear HS g0 g1 g2 g3 g4 g5 g6 g7 g8 g9 hC hP hB hb2
  go_upto_region 2 with (fail)
  have hWk : Wk w w.heap.size W2.heap.size ⟨r.settle, n, f, [], false⟩ (W2.alloc (.cells (wkC r.settle (.slice a n c) (.slice none 0 0) false) 50)) :=
    ⟨hok, ⟨a, c, _, Whole.fresh W2 _ _, hRh.out.2, hRh.out.1, World.ownsRow_nil _ _ _ _⟩, hB2.size, hB2.alloc hB2.size _, rfl⟩
  have hC3 := hC2.alloc (.cells (wkC r.settle (.slice a n c) (.slice none 0 0) false) 50)
  have hP3 := hP2.alloc (.cells (wkC r.settle (.slice a n c) (.slice none 0 0) false) 50)
  have hPb : w.heap.size + 1 + 1 ≠ W2.heap.size := by omega
  have hPB := Lib.hid (show w.heap.size ≤ w.heap.size + 1 + 1 by omega)
  clear hC2 hP2 hB2 hl2 hPl
  unfold wkC at hWk hC3 hP3
  generalize hb : W2.heap.size = b at *
  clear hb
  generalize W2.alloc (.cells #[.int .u16 r.settle.A, .int .u16 r.settle.X, .int .u16 r.settle.Y, .int .u16 r.settle.S, .int .u16 r.settle.D, .int .u16 r.settle.PC, .int .u8 r.settle.B, .int .u8 r.settle.K, .int .u8 r.settle.P, .bool r.settle.E, .slice a n c, .slice none 0 0, .bool false] 50) = W3 at *
  have d2 := hC3.cell 2
  have d3 := hC3.cell 3
  simp only [List.getElem?_toArray, List.getElem?_cons_zero, List.getElem?_cons_succ] at d2 d3
  generalize hXp : w.heap.size + 1 + 1 = XP at *
  replace hXp := Lib.hid hXp
  clear hC3 hok hr hm hu hRh
  go_wp2_with fail
  refine (HO.out _ _ hWk).mono ?_
  rintro e W4 ⟨rfl, hW4, hK4⟩
  have hP4 := hK4 _ _ _ hPb (by decide) hP3
  have hW5 := hW4.alloc (.cells #[.int .u32 pa, .bool pb] 27)
  have hP5 := hP4.alloc (.cells #[.int .u32 pa, .bool pb] 27)
  have hQ5 := Whole.fresh W4 27 #[.int .u32 pa, .bool pb]
  have hne5 : XP ≠ W4.heap.size := by have := hP4.lt; omega
  unfold plV
  clear HO hWk hP3 hK4 hW4 hP4 d2 d3
  go_upto_region 3 with (fail)
  generalize W4.alloc (.cells #[.int .u32 pa, .bool pb] 27) = W5 at *
  generalize W4.heap.size = Q at *
  obtain ⟨sa, sc, lv, hc, _, _, ho⟩ := hW5.cells
  have c5 := hc.cell 5
  have c11 := hc.cell 11
  have c12 := hc.cell 12
  have q0 := hQ5.cell 0
  have q1 := hQ5.cell 1
  have x0 := hP5.cell 0
  have x1 := hP5.cell 1
  have f0 := hP5.free 0
  have f1 := hP5.free 1
  unfold wkC at c5 c11 c12
  simp only [List.getElem?_toArray, List.getElem?_cons_zero, List.getElem?_cons_succ] at c5 c11 c12 q0 q1 x0 x1
  have hfin : ∀ (W : World), W = W5 ∨ W = W5.drew → ∀ (v : Nat) (bk : Bool), Whole ((W.setCell ⟨XP, 0, none⟩ (.int .u32 v)).setCell ⟨XP, 1, none⟩ (.bool bk)) XP 27 #[.int .u32 v, .bool bk] ∧
      ((W.setCell ⟨XP, 0, none⟩ (.int .u32 v)).setCell ⟨XP, 1, none⟩ (.bool bk)).ownsRow w.heap.size 42 3 lv s'.l.length (accV s'.l) ∧ Below w.heap.size w ((W.setCell ⟨XP, 0, none⟩ (.int .u32 v)).setCell ⟨XP, 1, none⟩ (.bool bk)) := fun W hW v bk => by
    have hPw : Whole W XP 27 #[.int .u32 0, .bool false] := by rcases hW with rfl | rfl; exact hP5; exact hP5.drew
    have how : W.ownsRow w.heap.size 42 3 lv s'.l.length (accV s'.l) := by rcases hW with rfl | rfl; exact ho; exact ho.drew
    have hbw : Below w.heap.size w W := by rcases hW with rfl | rfl; exact hW5.bel; exact Below.drew hW5.bel
    have hv := own_apart how hPw (by decide)
    have hle : w.heap.size ≤ XP := by have := hXp.out; omega
    exact ⟨(hPw.put 0 (.int .u32 v)).put 1 (.bool bk), row_put (row_put how (p := ⟨XP, 0, none⟩) hv _) (p := ⟨XP, 1, none⟩) hv _, (hbw.setCell (p := ⟨XP, 0, none⟩) hle _).setCell (p := ⟨XP, 1, none⟩) hle _⟩
  obtain ⟨r2, n2, f2, l2, st⟩ := s'
  dsimp only at *
  cases st
  · have hf := hfin W5.drew (.inr rfl) pa pb
    have c5d : W5.drew.cell? ⟨b, 5, none⟩ = some (.int .u16 r2.PC) := c5
    have c11d : W5.drew.cell? ⟨b, 11, none⟩ = some lv := c11
    have q0d : W5.drew.cell? ⟨Q, 0, none⟩ = some (.int .u32 pa) := q0
    have q1d : W5.drew.cell? ⟨Q, 1, none⟩ = some (.bool pb) := q1
    replace hfin := Lib.hid hfin
    have r0 := hf.1.cell 0
    have r1 := hf.1.cell 1
    simp only [List.getElem?_toArray, List.getElem?_cons_zero, List.getElem?_cons_succ] at r0 r1
    have c5s : ((W5.drew.setCell ⟨XP, 0, none⟩ (.int .u32 pa)).setCell ⟨XP, 1, none⟩ (.bool pb)).cell? ⟨b, 5, none⟩ = some (.int .u16 r2.PC) :=
      (World.cell?_of_block ((Below.heap_setCell _ _ _ _ (show b ≠ XP from fun e => hPb e.symm)).trans (Below.heap_setCell _ _ _ _ (show b ≠ XP from fun e => hPb e.symm)))).trans c5d
    replace hf := Lib.hid hf
    clear hc ho hW5 hP5 hQ5 hfin
    go_upto_region 5 with (fail)
    go_region
    all_goals
      have hg : Whole ((W5.setCell ⟨XP, 0, none⟩ (.int .u32 pa)).setCell ⟨XP, 1, none⟩ (.bool pb)).drew XP 27 #[.int .u32 pa, .bool pb] ∧
        ((W5.setCell ⟨XP, 0, none⟩ (.int .u32 pa)).setCell ⟨XP, 1, none⟩ (.bool pb)).drew.ownsRow w.heap.size 42 3 lv l2.length (accV l2) ∧ Below w.heap.size w ((W5.setCell ⟨XP, 0, none⟩ (.int .u32 pa)).setCell ⟨XP, 1, none⟩ (.bool pb)).drew := hf.out
      have s0 := hg.1.cell 0
      have s1 := hg.1.cell 1
      simp only [List.getElem?_toArray, List.getElem?_cons_zero, List.getElem?_cons_succ] at s0 s1
      replace hg := Lib.hid hg
      generalize ((W5.setCell ⟨XP, 0, none⟩ (.int .u32 pa)).setCell ⟨XP, 1, none⟩ (.bool pb)).drew = W6 at *
      go_wp2_with fail
      exact bodyPost_ret (v := .tuple #[lv, .agg #[.int .u32 pa, .bool pb], .int .u16 r2.PC, .bool true]) (by simp [results, Try.results12, go_sem, s0, s1]) rfl ⟨lv, rfl, hg.out.2.1, hg.out.2.2⟩
  · have hf : Whole ((W5.setCell ⟨XP, 0, none⟩ (.int .u32 0)).setCell ⟨XP, 1, none⟩ (.bool false)) XP 27 #[.int .u32 0, .bool false] ∧
        ((W5.setCell ⟨XP, 0, none⟩ (.int .u32 0)).setCell ⟨XP, 1, none⟩ (.bool false)).ownsRow w.heap.size 42 3 lv l2.length (accV l2) ∧ Below w.heap.size w ((W5.setCell ⟨XP, 0, none⟩ (.int .u32 0)).setCell ⟨XP, 1, none⟩ (.bool false)) := hfin W5 (.inl rfl) 0 false
    have r0 := hf.1.cell 0
    have r1 := hf.1.cell 1
    simp only [List.getElem?_toArray, List.getElem?_cons_zero, List.getElem?_cons_succ] at r0 r1
    replace hf := Lib.hid hf
    clear hc ho hW5 hP5 hQ5 hfin
    go_wp2_with fail
    exact bodyPost_ret (v := .tuple #[lv, .agg #[.int .u32 0, .bool false], .int .u16 0, .bool false]) (by simp [results, Try.results12, go_sem, r0, r1]) rfl ⟨lv, rfl, hf.out.2.1, hf.out.2.2⟩
end Go.Proofs.Ytkbieadebfpjdaa
