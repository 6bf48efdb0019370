/-
  A walker in memory: put, idle, read.
-/
import Derived.Test.YtnacdaodjgdnnaaGreatPure
import Derived.Deep.RegionLaw
import Derived.Deep.AppendLies
import Derived.Deep.DeepCutAuto
import Derived.OwnWalk
import Derived.StillTailTactics
import Derived.BigQuiet
namespace Go.Proofs.YtnacdaodjgdnnaaGreat
open Go.RowKit Go.Shelf
set_option maxRecDepth 100000
set_option maxHeartbeats 1000000
set_option linter.unusedVariables false

theorem own_apart {w : World} {B : Nat} {e t : TypeId} {s n g : Nat} {v : Value} {xs : List Value} {cs : Array Value} (h : w.ownsRow B e s v n xs) (hg : Whole w g t cs) (hne : e ≠ t) : v.ownBlock ≠ some g := by
  intro he
  rcases h.2 with ⟨rfl, _⟩ | ⟨g', cap, cur, rfl, _, hh, _⟩
  · simp [Value.ownBlock] at he
  · have : g' = g := by simpa [Value.ownBlock] using he
    subst this
    rw [show w.heap[g']? = some (.cells cs t (0, 0)) from hg] at hh
    injection hh with hh
    injection hh with _ h2
    exact hne h2.symm
theorem Whole.grown {w w' : World} {g : Nat} {t : TypeId} {cs : Array Value} {row : Option Nat} (h : Whole w g t cs) (hg : w.grownBy w' row) (hne : row ≠ some g) : Whole w' g t cs :=
  (hg.block g h.lt (fun e => hne e.symm)).trans h
theorem row_put {w : World} {B : Nat} {e : TypeId} {s n : Nat} {v : Value} {xs : List Value} (h : w.ownsRow B e s v n xs) {p : Addr} (hp : v.ownBlock ≠ some p.block) (u : Value) : (w.setCell p u).ownsRow B e s v n xs :=
  h.kept (row := some p.block) ⟨rfl, rfl, rfl, by simp [World.setCell], fun k _ hk => Below.heap_setCell w p u k (fun e => hk (by rw [e]))⟩ (.inr hp)
theorem acc_info : (Tryz.prog.info? 35).map (fun i => (i.zero, i.size, i.bytes)) = some (some (.agg #[.int .u8 0, .int .u32 0, .int .u8 0]), 3, 12) := by kernel_rfl
/-- Accesses as cells. -/
def accV (l : List (Nat × Nat)) : List Value := l.flatMap fun x => [.int .u8 x.1, .int .u32 x.2, .int .u8 0]
theorem accV_snoc (l : List (Nat × Nat)) (k a : Nat) : accV l ++ [.int .u8 (k : Nat), .int .u32 (a : Nat), .int .u8 0] = accV (l ++ [(k, a)]) := by simp [accV]
/-- The walker's cells. -/
def wkC (r : Rg) (sv lv : Value) (st : Bool) : Array Value :=
  #[.int .u16 r.A, .int .u16 r.X, .int .u16 r.Y, .int .u16 r.S, .int .u16 r.D, .int .u16 r.PC, .int .u8 r.B, .int .u8 r.K, .int .u8 r.P, .bool r.E, sv, lv, .bool st]
/-- A walker in block b; W0 is the world in which the bytes that it sees lay; B: from there on all is its own. -/
structure Wk (W0 : World) (B b : Nat) (s : Ws) (w : World) : Prop where
  ok : s.r.Ok
  cells : ∃ a c lv, Whole w b 241 (wkC s.r (.slice a s.n c) lv s.st) ∧ s.n ≤ c ∧ Row W0 a s.n s.f ∧ w.ownsRow B 35 3 lv s.l.length (accV s.l)
  here : B ≤ b
  bel : Below B W0 w
  base : W0.heap.size = B
/-- Boxes of other kinds stay. -/
def Keeps (b : Nat) (w w' : World) : Prop := ∀ x t cs, x ≠ b → t ≠ 35 → Whole w x t cs → Whole w' x t cs
theorem Keeps.refl (b : Nat) (w : World) : Keeps b w w := fun _ _ _ _ _ h => h
theorem Keeps.trans {b : Nat} {w w' w'' : World} (h : Keeps b w w') (k : Keeps b w' w'') : Keeps b w w'' := fun x t cs h1 h2 h3 => k x t cs h1 h2 (h x t cs h1 h2 h3)
theorem Keeps.below {b : Nat} {w w' : World} (h : Below w.heap.size w w') : Keeps b w w' := fun x t cs _ _ h3 => h3.below h h3.lt
theorem Keeps.alloc {b : Nat} {w w' : World} (h : Keeps b w w') (o : Obj) : Keeps b w (w'.alloc o) := h.trans (Keeps.below ((Below.refl _ _).alloc (Nat.le_refl _) o))
theorem Keeps.set {b : Nat} {w w' : World} (h : Keeps b w w') (i : Nat) (u : Value) : Keeps b w (w'.setCell ⟨b, i, none⟩ u) := h.trans fun x t cs h1 _ h3 => h3.away (p := ⟨b, i, none⟩) h1 u
theorem Keeps.grown {b : Nat} {w w' W : World} {v : Value} {n B : Nat} {xs : List Value} (h : Keeps b w w') (ho : w'.ownsRow B 35 3 v n xs) (hg : w'.grownBy W v.ownBlock) : Keeps b w W := h.trans fun x t cs h1 h2 h3 => h3.grown hg (own_apart ho h3 (fun e => h2 e.symm))
section
variable {W0 w w' : World} {B b : Nat} {s : Ws}
theorem Wk.lt (h : Wk W0 B b s w) : b < w.heap.size := let ⟨_, _, _, h, _⟩ := h.cells; h.lt
theorem Wk.below (h : Wk W0 B b s w) (hb : Below w.heap.size w w') : Wk W0 B b s w' := by
  obtain ⟨a, c, lv, h1, h2, h3, h4⟩ := h.cells
  refine ⟨h.ok, ⟨a, c, lv, h1.below hb h1.lt, h2, h3, ?_⟩, h.here, h.bel.trans (hb.mono (by have := h.bel.size; have := h.base; omega)), h.base⟩
  exact h4.kept (row := none) ⟨hb.os, hb.tape, hb.output, hb.size, fun k hk _ => hb.block k hk⟩ (by cases lv.ownBlock <;> simp)
theorem Wk.alloc (h : Wk W0 B b s w) (o : Obj) : Wk W0 B b s (w.alloc o) := h.below ((Below.refl _ _).alloc (Nat.le_refl _) o)
theorem Wk.drew (h : Wk W0 B b s w) : Wk W0 B b s w.drew := h.below (Below.drew (Below.refl _ _))
end
theorem run_acc (W : World) (ty : TypeId) (lv : Value) (l : List (Nat × Nat)) (k a X B : Nat) (ho : W.ownsRow B 35 3 lv l.length (accV l)) (hx : Whole W X 35 #[.int .u8 k, .int .u32 a, .int .u8 0]) (hl : l.length ≤ 100) (hB : B ≤ W.heap.size) :
    ∃ g cap W', (Builtin.append_ #[27, 27] ty #[lv, .slice (some ⟨X, 0, none⟩) 1 1]).run Tryz.prog W = .ok (.slice (some ⟨g, 0, none⟩) (l.length + 1) cap) W' ∧ W'.ownsRow B 35 3 (.slice (some ⟨g, 0, none⟩) (l.length + 1) cap) (l.length + 1) (accV (l ++ [(k, a)])) ∧ W.grownBy W' lv.ownBlock ∧ g < W'.heap.size := by
  obtain ⟨i0, hi, hz0, hz1, hz2⟩ := info_parts acc_info
  obtain ⟨g, cap, W', h1, h2, h3, _, h5⟩ := run_append_lies (P := Tryz.prog) W 27 ty B 35 i0 _ 3 12 Tryz.underlying27 hi hz0 hz1 hz2 rfl (by omega) lv l.length (accV l) ho ⟨X, 0, none⟩ 1 1 [.int .u8 k, .int .u32 a, .int .u8 0] rfl (World.news_of_block (cs := #[.int .u8 k, .int .u32 a, .int .u8 0]) (t := 35) (fr := (0, 0)) hx) (by simp [Value.oneCell'])
    (by omega) (by unfold maxLen; omega) (by omega) hB _ rfl
  rw [accV_snoc] at h2
  exact ⟨g, cap, W', h1, h2, h3, h5⟩
/-- append where its run is known, as one step of a region that draws. -/
theorem step_append_ran {P : Program} {ops : Array Oper} {o : Oper} {a : Act} {w w' : World} {K : Act → World → Prop} {Q : Exit → Act → World → Prop} {E : Prop}
    (hgd : o.guard = none) (s x : Operand) (t : TypeId) (ho : o.op = .call { callee := .builtin .append, args := #[s, x], argTypes := #[t, t] })
    (v u v' : Value) (hs : a.eval s = v) (hx : a.eval x = u) (hr : (Builtin.append_ #[t, t] o.type #[v, u]).run P w = .ok v' w') (hK : K (a.put o.dst v') w') :
    if Region.wanted o (yielded ops a.tmps) = true then Oper.wp P o a w K Q else E := by
  have hw : Region.wanted o (yielded ops a.tmps) = true := by simp [Region.wanted, hgd]
  rw [if_pos hw]
  unfold Oper.wp
  simp [execOp, ho, resolve, invoke, builtin, hs, hx, hr, Result.andThen]
  exact hK
theorem put_any {W0 w : World} {B b : Nat} {s : Ws} (k a : Nat) (h : Wk W0 B b s w) (hl : s.l.length ≤ 100) :
    Calls Tryz.prog 179 #[.pointer (some ⟨b, 0, none⟩), .agg #[.int .u8 k, .int .u32 a, .int .u8 0]] w fun e w' => e = .returned (.tuple #[]) ∧ Wk W0 B b (s.put k a) w' ∧ Keeps b w w' := by
  have hW1 := h.alloc (.cells #[.int .u8 k, .int .u32 a, .int .u8 0] 35)
  have hK1 := (Keeps.refl b w).alloc (.cells #[.int .u8 k, .int .u32 a, .int .u8 0] 35)
  have hX := Whole.fresh w 35 #[.int .u8 k, .int .u32 a, .int .u8 0]
  have hlb := h.lt
  have hsz1 : (w.alloc (.cells #[.int .u8 k, .int .u32 a, .int .u8 0] 35)).heap.size = w.heap.size + 1 := by simp
  unfold Ws.put
  obtain ⟨r, n, f, l, st⟩ := s
  dsimp only at *
  obtain ⟨sa, sc, lv, hc, hnc, hR, ho⟩ := hW1.cells
  dsimp only at hc hnc hR ho
  have c11 := hc.cell 11
  have c12 := hc.cell 12
  have f11 := hc.free 11
  have x0 := hX.cell 0
  have x1 := hX.cell 1
  have x2 := hX.cell 2
  unfold wkC at c11 c12
  simp only [List.getElem?_toArray, List.getElem?_cons_zero, List.getElem?_cons_succ] at c11 c12 x0 x1 x2
  clear h
  cases st
  · have hfin : ∀ (W : World) (lv' : Value), Below B W0 W → Whole W b 241 (wkC r (.slice sa n sc) lv' false) → W.ownsRow B 35 3 lv' (l.length + 1) (accV (l ++ [(k, a)])) → Wk W0 B b ⟨r, n, f, l ++ [(k, a)], false⟩ W := fun W lv' h1 h2 h3 =>
      ⟨hW1.ok, ⟨sa, sc, lv', h2, hnc, hR, by simpa using h3⟩, hW1.here, h1, hW1.base⟩
    replace hfin := Lib.hid hfin
    have hbel := hW1.bel
    have hbase := hW1.base
    have hBb := hW1.here
    clear hW1 hnc hR
    go_enter Tryz.func179, Tryz.ntmps179
    go_upto_region 1 with (fail)
    generalize w.alloc (.cells #[.int .u8 k, .int .u32 a, .int .u8 0] 35) = W1 at *
    go_upto_region 2 with (fail)
    have d12 : W1.drew.cell? ⟨b, 12, none⟩ = some (.bool false) := c12
    have hwB : B ≤ W1.heap.size := by have := hbel.size; omega
    obtain ⟨gg, cap1, w1, hr, hown1, hgrow, hlt1⟩ := run_acc (W1.alloc (.cells #[.int .u8 k, .int .u32 a, .int .u8 0] 35)).drew 27 lv l k a (w.heap.size + 1) B ((ho.alloc _).drew) (by rw [← hsz1]; exact Whole.fresh W1 _ _) hl (by simp; omega)
    have hap := own_apart ((ho.alloc (.cells #[.int .u8 k, .int .u32 a, .int .u8 0] 35)).drew) ((hc.alloc (.cells #[.int .u8 k, .int .u32 a, .int .u8 0] 35)).drew) (by decide)
    have hc1 := ((hc.alloc (.cells #[.int .u8 k, .int .u32 a, .int .u8 0] 35)).drew).grown hgrow hap
    have g11 := hc1.cell 11
    have h11 := hc1.free 11
    have hc2 := hc1.put 11 (.slice (some ⟨gg, 0, none⟩) (l.length + 1) cap1)
    unfold wkC at g11 hc2
    simp only [List.getElem?_toArray, List.getElem?_cons_zero, List.getElem?_cons_succ] at g11
    have hB2 : Below B W0 (w1.setCell ⟨b, 11, none⟩ (.slice (some ⟨gg, 0, none⟩) (l.length + 1) cap1)) :=
      ((Below.drew (hbel.alloc hwB _)).grown hgrow (Nat.le_trans hwB (by simp)) (fun r hr => ((ho.alloc (.cells #[.int .u8 k, .int .u32 a, .int .u8 0] 35)).drew.lt r hr).1)).setCell (p := ⟨b, 11, none⟩) hBb _
    have ho2 := row_put hown1 (p := ⟨b, 11, none⟩) (own_apart hown1 hc1 (by decide)) (.slice (some ⟨gg, 0, none⟩) (l.length + 1) cap1)
    have hK2 := (((hK1.alloc (.cells #[.int .u8 k, .int .u32 a, .int .u8 0] 35)).trans (Keeps.below (Below.drew (Below.refl _ _)))).grown ((ho.alloc (.cells #[.int .u8 k, .int .u32 a, .int .u8 0] 35)).drew) hgrow).set 11 (.slice (some ⟨gg, 0, none⟩) (l.length + 1) cap1)
    have hlast := Lib.hid (And.intro (hfin.out _ _ hB2 hc2 ho2) hK2)
    clear hB2 hc2 ho2 hK2 hc1 hap hfin hown1 hgrow hK1 hX ho hc hbel
    go_region_law (refine step_append_ran rfl _ _ 27 rfl _ _ _ rfl rfl hr ?_)
    all_goals
      go_wp2_with fail
      go_end0
      exact ⟨rfl, hlast.out⟩
  · clear hc ho x0 x1 x2 f11 hX
    go_enter Tryz.func179, Tryz.ntmps179
    go_upto_region 1 with (fail)
    generalize w.alloc (.cells #[.int .u8 k, .int .u32 a, .int .u8 0] 35) = W1 at *
    go_wp2_with fail
    go_end0
    exact ⟨rfl, hW1, hK1⟩
end Go.Proofs.YtnacdaodjgdnnaaGreat
namespace Go.Proofs.YtnacdaodjgdnnaaGreat
open Go.RowKit Go.Shelf
set_option maxRecDepth 100000
set_option maxHeartbeats 1000000
set_option linter.unusedVariables false

theorem idle_any {W0 w : World} {B b : Nat} {s : Ws} (h : Wk W0 B b s w) (hl : s.l.length ≤ 100) :
    Calls Tryz.prog 117 #[.pointer (some ⟨b, 0, none⟩)] w fun e w' => e = .returned (.tuple #[]) ∧ Wk W0 B b (idleM s).2 w' ∧ Keeps b w w' := by
  have HP := Lib.hid (put_any 0 0 h hl)
  clear h hl
  go_enter Tryz.func117, Tryz.ntmps117
  go_wp2_with fail
  refine HP.out.mono ?_
  rintro e w1 ⟨rfl, h1, h2⟩
  clear HP
  go_wp2_with fail
  go_end0
  exact ⟨rfl, h1, h2⟩
theorem Wk.stop {W0 w : World} {B b : Nat} {s : Ws} (h : Wk W0 B b s w) (hn : s.n = 0) : Wk W0 B b { s with st := true } (w.setCell ⟨b, 12, none⟩ (.bool true)) := by
  obtain ⟨a, c, lv, h1, h2, h3, h4⟩ := h.cells
  exact ⟨h.ok, ⟨a, c, lv, h1.put 12 _, h2, h3, row_put h4 (p := ⟨b, 12, none⟩) (own_apart h4 h1 (by decide)) _⟩, h.here, h.bel.setCell (p := ⟨b, 12, none⟩) h.here _, h.base⟩
theorem Wk.next {W0 w : World} {B b : Nat} {s : Ws} {a : Option Addr} {c : Nat} (h : Wk W0 B b s w) (hc : s.n - 1 ≤ c) (hR : Row W0 a (s.n - 1) (fun i => s.f (i + 1))) : Wk W0 B b { s with n := s.n - 1, f := fun i => s.f (i + 1) } (w.setCell ⟨b, 10, none⟩ (.slice a (s.n - 1) c)) := by
  obtain ⟨a0, c0, lv, h1, h2, h3, h4⟩ := h.cells
  exact ⟨h.ok, ⟨a, c, lv, h1.put 10 _, hc, hR, row_put h4 (p := ⟨b, 10, none⟩) (own_apart h4 h1 (by decide)) _⟩, h.here, h.bel.setCell (p := ⟨b, 10, none⟩) h.here _, h.base⟩
theorem read_any {W0 w : World} {B b : Nat} {s : Ws} (a : Nat) (h : Wk W0 B b s w) (hl : s.l.length ≤ 100) (ha : a < 16777216) :
    Calls Tryz.prog 110 #[.pointer (some ⟨b, 0, none⟩), .int .u32 a] w fun e w' => e = .returned (.int .u8 ((readM a s).1 : Nat)) ∧ Wk W0 B b (readM a s).2 w' ∧ Keeps b w w' ∧ (readM a s).1 < 256 := by
  have HP := put_any 1 a h hl
  unfold readM
  rw [Nat.mod_eq_of_lt ha]
  generalize s.put 1 a = s1 at *
  replace HP := Lib.hid HP
  clear h hl ha
  by_cases hn : s1.n = 0
  · rw [show takeM s1 = (0, { s1 with st := true }) from if_pos hn]
    go_enter Tryz.func110, Tryz.ntmps110
    go_wp2_with fail
    refine HP.out.mono ?_
    rintro e w1 ⟨rfl, h1, hK⟩
    clear HP
    obtain ⟨sa, c, lv, hc, hnc, hR, ho⟩ := h1.cells
    have c10 := hc.cell 10
    have c12 := hc.cell 12
    have f12 := hc.free 12
    unfold wkC at c10 c12
    simp only [List.getElem?_toArray, List.getElem?_cons_zero, List.getElem?_cons_succ] at c10 c12
    have hS := Lib.hid (And.intro (h1.stop hn) (hK.set 12 (.bool true)))
    rw [hn] at c10
    clear hc hR ho hnc h1 hK hn
    go_wp2_with fail
    go_ret
    exact ⟨rfl, hS.out.1, hS.out.2, by decide⟩
  · obtain ⟨m, hm⟩ : ∃ m, s1.n = m + 1 := ⟨s1.n - 1, by omega⟩
    have hmm : s1.n - 1 = m := by omega
    rw [show takeM s1 = (s1.f 0, { s1 with n := m, f := fun i => s1.f (i + 1) }) by unfold takeM; rw [if_neg hn, hmm]]
    obtain ⟨x, hx⟩ : ∃ x, s1.f 0 = x := ⟨_, rfl⟩
    rw [hx]
    replace hx := Lib.hid hx
    replace hm := Lib.hid hm
    replace hmm := Lib.hid hmm
    clear hn
    go_enter Tryz.func110, Tryz.ntmps110
    go_wp2_with fail
    refine HP.out.mono ?_
    rintro e w1 ⟨rfl, h1, hK⟩
    clear HP
    obtain ⟨sa, c, lv, hc, hnc, hR, ho⟩ := h1.cells
    have c10 := hc.cell 10
    have f10 := hc.free 10
    unfold wkC at c10
    simp only [List.getElem?_toArray, List.getElem?_cons_zero, List.getElem?_cons_succ] at c10
    obtain ⟨hb, h0 | ⟨g, o, rfl, hg, hcell⟩⟩ := hR
    · have := hm.out; omega
    have hx0 : x < 256 := by rw [← hx.out]; exact hb 0 (by have := hm.out; omega)
    have hcl := (h1.bel.cell (p := ⟨g, o + 0, none⟩) (by have := h1.base; show g < B; omega)).trans (hcell 0 (by have := hm.out; omega))
    rw [Nat.add_zero, hx.out] at hcl
    have hbase : ∀ i, i < m → s1.f (i + 1) < 256 := fun i hi => hb (i + 1) (by have := hm.out; omega)
    have HN : ∀ (c' : Nat) (a' : Option Addr), m ≤ c' → (m = 0 ∨ (a' = some ⟨g, o + 1, none⟩)) → Wk W0 B b { s1 with n := m, f := fun i => s1.f (i + 1) } (w1.setCell ⟨b, 10, none⟩ (.slice a' m c')) := fun c' a' hc' ha' => by
      have := h1.next (a := a') (c := c') (by rw [hmm.out]; exact hc') (by
        rw [hmm.out]
        refine ⟨hbase, ?_⟩
        rcases ha' with h0 | h0
        · exact .inl h0
        · exact .inr ⟨g, o + 1, h0, hg, fun i hi => by rw [Nat.add_assoc, Nat.add_comm 1 i]; exact hcell (i + 1) (by have := hm.out; omega)⟩)
      rw [hmm.out] at this
      exact this
    rw [hm.out] at c10 hnc
    have hlast : ∀ v, Keeps b w (w1.setCell ⟨b, 10, none⟩ v) := fun v => hK.set 10 v
    replace hlast := Lib.hid hlast
    replace HN := Lib.hid HN
    replace hx0 := Lib.hid hx0
    clear hc hb hbase hcell ho h1 hK hg
    have i1 : (((m + 1 : Nat) : Int) == 0) = false := by rw [beq_eq_false_iff_ne]; omega
    obtain ⟨c', rfl⟩ : ∃ c', c = c' + 1 := ⟨c - 1, by omega⟩
    have hmc : m ≤ c' := by omega
    have hmcH := Lib.hid hmc
    by_cases hc0 : c' = 0
    · subst hc0
      obtain rfl : m = 0 := by omega
      clear hnc hmc
      go_wp2_with fail
      go_ret
      exact ⟨rfl, HN.out 0 (some ⟨g, o, none⟩) (Nat.le_refl _) (.inl (by trivial)), hlast.out _, hx0.out⟩
    · clear hnc
      go_wp2_with fail
      go_ret
      exact ⟨rfl, HN.out c' (some ⟨g, o + 1, none⟩) hmcH.out (.inr rfl), hlast.out _, hx0.out⟩
end Go.Proofs.YtnacdaodjgdnnaaGreat
namespace Go.Proofs.YtnacdaodjgdnnaaGreat
open Go.RowKit Go.Shelf
set_option maxRecDepth 100000
set_option maxHeartbeats 1000000
set_option linter.unusedVariables false

theorem num_lt {F : Nat → M Nat} {s : Ws} : ∀ {m : Nat}, (∀ i, i < m → (F i (numM F i s).2).1 < 256) → (numM F m s).1 < 256 ^ m
  | 0, _ => Nat.zero_lt_one
  | k + 1, h => by
    have h1 := num_lt (F := F) (s := s) (m := k) (fun i hi => h i (by omega))
    have h2 := h k (by omega)
    show (numM F k s).1 + (F k (numM F k s).2).1 * 256 ^ k < 256 ^ (k + 1)
    have h3 : (F k (numM F k s).2).1 * 256 ^ k ≤ 255 * 256 ^ k := Nat.mul_le_mul_right _ (by omega)
    rw [Nat.pow_succ]
    omega
theorem or_step {n v j : Nat} (hj : j < 3) (hn : n < 256 ^ j) (hv : v < 256) : bits .or .u32 (n : Int) ((v * 256 ^ j : Nat) : Int) = ((n + v * 256 ^ j : Nat) : Int) := by
  have h1 : (256 : Nat) ^ j = 2 ^ (8 * j) := by rw [Nat.pow_mul]
  have h2 : v * 256 ^ j ≤ 255 * 256 ^ j := Nat.mul_le_mul_right _ (by omega)
  have h3 : 256 ^ j ≤ 65536 := by
    rcases (show j = 0 ∨ j = 1 ∨ j = 2 by omega) with rfl | rfl | rfl <;> decide
  rw [u32_or_nat _ _ (by omega) (by omega)]
  congr 1
  rw [h1] at hn ⊢
  rw [Nat.or_comm, Nat.add_comm, ← Nat.shiftLeft_eq, Nat.shiftLeft_add_eq_or_of_lt hn]
theorem step_lt {n v j : Nat} (hn : n < 256 ^ j) (hv : v < 256) : n + v * 256 ^ j < 256 ^ (j + 1) := by
  have h2 : v * 256 ^ j ≤ 255 * 256 ^ j := Nat.mul_le_mul_right _ (by omega)
  rw [Nat.pow_succ]
  omega
theorem number_any {W0 w : World} {B b k m : Nat} {s : Ws} {F : Nat → M Nat} {caps : Array Value} {Q : World → Prop} (hm : m ≤ 3)
    (hcl : ∀ i s w, i < m → Wk W0 B b s w → Q w → s.l.length ≤ 100 → Calls Tryz.prog k (#[.int .u32 (i : Nat)] ++ caps) w fun e w' => e = .returned (.int .u8 ((F i s).1 : Nat)) ∧ Wk W0 B b (F i s).2 w' ∧ Keeps b w w' ∧ (F i s).1 < 256)
    (hQ : ∀ w w', Q w → Keeps b w w' → Q w') (hF : ∀ i, Good (F i) 1) (hen : ∀ (args : Array Value) (W : World), (callFunc k args).run Tryz.prog W = .ok (.enter k args) W)
    (h : Wk W0 B b s w) (q : Q w) (hl : s.l.length + m ≤ 100) :
    Calls Tryz.prog 108 #[.int .u32 (m : Nat), .func (.func k) #[] caps] w fun e w' => e = .returned (.int .u32 ((numM F m s).1 : Nat)) ∧ Wk W0 B b (numM F m s).2 w' ∧ Keeps b w w' ∧ (numM F m s).1 < 256 ^ m := by
  have hlen : ∀ j, j < m → (numM F j s).2.l.length ≤ 100 := fun j hj => by have := (Good.num hF j).cost s; omega
  have hcl2 := Lib.hid (fun j (hj : j < m) w (hW : Wk W0 B b (numM F j s).2 w) (q : Q w) => hcl j (numM F j s).2 w hj hW q (hlen j hj))
  replace hm := Lib.hid hm
  clear hcl hlen hl
  go_enter Tryz.func108, Tryz.ntmps108
  go_wp2_with fail
  go_loopw [5, 8] (fun s5 s8 wr => ∃ j : Nat, j ≤ m ∧ s5 = .int .u32 ((numM F j s).1 : Nat) ∧ s8 = .int .u32 (j : Nat) ∧ Hid ((numM F j s).1 < 256 ^ j) ∧ Hid (Wk W0 B b (numM F j s).2 wr ∧ Keeps b w wr)) (fun _ s8 _ => m - (intOf s8).toNat)
  case atStart => exact ⟨0, Nat.zero_le _, rfl, rfl, Lib.hid Nat.zero_lt_one, Lib.hid ⟨h, Keeps.refl _ _⟩⟩
  case round =>
    obtain ⟨j, hj, rfl, rfl, hn, hWK⟩ := hrel
    by_cases hlt : j < m
    · have hC := hcl2.out j hlt wr hWK.out.1 (hQ _ _ q hWK.out.2)
      have hstep : numM F (j + 1) s = ((numM F j s).1 + (F j (numM F j s).2).1 * 256 ^ j, (F j (numM F j s).2).2) := rfl
      generalize numM F j s = p0 at *
      obtain ⟨n, s1⟩ := p0
      dsimp only at *
      generalize F j s1 = p2 at *
      obtain ⟨v, s2⟩ := p2
      dsimp only at *
      replace hC := Lib.hid hC
      replace hstep := Lib.hid hstep
      have hj3 : j < 3 := by have := hm.out; omega
      clear hcl2
      rcases (show j = 0 ∨ j = 1 ∨ j = 2 by omega) with rfl | rfl | rfl
      · go_wp2_with fail
        refine hC.out.mono ?_
        rintro e w1 ⟨rfl, h1, h2, h3⟩
        go_wp2_with fail
        refine ⟨⟨1, hlt, ?_, rfl, ?_, ?_⟩, by simp [intOf]; omega⟩
        · rw [hstep.out, ← or_step (by decide) hn.out h3]
          congr 2
          all_goals simp
        · rw [hstep.out]; exact Lib.hid (step_lt hn.out h3)
        · rw [hstep.out]; exact Lib.hid ⟨h1, hWK.out.2.trans h2⟩
      · go_wp2_with fail
        refine hC.out.mono ?_
        rintro e w1 ⟨rfl, h1, h2, h3⟩
        go_wp2_with fail
        refine ⟨⟨2, hlt, ?_, rfl, ?_, ?_⟩, by simp [intOf]; omega⟩
        · rw [hstep.out, ← or_step (by decide) hn.out h3]
          congr 2
          all_goals simp
        · rw [hstep.out]; exact Lib.hid (step_lt hn.out h3)
        · rw [hstep.out]; exact Lib.hid ⟨h1, hWK.out.2.trans h2⟩
      · go_wp2_with fail
        refine hC.out.mono ?_
        rintro e w1 ⟨rfl, h1, h2, h3⟩
        go_wp2_with fail
        refine ⟨⟨3, hlt, ?_, rfl, ?_, ?_⟩, by simp [intOf]; omega⟩
        · rw [hstep.out, ← or_step (by decide) hn.out h3]
          congr 2
          all_goals simp
        · rw [hstep.out]; exact Lib.hid (step_lt hn.out h3)
        · rw [hstep.out]; exact Lib.hid ⟨h1, hWK.out.2.trans h2⟩
    · obtain rfl : j = m := by omega
      go_wp2_with fail
      go_ret
      exact ⟨rfl, hWK.out.1, hWK.out.2, hn.out⟩
end Go.Proofs.YtnacdaodjgdnnaaGreat
namespace Go.Proofs.YtnacdaodjgdnnaaGreat
open Go.RowKit Go.Shelf
set_option maxRecDepth 100000
set_option maxHeartbeats 1000000
set_option linter.unusedVariables false

theorem fetch1_eq (s : Ws) : fetch1M s = ((readM (s.r.K * 65536 + s.r.PC) s).1, { (readM (s.r.K * 65536 + s.r.PC) s).2 with r := { (readM (s.r.K * 65536 + s.r.PC) s).2.r with PC := ((readM (s.r.K * 65536 + s.r.PC) s).2.r.PC + 1) % 65536 } }) := rfl
theorem read_r (a : Nat) (s : Ws) : (readM a s).2.r = s.r := by
  unfold readM takeM Ws.put
  split <;> split <;> rfl
theorem Wk.inc {W0 w : World} {B b : Nat} {s : Ws} (h : Wk W0 B b s w) : Wk W0 B b { s with r := { s.r with PC := (s.r.PC + 1) % 65536 } } (w.setCell ⟨b, 5, none⟩ (.int .u16 ((s.r.PC + 1) % 65536 : Nat))) := by
  obtain ⟨a, c, lv, h1, h2, h3, h4⟩ := h.cells
  have ok := h.ok
  exact ⟨⟨ok.A, ok.X, ok.Y, ok.S, ok.D, Nat.mod_lt _ (by decide), ok.B, ok.K, ok.P⟩, ⟨a, c, lv, h1.put 5 _, h2, h3, row_put h4 (p := ⟨b, 5, none⟩) (own_apart h4 h1 (by decide)) _⟩, h.here, h.bel.setCell (p := ⟨b, 5, none⟩) h.here _, h.base⟩
theorem fetch1_any {W0 w : World} {B b x i : Nat} {s : Ws} (h : Wk W0 B b s w) (q : Whole w x 151 #[.pointer (some ⟨b, 0, none⟩)]) (hl : s.l.length ≤ 100) :
    Calls Tryz.prog 109 #[.int .u32 (i : Nat), .pointer (some ⟨x, 0, none⟩)] w fun e w' => e = .returned (.int .u8 ((fetch1M s).1 : Nat)) ∧ Wk W0 B b (fetch1M s).2 w' ∧ Keeps b w w' ∧ (fetch1M s).1 < 256 := by
  have hok := h.ok
  have hK := hok.K
  have hPC := hok.PC
  obtain ⟨sa, c, lv, hc, hnc, hR, ho⟩ := h.cells
  have qd := q.drew
  have hcd := hc.drew
  have d0 := qd.cell 0
  have c5 := hcd.cell 5
  have c7 := hcd.cell 7
  unfold wkC at c5 c7
  simp only [List.getElem?_toArray, List.getElem?_cons_zero, List.getElem?_cons_succ] at c5 c7 d0
  have hne : x ≠ b := fun e => by
    subst e
    have := (show w.heap[x]? = _ from q).symm.trans hc
    injection this with this
    injection this with h1 h2
    cases h2
  have hd : Keeps b w w.drew := Keeps.below (Below.drew (Below.refl _ _))
  have HR := read_any (s.r.K * 65536 + s.r.PC) h.drew hl (by omega)
  rw [fetch1_eq]
  have hrr := read_r (s.r.K * 65536 + s.r.PC) s
  obtain ⟨v, hv⟩ : ∃ v, s.r.K * 65536 + s.r.PC = v := ⟨_, rfl⟩
  have HA := fun W => address_v (b := s.r.K) (n := s.r.PC) (v := v) (x := (s.r.K : Nat)) (z := (s.r.PC : Nat)) W rfl rfl hK (by omega) (by rw [← hv]; congr 1; omega)
  rw [hv] at HR hrr ⊢
  generalize readM v s = p1 at *
  obtain ⟨y, s1⟩ := p1
  dsimp only at *
  rw [← hrr] at c5 c7 HA
  rw [← hrr] at hPC
  replace HR := Lib.hid HR
  replace HA := Lib.hid HA
  replace hd := Lib.hid hd
  replace q := Lib.hid q
  clear hc hR ho hnc h hl hv hrr qd hcd hok hK
  have e0 : IntKind.u32.wrap (s1.r.PC : Int) = (s1.r.PC : Int) := by simp only [IntKind.wrap_u32]; omega
  go_enter Tryz.func109, Tryz.ntmps109
  go_upto_region 1 with (fail)
  refine wp_region_still_tail 13 (by kernel_rfl) (by kernel_rfl) ?_
  simp only [List.take_succ_cons, List.take_zero, List.drop_succ_cons, List.drop_zero]
  repeat still_step
  still_call ((HA.out _).mono (by rintro e w' ⟨rfl, rfl⟩; exact ⟨rfl, rfl⟩))
  refine wpStill_nil ?_
  show wpList _ _ _ _ _ w.drew
  generalize w.drew = W1 at *
  clear HA
  go_wp2_with fail
  refine HR.out.mono ?_
  rintro e w1 ⟨rfl, h1, h2, h3⟩
  clear HR c5 c7 d0
  obtain ⟨sa, c, lv, hc, _⟩ := h1.cells
  have q1 := (hd.out.trans h2) _ _ _ hne (by decide) q.out
  have d0 := q1.cell 0
  have c5 := hc.cell 5
  have f5 := hc.free 5
  unfold wkC at c5
  simp only [List.getElem?_toArray, List.getElem?_cons_zero, List.getElem?_cons_succ] at c5 d0
  have hfin := Lib.hid (And.intro h1.inc ((hd.out.trans h2).set 5 (.int .u16 ((s1.r.PC + 1) % 65536 : Nat))))
  have e1 : ((s1.r.PC : Int) + 1) % 65536 = (((s1.r.PC + 1) % 65536 : Nat) : Int) := by omega
  have e2 : IntKind.u16.wrap ((s1.r.PC : Int) + 1) = (((s1.r.PC + 1) % 65536 : Nat) : Int) := by simp only [IntKind.wrap_u16]; omega
  obtain ⟨z, hz⟩ : ∃ z, (s1.r.PC + 1) % 65536 = z := ⟨_, rfl⟩
  rw [hz] at e1 e2
  replace hz := Lib.hid hz
  replace h3 := Lib.hid h3
  clear hc q1 h1 h2 hd q
  go_wp2_with fail
  go_ret
  have hz2 := hz.out
  subst hz2
  exact ⟨rfl, hfin.out.1, hfin.out.2, h3.out⟩
end Go.Proofs.YtnacdaodjgdnnaaGreat
namespace Go.Proofs.YtnacdaodjgdnnaaGreat
open Go.RowKit Go.Shelf
set_option maxRecDepth 100000
set_option maxHeartbeats 1000000
set_option linter.unusedVariables false

theorem makeF : ∀ (fn : Fn) (first cap : Array Value) (w : World), (Instr.makeFunc fn first cap).run Tryz.prog w = .ok (.func fn first cap) w := fun _ _ _ _ => rfl
theorem Good.fetch1 : Good fetch1M 1 := Good.bind (c := 0) Good.get fun r => Good.bind (c := 1) (d := 0) (Good.read _) fun v => Good.bind (c := 0) (d := 0) Good.inc fun _ => Good.pure _
theorem fetch_any {W0 w : World} {B b m : Nat} {s : Ws} (h : Wk W0 B b s w) (hm : m ≤ 3) (hl : s.l.length + m ≤ 100) :
    Calls Tryz.prog 59 #[.pointer (some ⟨b, 0, none⟩), .int .u32 (m : Nat)] w fun e w' => e = .returned (.int .u32 ((fetchM m s).1 : Nat)) ∧ Wk W0 B b (fetchM m s).2 w' ∧ Keeps b w w' ∧ (fetchM m s).1 < 256 ^ m := by
  have hmf := makeF
  have hW := h.alloc (.cells #[.pointer (some ⟨b, 0, none⟩)] 151)
  have hX := Whole.fresh w 151 #[.pointer (some ⟨b, 0, none⟩)]
  have hK := (Keeps.refl b w).alloc (.cells #[.pointer (some ⟨b, 0, none⟩)] 151)
  have hne : w.heap.size ≠ b := by have := h.lt; omega
  have HN := number_any (k := 109) (F := fun _ => fetch1M) (caps := #[.pointer (some ⟨w.heap.size, 0, none⟩)]) (Q := fun W => Whole W w.heap.size 151 #[.pointer (some ⟨b, 0, none⟩)]) hm
    (fun i s w _ hW q hl => fetch1_any (i := i) hW q hl) (fun w w' q k => k _ _ _ hne (by decide) q) (fun _ => Good.fetch1) (enters_of Tryz.func109 (by kernel_rfl) rfl) hW hX hl
  change Calls _ _ _ _ (fun e w' => e = .returned (.int .u32 ((fetchM m s).1 : Nat)) ∧ Wk W0 B b (fetchM m s).2 w' ∧ Keeps b _ w' ∧ (fetchM m s).1 < 256 ^ m) at HN
  replace HN := Lib.hid HN
  replace hK := Lib.hid hK
  clear h hX hW hl hm
  go_enter Tryz.func59, Tryz.ntmps59
  go_wp2_with fail
  refine HN.out.mono ?_
  rintro e w' ⟨rfl, h1, h2, h3⟩
  clear HN
  go_wp2_with fail
  go_ret
  exact ⟨rfl, h1, hK.out.trans h2, h3⟩
theorem offset_eq (s : Ws) : offsetM s = ((fetchM 1 s).1, if (fetchM 1 s).2.r.D % 256 = 0 then (fetchM 1 s).2 else (idleM (fetchM 1 s).2).2) := by
  unfold offsetM bindM getM pureM
  dsimp only
  by_cases h : (fetchM 1 s).2.r.D % 256 = 0
  · rw [if_pos h, if_neg (by simpa using h)]
  · rw [if_neg h, if_pos h]
theorem offset_any {W0 w : World} {B b : Nat} {s : Ws} (h : Wk W0 B b s w) (hl : s.l.length ≤ 98) :
    Calls Tryz.prog 281 #[.pointer (some ⟨b, 0, none⟩)] w fun e w' => e = .returned (.int .u32 ((offsetM s).1 : Nat)) ∧ Wk W0 B b (offsetM s).2 w' ∧ Keeps b w w' ∧ (offsetM s).1 < 256 := by
  have HF := fetch_any (m := 1) h (by decide) (by omega)
  have hc := (Good.fetch 1).cost s
  rw [offset_eq]
  generalize fetchM 1 s = p at *
  obtain ⟨o, s1⟩ := p
  dsimp only at *
  have hl1 : s1.l.length ≤ 100 := by omega
  replace HF := Lib.hid HF
  clear h hc hl
  by_cases hd : s1.r.D % 256 = 0
  · rw [if_pos hd]
    go_enter Tryz.func281, Tryz.ntmps281
    go_wp2_with fail
    refine HF.out.mono ?_
    rintro e w1 ⟨rfl, h1, h2, h3⟩
    clear HF
    obtain ⟨sa, c, lv, hc, _⟩ := h1.cells
    have c4 := hc.cell 4
    unfold wkC at c4
    simp only [List.getElem?_toArray, List.getElem?_cons_zero, List.getElem?_cons_succ] at c4
    have q := and8u16 s1.r.D h1.ok.D
    rw [hd] at q
    replace h3 := Lib.hid h3
    clear hc hl1 hd
    go_wp2_with fail
    go_ret
    exact ⟨rfl, h1, h2, by simpa using h3.out⟩
  · rw [if_neg hd]
    have HI := Lib.hid (fun W (hW : Wk W0 B b s1 W) => idle_any hW hl1)
    generalize (idleM s1).2 = s2 at *
    go_enter Tryz.func281, Tryz.ntmps281
    go_wp2_with fail
    refine HF.out.mono ?_
    rintro e w1 ⟨rfl, h1, h2, h3⟩
    clear HF
    obtain ⟨sa, c, lv, hc, _⟩ := h1.cells
    have c4 := hc.cell 4
    unfold wkC at c4
    simp only [List.getElem?_toArray, List.getElem?_cons_zero, List.getElem?_cons_succ] at c4
    have q := and8u16 s1.r.D h1.ok.D
    have t : (((s1.r.D % 256 : Nat) : Int) != 0) = true := by rw [bne_iff_ne]; omega
    generalize s1.r.D % 256 = dd at *
    replace h3 := Lib.hid h3
    clear hc hl1 hd
    go_wp2_with fail
    refine (HI.out _ h1).mono ?_
    rintro e w2 ⟨rfl, h4, h5⟩
    clear HI c4
    go_wp2_with fail
    go_ret
    exact ⟨rfl, h4, h2.trans h5, by simpa using h3.out⟩
theorem offsetBy_any {W0 w : World} {B b x : Nat} {s : Ws} (h : Wk W0 B b s w) (hl : s.l.length ≤ 97) (hx : x < 65536) :
    Calls Tryz.prog 282 #[.pointer (some ⟨b, 0, none⟩), .int .u16 (x : Nat)] w fun e w' => e = .returned (.int .u32 ((offsetByM x s).1 : Nat)) ∧ Wk W0 B b (offsetByM x s).2 w' ∧ Keeps b w w' ∧ (offsetByM x s).1 < 65792 := by
  have HF := offset_any h (by omega)
  have hc := Good.offset.cost s
  rw [show offsetByM x s = ((offsetM s).1 + x, (idleM (offsetM s).2).2) from rfl]
  generalize offsetM s = p at *
  obtain ⟨o, s1⟩ := p
  dsimp only at *
  have HI := Lib.hid (fun W (hW : Wk W0 B b s1 W) => idle_any hW (by omega))
  generalize (idleM s1).2 = s2 at *
  replace HF := Lib.hid HF
  clear h hc hl
  go_enter Tryz.func282, Tryz.ntmps282
  go_wp2_with fail
  refine HF.out.mono ?_
  rintro e w1 ⟨rfl, h1, h2, h3⟩
  clear HF
  go_wp2_with fail
  refine (HI.out _ h1).mono ?_
  rintro e w2 ⟨rfl, h4, h5⟩
  clear HI
  obtain ⟨z, hz⟩ : ∃ z, o + x = z := ⟨_, rfl⟩
  have hlt : z < 65792 := by omega
  have e0 : IntKind.u32.wrap (x : Int) = (x : Int) := by simp only [IntKind.wrap_u32]; omega
  have e1 : (o : Int) + (x : Int) = (z : Int) := by omega
  have e2 : (z : Int) % 4294967296 = (z : Int) := by omega
  replace hz := Lib.hid hz
  replace hlt := Lib.hid hlt
  clear h3 hx
  go_wp2_with fail
  go_ret
  have hz2 := hz.out
  subst hz2
  exact ⟨rfl, h4, h2.trans h5, hlt.out⟩
theorem stack_any {W0 w : World} {B b : Nat} {s : Ws} (h : Wk W0 B b s w) (hl : s.l.length ≤ 97) :
    Calls Tryz.prog 288 #[.pointer (some ⟨b, 0, none⟩)] w fun e w' => e = .returned (.int .u32 ((stackM s).1 : Nat)) ∧ Wk W0 B b (stackM s).2 w' ∧ Keeps b w w' ∧ (stackM s).1 < 65792 := by
  have HF := fetch_any (m := 1) h (by decide) (by omega)
  have hc := (Good.fetch 1).cost s
  rw [show stackM s = ((idleM (fetchM 1 s).2).2.r.S + (fetchM 1 s).1, (idleM (fetchM 1 s).2).2) from rfl]
  generalize fetchM 1 s = p at *
  obtain ⟨o, s1⟩ := p
  dsimp only at *
  have HI := Lib.hid (fun W (hW : Wk W0 B b s1 W) => idle_any hW (by omega))
  generalize (idleM s1).2 = s2 at *
  replace HF := Lib.hid HF
  clear h hc hl
  go_enter Tryz.func288, Tryz.ntmps288
  go_wp2_with fail
  refine HF.out.mono ?_
  rintro e w1 ⟨rfl, h1, h2, h3⟩
  clear HF
  go_wp2_with fail
  refine (HI.out _ h1).mono ?_
  rintro e w2 ⟨rfl, h4, h5⟩
  clear HI
  obtain ⟨sa, c, lv, hc, _⟩ := h4.cells
  have c3 := hc.cell 3
  unfold wkC at c3
  simp only [List.getElem?_toArray, List.getElem?_cons_zero, List.getElem?_cons_succ] at c3
  have hS := h4.ok.S
  have h3' : o < 256 := by simpa using h3
  obtain ⟨z, hz⟩ : ∃ z, s2.r.S + o = z := ⟨_, rfl⟩
  have hlt : z < 65792 := by omega
  have e0 : IntKind.u32.wrap (s2.r.S : Int) = (s2.r.S : Int) := by simp only [IntKind.wrap_u32]; omega
  have e1 : (s2.r.S : Int) + (o : Int) = (z : Int) := by omega
  have e2 : (z : Int) % 4294967296 = (z : Int) := by omega
  replace hz := Lib.hid hz
  replace hlt := Lib.hid hlt
  clear h3 h3' hS hc
  go_wp2_with fail
  go_ret
  have hz2 := hz.out
  subst hz2
  exact ⟨rfl, h4, h2.trans h5, hlt.out⟩
end Go.Proofs.YtnacdaodjgdnnaaGreat
