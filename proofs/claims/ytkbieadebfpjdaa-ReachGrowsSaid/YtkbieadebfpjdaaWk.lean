/-
  A walker in memory: put, idle, read.
-/
import Derived.Test.YtkbieadebfpjdaaPure
import Derived.Deep.RegionLaw
import Derived.Deep.AppendLies
import Derived.Deep.DeepCutAuto
import Derived.OwnWalk
namespace Go.Proofs.Ytkbieadebfpjdaa
open Go.RowKit Go.Shelf
set_option maxRecDepth 100000
set_option maxHeartbeats 1000000
set_option linter.unusedVariables false

theorem own_apart {w : World} {B : Nat} {e t : TypeId} {s n g : Nat} {v : Value} {xs : List Value} {cs : Array Value} (h : w.ownsRow B e s v n xs) (hg : Whole w g t cs) (hne : e ≠ t) : v.ownBlock ≠ some g := by
  intro he
  rcases h.2 with ⟨rfl, _⟩ | ⟨g', cap, cur, rfl, _, hh, _⟩
  · simp [Value.ownBlock] at he
  · have : g' = g := by simpa [Value.ownBlock] using he
    subst this
    rw [show w.heap[g']? = some (.cells cs t (0, 0)) from hg] at hh
    injection hh with hh
    injection hh with _ h2
    exact hne h2.symm
theorem Whole.grown {w w' : World} {g : Nat} {t : TypeId} {cs : Array Value} {row : Option Nat} (h : Whole w g t cs) (hg : w.grownBy w' row) (hne : row ≠ some g) : Whole w' g t cs :=
  (hg.block g h.lt (fun e => hne e.symm)).trans h
theorem row_put {w : World} {B : Nat} {e : TypeId} {s n : Nat} {v : Value} {xs : List Value} (h : w.ownsRow B e s v n xs) {p : Addr} (hp : v.ownBlock ≠ some p.block) (u : Value) : (w.setCell p u).ownsRow B e s v n xs :=
  h.kept (row := some p.block) ⟨rfl, rfl, rfl, by simp [World.setCell], fun k _ hk => Below.heap_setCell w p u k (fun e => hk (by rw [e]))⟩ (.inr hp)
theorem acc_info : (Try.prog.info? 42).map (fun i => (i.zero, i.size, i.bytes)) = some (some (.agg #[.int .u8 0, .int .u32 0, .int .u8 0]), 3, 12) := by kernel_rfl
/-- Accesses as cells. -/
def accV (l : List (Nat × Nat)) : List Value := l.flatMap fun x => [.int .u8 x.1, .int .u32 x.2, .int .u8 0]
theorem accV_snoc (l : List (Nat × Nat)) (k a : Nat) : accV l ++ [.int .u8 (k : Nat), .int .u32 (a : Nat), .int .u8 0] = accV (l ++ [(k, a)]) := by simp [accV]
/-- The walker's cells. -/
def wkC (r : Rg) (sv lv : Value) (st : Bool) : Array Value :=
  #[.int .u16 r.A, .int .u16 r.X, .int .u16 r.Y, .int .u16 r.S, .int .u16 r.D, .int .u16 r.PC, .int .u8 r.B, .int .u8 r.K, .int .u8 r.P, .bool r.E, sv, lv, .bool st]
/-- A walker in block b; W0 is the world in which the bytes that it sees lay; B: from there on all is its own. -/
structure Wk (W0 : World) (B b : Nat) (s : Ws) (w : World) : Prop where
  ok : s.r.Ok
  cells : ∃ a c lv, Whole w b 50 (wkC s.r (.slice a s.n c) lv s.st) ∧ s.n ≤ c ∧ Row W0 a s.n s.f ∧ w.ownsRow B 42 3 lv s.l.length (accV s.l)
  here : B ≤ b
  bel : Below B W0 w
  base : W0.heap.size = B
/-- Boxes of other kinds stay. -/
def Keeps (b : Nat) (w w' : World) : Prop := ∀ x t cs, x ≠ b → t ≠ 42 → Whole w x t cs → Whole w' x t cs
theorem Keeps.refl (b : Nat) (w : World) : Keeps b w w := fun _ _ _ _ _ h => h
theorem Keeps.trans {b : Nat} {w w' w'' : World} (h : Keeps b w w') (k : Keeps b w' w'') : Keeps b w w'' := fun x t cs h1 h2 h3 => k x t cs h1 h2 (h x t cs h1 h2 h3)
theorem Keeps.below {b : Nat} {w w' : World} (h : Below w.heap.size w w') : Keeps b w w' := fun x t cs _ _ h3 => h3.below h h3.lt
theorem Keeps.alloc {b : Nat} {w w' : World} (h : Keeps b w w') (o : Obj) : Keeps b w (w'.alloc o) := h.trans (Keeps.below ((Below.refl _ _).alloc (Nat.le_refl _) o))
theorem Keeps.set {b : Nat} {w w' : World} (h : Keeps b w w') (i : Nat) (u : Value) : Keeps b w (w'.setCell ⟨b, i, none⟩ u) := h.trans fun x t cs h1 _ h3 => h3.away (p := ⟨b, i, none⟩) h1 u
theorem Keeps.grown {b : Nat} {w w' W : World} {v : Value} {n B : Nat} {xs : List Value} (h : Keeps b w w') (ho : w'.ownsRow B 42 3 v n xs) (hg : w'.grownBy W v.ownBlock) : Keeps b w W := h.trans fun x t cs h1 h2 h3 => h3.grown hg (own_apart ho h3 (fun e => h2 e.symm))
section
variable {W0 w w' : World} {B b : Nat} {s : Ws}
theorem Wk.lt (h : Wk W0 B b s w) : b < w.heap.size := let ⟨_, _, _, h, _⟩ := h.cells; h.lt
theorem Wk.below (h : Wk W0 B b s w) (hb : Below w.heap.size w w') : Wk W0 B b s w' := by
  obtain ⟨a, c, lv, h1, h2, h3, h4⟩ := h.cells
  refine ⟨h.ok, ⟨a, c, lv, h1.below hb h1.lt, h2, h3, ?_⟩, h.here, h.bel.trans (hb.mono (by have := h.bel.size; have := h.base; omega)), h.base⟩
  exact h4.kept (row := none) ⟨hb.os, hb.tape, hb.output, hb.size, fun k hk _ => hb.block k hk⟩ (by cases lv.ownBlock <;> simp)
theorem Wk.alloc (h : Wk W0 B b s w) (o : Obj) : Wk W0 B b s (w.alloc o) := h.below ((Below.refl _ _).alloc (Nat.le_refl _) o)
theorem Wk.drew (h : Wk W0 B b s w) : Wk W0 B b s w.drew := h.below (Below.drew (Below.refl _ _))
end
theorem run_acc (W : World) (ty : TypeId) (lv : Value) (l : List (Nat × Nat)) (k a X B : Nat) (ho : W.ownsRow B 42 3 lv l.length (accV l)) (hx : Whole W X 42 #[.int .u8 k, .int .u32 a, .int .u8 0]) (hl : l.length ≤ 100) (hB : B ≤ W.heap.size) :
    ∃ g cap W', (Builtin.append_ #[36, 36] ty #[lv, .slice (some ⟨X, 0, none⟩) 1 1]).run Try.prog W = .ok (.slice (some ⟨g, 0, none⟩) (l.length + 1) cap) W' ∧ W'.ownsRow B 42 3 (.slice (some ⟨g, 0, none⟩) (l.length + 1) cap) (l.length + 1) (accV (l ++ [(k, a)])) ∧ W.grownBy W' lv.ownBlock ∧ g < W'.heap.size := by
  obtain ⟨i0, hi, hz0, hz1, hz2⟩ := info_parts acc_info
  obtain ⟨g, cap, W', h1, h2, h3, _, h5⟩ := run_append_lies (P := Try.prog) W 36 ty B 42 i0 _ 3 12 Try.underlying36 hi hz0 hz1 hz2 rfl (by omega) lv l.length (accV l) ho ⟨X, 0, none⟩ 1 1 [.int .u8 k, .int .u32 a, .int .u8 0] rfl (World.news_of_block (cs := #[.int .u8 k, .int .u32 a, .int .u8 0]) (t := 42) (fr := (0, 0)) hx) (by simp [Value.oneCell'])
    (by omega) (by unfold maxLen; omega) (by omega) hB _ rfl
  rw [accV_snoc] at h2
  exact ⟨g, cap, W', h1, h2, h3, h5⟩
/-- append where its run is known, as one step of a region that draws. -/
theorem step_append_ran {P : Program} {ops : Array Oper} {o : Oper} {a : Act} {w w' : World} {K : Act → World → Prop} {Q : Exit → Act → World → Prop} {E : Prop}
    (hgd : o.guard = none) (s x : Operand) (t : TypeId) (ho : o.op = .call { callee := .builtin .append, args := #[s, x], argTypes := #[t, t] })
    (v u v' : Value) (hs : a.eval s = v) (hx : a.eval x = u) (hr : (Builtin.append_ #[t, t] o.type #[v, u]).run P w = .ok v' w') (hK : K (a.put o.dst v') w') :
    if Region.wanted o (yielded ops a.tmps) = true then Oper.wp P o a w K Q else E := by
  have hw : Region.wanted o (yielded ops a.tmps) = true := by simp [Region.wanted, hgd]
  rw [if_pos hw]
  unfold Oper.wp
  simp [execOp, ho, resolve, invoke, builtin, hs, hx, hr, Result.andThen]
  exact hK
theorem put_any {W0 w : World} {B b : Nat} {s : Ws} (k a : Nat) (h : Wk W0 B b s w) (hl : s.l.length ≤ 100) :
    Calls Try.prog 36 #[.pointer (some ⟨b, 0, none⟩), .agg #[.int .u8 k, .int .u32 a, .int .u8 0]] w fun e w' => e = .returned (.tuple #[]) ∧ Wk W0 B b (s.put k a) w' ∧ Keeps b w w' := by
  have hW1 := h.alloc (.cells #[.int .u8 k, .int .u32 a, .int .u8 0] 42)
  have hK1 := (Keeps.refl b w).alloc (.cells #[.int .u8 k, .int .u32 a, .int .u8 0] 42)
  have hX := Whole.fresh w 42 #[.int .u8 k, .int .u32 a, .int .u8 0]
  have hlb := h.lt
  have hsz1 : (w.alloc (.cells #[.int .u8 k, .int .u32 a, .int .u8 0] 42)).heap.size = w.heap.size + 1 := by simp
  unfold Ws.put
  obtain ⟨r, n, f, l, st⟩ := s
  dsimp only at *
  obtain ⟨sa, sc, lv, hc, hnc, hR, ho⟩ := hW1.cells
  dsimp only at hc hnc hR ho
  have c11 := hc.cell 11
  have c12 := hc.cell 12
  have f11 := hc.free 11
  have x0 := hX.cell 0
  have x1 := hX.cell 1
  have x2 := hX.cell 2
  unfold wkC at c11 c12
  simp only [List.getElem?_toArray, List.getElem?_cons_zero, List.getElem?_cons_succ] at c11 c12 x0 x1 x2
  clear h
  cases st
  · have hfin : ∀ (W : World) (lv' : Value), Below B W0 W → Whole W b 50 (wkC r (.slice sa n sc) lv' false) → W.ownsRow B 42 3 lv' (l.length + 1) (accV (l ++ [(k, a)])) → Wk W0 B b ⟨r, n, f, l ++ [(k, a)], false⟩ W := fun W lv' h1 h2 h3 =>
      ⟨hW1.ok, ⟨sa, sc, lv', h2, hnc, hR, by simpa using h3⟩, hW1.here, h1, hW1.base⟩
    replace hfin := Lib.hid hfin
    have hbel := hW1.bel
    have hbase := hW1.base
    have hBb := hW1.here
    clear hW1 hnc hR
    go_enter Try.func36, Try.ntmps36
    go_upto_region 1 with (fail)
    generalize w.alloc (.cells #[.int .u8 k, .int .u32 a, .int .u8 0] 42) = W1 at *
    go_upto_region 2 with (fail)
    have d12 : W1.drew.cell? ⟨b, 12, none⟩ = some (.bool false) := c12
    have hwB : B ≤ W1.heap.size := by have := hbel.size; omega
    obtain ⟨gg, cap1, w1, hr, hown1, hgrow, hlt1⟩ := run_acc (W1.alloc (.cells #[.int .u8 k, .int .u32 a, .int .u8 0] 42)).drew 36 lv l k a (w.heap.size + 1) B ((ho.alloc _).drew) (by rw [← hsz1]; exact Whole.fresh W1 _ _) hl (by simp; omega)
    have hap := own_apart ((ho.alloc (.cells #[.int .u8 k, .int .u32 a, .int .u8 0] 42)).drew) ((hc.alloc (.cells #[.int .u8 k, .int .u32 a, .int .u8 0] 42)).drew) (by decide)
    have hc1 := ((hc.alloc (.cells #[.int .u8 k, .int .u32 a, .int .u8 0] 42)).drew).grown hgrow hap
    have g11 := hc1.cell 11
    have h11 := hc1.free 11
    have hc2 := hc1.put 11 (.slice (some ⟨gg, 0, none⟩) (l.length + 1) cap1)
    unfold wkC at g11 hc2
    simp only [List.getElem?_toArray, List.getElem?_cons_zero, List.getElem?_cons_succ] at g11
    have hB2 : Below B W0 (w1.setCell ⟨b, 11, none⟩ (.slice (some ⟨gg, 0, none⟩) (l.length + 1) cap1)) :=
      ((Below.drew (hbel.alloc hwB _)).grown hgrow (Nat.le_trans hwB (by simp)) (fun r hr => ((ho.alloc (.cells #[.int .u8 k, .int .u32 a, .int .u8 0] 42)).drew.lt r hr).1)).setCell (p := ⟨b, 11, none⟩) hBb _
    have ho2 := row_put hown1 (p := ⟨b, 11, none⟩) (own_apart hown1 hc1 (by decide)) (.slice (some ⟨gg, 0, none⟩) (l.length + 1) cap1)
    have hK2 := (((hK1.alloc (.cells #[.int .u8 k, .int .u32 a, .int .u8 0] 42)).trans (Keeps.below (Below.drew (Below.refl _ _)))).grown ((ho.alloc (.cells #[.int .u8 k, .int .u32 a, .int .u8 0] 42)).drew) hgrow).set 11 (.slice (some ⟨gg, 0, none⟩) (l.length + 1) cap1)
    have hlast := Lib.hid (And.intro (hfin.out _ _ hB2 hc2 ho2) hK2)
    clear hB2 hc2 ho2 hK2 hc1 hap hfin hown1 hgrow hK1 hX ho hc hbel
    go_region_law (refine step_append_ran rfl _ _ 36 rfl _ _ _ rfl rfl hr ?_)
    all_goals
      go_wp2_with fail
      go_end0
      exact ⟨rfl, hlast.out⟩
  · clear hc ho x0 x1 x2 f11 hX
    go_enter Try.func36, Try.ntmps36
    go_upto_region 1 with (fail)
    generalize w.alloc (.cells #[.int .u8 k, .int .u32 a, .int .u8 0] 42) = W1 at *
    go_wp2_with fail
    go_end0
    exact ⟨rfl, hW1, hK1⟩
end Go.Proofs.Ytkbieadebfpjdaa
