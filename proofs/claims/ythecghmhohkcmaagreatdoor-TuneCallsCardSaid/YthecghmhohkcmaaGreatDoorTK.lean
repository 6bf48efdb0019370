/-
  A runner of the sound processor in memory: what it holds; one access more; what a method that may give up meets.
-/
import Derived.Test.YthecghmhohkcmaaGreatDoorTPg
import Derived.Deep.RegionLaw
import Derived.Deep.AppendLies
import Derived.Deep.DeepCutAuto
import Derived.OwnWalk
namespace Go.Proofs.YthecghmhohkcmaaGreatDoor
open Go.RowKit Go.Shelf
set_option maxRecDepth 100000
set_option maxHeartbeats 1000000
set_option linter.unusedVariables false

theorem own_apart {w : World} {B : Nat} {e t : TypeId} {s n g : Nat} {v : Value} {xs : List Value} {cs : Array Value} (h : w.ownsRow B e s v n xs) (hg : Whole w g t cs) (hne : e ≠ t) : v.ownBlock ≠ some g := by
  intro he
  rcases h.2 with ⟨rfl, _⟩ | ⟨g', cap, cur, rfl, _, hh, _⟩
  · simp [Value.ownBlock] at he
  · have : g' = g := by simpa [Value.ownBlock] using he
    subst this
    rw [show w.heap[g']? = some (.cells cs t (0, 0)) from hg] at hh
    injection hh with hh
    injection hh with _ h2
    exact hne h2.symm
theorem Whole.grown {w w' : World} {g : Nat} {t : TypeId} {cs : Array Value} {row : Option Nat} (h : Whole w g t cs) (hg : w.grownBy w' row) (hne : row ≠ some g) : Whole w' g t cs :=
  (hg.block g h.lt (fun e => hne e.symm)).trans h
theorem row_put {w : World} {B : Nat} {e : TypeId} {s n : Nat} {v : Value} {xs : List Value} (h : w.ownsRow B e s v n xs) {p : Addr} (hp : v.ownBlock ≠ some p.block) (u : Value) : (w.setCell p u).ownsRow B e s v n xs :=
  h.kept (row := some p.block) ⟨rfl, rfl, rfl, by simp [World.setCell], fun k _ hk => Below.heap_setCell w p u k (fun e => hk (by rw [e]))⟩ (.inr hp)
theorem row_slice {w : World} {B : Nat} {e : TypeId} {s n : Nat} {v : Value} {xs : List Value} (h : w.ownsRow B e s v n xs) : ∃ a c, v = .slice a n c := by
  obtain ⟨hl, ⟨rfl, h0⟩ | ⟨g, cap, cur, rfl, _⟩⟩ := h
  · obtain rfl : n = 0 := by omega
    exact ⟨none, 0, rfl⟩
  · exact ⟨_, _, rfl⟩
theorem whole_apart {w : World} {b g : Nat} {t u : TypeId} {xs ys : Array Value} (h : Whole w b t xs) (k : Whole w g u ys) (hne : t ≠ u) : b ≠ g := by
  intro e
  subst e
  have := Option.some.inj (h.symm.trans k)
  injection this with _ h2
  exact hne h2
theorem acc_info : (Tryz.prog.info? 42).map (fun i => (i.zero, i.size, i.bytes)) = some (some (.agg #[.int .u8 0, .int .u32 0, .int .u8 0]), 3, 12) := by kernel_rfl
/-- Accesses as cells. -/
def accX (l : List Ac) : List Value := l.flatMap fun x => [.int .u8 x.1, .int .u32 x.2.1, .int .u8 x.2.2]
theorem accX_snoc (l : List Ac) (k a v : Nat) : accX l ++ [.int .u8 (k : Nat), .int .u32 (a : Nat), .int .u8 (v : Nat)] = accX (l ++ [(k, a, v)]) := by simp [accX]
theorem xrun_acc (W : World) (ty : TypeId) (lv : Value) (l : List Ac) (k a v X B : Nat) (ho : W.ownsRow B 42 3 lv l.length (accX l)) (hx : Whole W X 42 #[.int .u8 k, .int .u32 a, .int .u8 v]) (hl : l.length ≤ 100) (hB : B ≤ W.heap.size) :
    ∃ g cap W', (Builtin.append_ #[26, 26] ty #[lv, .slice (some ⟨X, 0, none⟩) 1 1]).run Tryz.prog W = .ok (.slice (some ⟨g, 0, none⟩) (l.length + 1) cap) W' ∧ W'.ownsRow B 42 3 (.slice (some ⟨g, 0, none⟩) (l.length + 1) cap) (l.length + 1) (accX (l ++ [(k, a, v)])) ∧ W.grownBy W' lv.ownBlock ∧ g < W'.heap.size := by
  obtain ⟨i0, hi, hz0, hz1, hz2⟩ := info_parts acc_info
  obtain ⟨g, cap, W', h1, h2, h3, _, h5⟩ := run_append_lies (P := Tryz.prog) W 26 ty B 42 i0 _ 3 12 Tryz.underlying26 hi hz0 hz1 hz2 rfl (by omega) lv l.length (accX l) ho ⟨X, 0, none⟩ 1 1 [.int .u8 k, .int .u32 a, .int .u8 v] rfl (World.news_of_block (cs := #[.int .u8 k, .int .u32 a, .int .u8 v]) (t := 42) (fr := (0, 0)) hx) (by simp [Value.oneCell'])
    (by omega) (by unfold maxLen; omega) (by omega) hB _ rfl
  rw [accX_snoc] at h2
  exact ⟨g, cap, W', h1, h2, h3, h5⟩
theorem wpList_append_ran {ops : Array Oper} {rest : List Oper} {o : Oper} {a : Act} {Q : Exit → Act → World → Prop} {P : Program} {w : World} (hgd : o.guard = none) (s x : Operand) (t : TypeId)
    (ho : o.op = .call { callee := .builtin .append, args := #[s, x], argTypes := #[t, t] }) (v u r : Value) (w' : World) (hs : a.eval s = v) (hx : a.eval x = u) (hr : (Builtin.append_ #[t, t] o.type #[v, u]).run P w = .ok r w')
    (h : wpList P ops Q rest (a.put o.dst r) w') : wpList P ops Q (o :: rest) a w :=
  wpList_plain hgd fun _ hK => by
    unfold Oper.wp
    simp [execOp, ho, resolve, invoke, builtin, hs, hx, hr, Result.andThen]
    exact hK _ _ h
/-- What an instruction gives up with that lacks a byte. -/
def lackV : Value := .iface 60 (.agg #[])
def lackE : Ending := .panicked [{ v := lackV, recovered := false }]
/-- What stays while an instruction is carried out: its code, its operands. -/
structure Zs where
  n0 : Value
  n1 : Value
  n2 : Value
  n3 : Value
  n4 : Value
  d0 : Value
  d1 : Value
  d2 : Value
  d3 : Value
  o0 : Value
  o1 : Value
  o2 : Value
  o3 : Value
/-- Where a runner is: the world ahead of it, from where on all is its own, its block, the variable of what answers; a memory, if that answers. -/
structure Cx where
  W0 : World
  B : Nat
  b : Nat
  x : Nat
  mem : Option (Nat → Nat)
def ansV (K : Cx) : Value := if K.mem.isSome then .func (.func 27) #[] #[.pointer (some ⟨K.x, 0, none⟩)] else .func (.func 24) #[] #[.pointer (some ⟨K.x, 0, none⟩)]
/-- The runner's cells. -/
def rnT (r : Rp) (av lv : Value) (z : Zs) : Array Value :=
  #[.int .u8 r.A, .int .u8 r.X, .int .u8 r.Y, .int .u8 r.S, .int .u8 r.P, .int .u16 r.Pc, .bool r.H, av, lv, z.n0, z.n1, z.n2, z.n3, z.n4, z.d0, z.d1, z.d2, z.d3, z.o0, z.o1, z.o2, z.o3]
/-- What the answering variable holds. -/
def Fits (mem : Option (Nat → Nat)) (seen : List Nat) (n : Nat) (f : Nat → Nat) : Prop :=
  match mem with
  | none => n = seen.length ∧ ∀ i, i < n → f i = seen.getD i 0
  | some g => n = 65536 ∧ f = g
structure Tk (K : Cx) (z : Zs) (s : Ts) (w : World) : Prop where
  ok : s.r.Ok
  qok : s.q.Ok
  mem : s.q.mem = K.mem
  cells : ∃ lv, Whole w K.b 68 (rnT s.r (ansV K) lv z) ∧ w.ownsRow K.B 42 3 lv s.l.length (accX s.l)
  box : ∃ a n c f, Whole w K.x 25 #[.slice a n c] ∧ n ≤ c ∧ Row K.W0 a n f ∧ Fits K.mem s.q.seen n f
  here : K.B ≤ K.b
  hex : K.B ≤ K.x
  bel : Below K.B K.W0 w
  base : K.W0.heap.size = K.B
/-- Boxes of other kinds stay. -/
structure Kp (K : Cx) (w w' : World) : Prop where
  size : w.heap.size ≤ w'.heap.size
  keep : ∀ x t cs, x ≠ K.b → x ≠ K.x → t ≠ 42 → Whole w x t cs → Whole w' x t cs
section
variable {K : Cx} {z : Zs} {s : Ts} {w w' w'' : World}
theorem Kp.refl (K : Cx) (w : World) : Kp K w w := ⟨Nat.le_refl _, fun _ _ _ _ _ _ h => h⟩
theorem Kp.trans (h : Kp K w w') (k : Kp K w' w'') : Kp K w w'' := ⟨Nat.le_trans h.size k.size, fun x t cs h1 h2 h3 h4 => k.keep x t cs h1 h2 h3 (h.keep x t cs h1 h2 h3 h4)⟩
theorem Kp.below (h : Below w.heap.size w w') : Kp K w w' := ⟨h.size, fun x t cs _ _ _ h4 => h4.below h h4.lt⟩
theorem Kp.alloc (h : Kp K w w') (o : Obj) : Kp K w (w'.alloc o) := h.trans (Kp.below ((Below.refl _ _).alloc (Nat.le_refl _) o))
theorem Kp.drew (h : Kp K w w') : Kp K w w'.drew := h.trans (Kp.below (Below.drew (Below.refl _ _)))
theorem Kp.set (h : Kp K w w') (i : Nat) (u : Value) : Kp K w (w'.setCell ⟨K.b, i, none⟩ u) := h.trans ⟨by simp [World.setCell], fun x t cs h1 _ _ h3 => h3.away (p := ⟨K.b, i, none⟩) h1 u⟩
theorem Kp.setx (h : Kp K w w') (i : Nat) (u : Value) : Kp K w (w'.setCell ⟨K.x, i, none⟩ u) := h.trans ⟨by simp [World.setCell], fun x t cs _ h1 _ h3 => h3.away (p := ⟨K.x, i, none⟩) h1 u⟩
theorem Kp.grown {W : World} {v : Value} {n B : Nat} {xs : List Value} (h : Kp K w w') (ho : w'.ownsRow B 42 3 v n xs) (hg : w'.grownBy W v.ownBlock) : Kp K w W := h.trans ⟨hg.size, fun x t cs h1 _ h2 h3 => h3.grown hg (own_apart ho h3 (fun e => h2 e.symm))⟩
theorem Tk.lt (h : Tk K z s w) : K.b < w.heap.size := let ⟨_, h, _⟩ := h.cells; h.lt
theorem Tk.ltx (h : Tk K z s w) : K.x < w.heap.size := let ⟨_, _, _, _, h, _⟩ := h.box; h.lt
theorem Tk.apart (h : Tk K z s w) : K.b ≠ K.x := let ⟨_, h1, _⟩ := h.cells; let ⟨_, _, _, _, h2, _⟩ := h.box; whole_apart h1 h2 (by decide)
theorem Tk.below (h : Tk K z s w) (hb : Below w.heap.size w w') : Tk K z s w' := by
  obtain ⟨lv, h1, h4⟩ := h.cells
  obtain ⟨a, n, c, f, h5, h6⟩ := h.box
  refine ⟨h.ok, h.qok, h.mem, ⟨lv, h1.below hb h1.lt, ?_⟩, ⟨a, n, c, f, h5.below hb h5.lt, h6⟩, h.here, h.hex, h.bel.trans (hb.mono (by have := h.bel.size; have := h.base; omega)), h.base⟩
  exact h4.kept (row := none) ⟨hb.os, hb.tape, hb.output, hb.size, fun k hk _ => hb.block k hk⟩ (by cases lv.ownBlock <;> simp)
theorem Tk.alloc (h : Tk K z s w) (o : Obj) : Tk K z s (w.alloc o) := h.below ((Below.refl _ _).alloc (Nat.le_refl _) o)
theorem Tk.drew (h : Tk K z s w) : Tk K z s w.drew := h.below (Below.drew (Below.refl _ _))
/-- The runner's cells are others. -/
theorem Tk.turn (h : Tk K z s w) (i : Nat) (v : Value) (r' : Rp) (z' : Zs) (hok : r'.Ok) (he : ∀ lv, (rnT s.r (ansV K) lv z).setIfInBounds i v = rnT r' (ansV K) lv z') : Tk K z' { s with r := r' } (w.setCell ⟨K.b, i, none⟩ v) := by
  obtain ⟨lv, h1, h4⟩ := h.cells
  obtain ⟨a, n, c, f, h5, h6⟩ := h.box
  exact ⟨hok, h.qok, h.mem, ⟨lv, by have := h1.put i v; rw [he] at this; exact this, row_put h4 (p := ⟨K.b, i, none⟩) (own_apart h4 h1 (by decide)) _⟩, ⟨a, n, c, f, h5.away (p := ⟨K.b, i, none⟩) (Ne.symm h.apart) v, h6⟩, h.here, h.hex, h.bel.setCell (p := ⟨K.b, i, none⟩) h.here _, h.base⟩
theorem Tk.toA (h : Tk K z s w) (v : Nat) (hv : v < 256) : Tk K z { s with r := { s.r with A := v } } (w.setCell ⟨K.b, 0, none⟩ (.int .u8 v)) := h.turn 0 _ _ _ ⟨hv, h.ok.X, h.ok.Y, h.ok.S, h.ok.P, h.ok.Pc⟩ fun _ => rfl
theorem Tk.toX (h : Tk K z s w) (v : Nat) (hv : v < 256) : Tk K z { s with r := { s.r with X := v } } (w.setCell ⟨K.b, 1, none⟩ (.int .u8 v)) := h.turn 1 _ _ _ ⟨h.ok.A, hv, h.ok.Y, h.ok.S, h.ok.P, h.ok.Pc⟩ fun _ => rfl
theorem Tk.toY (h : Tk K z s w) (v : Nat) (hv : v < 256) : Tk K z { s with r := { s.r with Y := v } } (w.setCell ⟨K.b, 2, none⟩ (.int .u8 v)) := h.turn 2 _ _ _ ⟨h.ok.A, h.ok.X, hv, h.ok.S, h.ok.P, h.ok.Pc⟩ fun _ => rfl
theorem Tk.toS (h : Tk K z s w) (v : Nat) (hv : v < 256) : Tk K z { s with r := { s.r with S := v } } (w.setCell ⟨K.b, 3, none⟩ (.int .u8 v)) := h.turn 3 _ _ _ ⟨h.ok.A, h.ok.X, h.ok.Y, hv, h.ok.P, h.ok.Pc⟩ fun _ => rfl
theorem Tk.toP (h : Tk K z s w) (v : Nat) (hv : v < 256) : Tk K z { s with r := { s.r with P := v } } (w.setCell ⟨K.b, 4, none⟩ (.int .u8 v)) := h.turn 4 _ _ _ ⟨h.ok.A, h.ok.X, h.ok.Y, h.ok.S, hv, h.ok.Pc⟩ fun _ => rfl
theorem Tk.toPc (h : Tk K z s w) (v : Nat) (hv : v < 65536) : Tk K z { s with r := { s.r with Pc := v } } (w.setCell ⟨K.b, 5, none⟩ (.int .u16 v)) := h.turn 5 _ _ _ ⟨h.ok.A, h.ok.X, h.ok.Y, h.ok.S, h.ok.P, hv⟩ fun _ => rfl
theorem Tk.toH (h : Tk K z s w) (v : Bool) : Tk K z { s with r := { s.r with H := v } } (w.setCell ⟨K.b, 6, none⟩ (.bool v)) := h.turn 6 _ _ _ ⟨h.ok.A, h.ok.X, h.ok.Y, h.ok.S, h.ok.P, h.ok.Pc⟩ fun _ => rfl
/-- Which cells a runner has. -/
theorem Tk.look (h : Tk K z s w) : (w.cell? ⟨K.b, 0, none⟩ = some (.int .u8 s.r.A) ∧ w.cell? ⟨K.b, 1, none⟩ = some (.int .u8 s.r.X) ∧ w.cell? ⟨K.b, 2, none⟩ = some (.int .u8 s.r.Y) ∧ w.cell? ⟨K.b, 3, none⟩ = some (.int .u8 s.r.S) ∧ w.cell? ⟨K.b, 4, none⟩ = some (.int .u8 s.r.P)) ∧ (w.cell? ⟨K.b, 5, none⟩ = some (.int .u16 s.r.Pc) ∧ w.cell? ⟨K.b, 6, none⟩ = some (.bool s.r.H) ∧ w.cell? ⟨K.b, 7, none⟩ = some (ansV K)) ∧ ∀ i, w.frozen? ⟨K.b, i, none⟩ = false := by
  obtain ⟨lv, h1, h4⟩ := h.cells
  rw [h1.cell, h1.cell, h1.cell, h1.cell, h1.cell, h1.cell, h1.cell, h1.cell]
  exact ⟨⟨rfl, rfl, rfl, rfl, rfl⟩, ⟨rfl, rfl, rfl⟩, fun i => h1.free i⟩
theorem Tk.lookN (h : Tk K z s w) : w.cell? ⟨K.b, 9, none⟩ = some z.n0 ∧ w.cell? ⟨K.b, 10, none⟩ = some z.n1 ∧ w.cell? ⟨K.b, 11, none⟩ = some z.n2 ∧ w.cell? ⟨K.b, 12, none⟩ = some z.n3 ∧ w.cell? ⟨K.b, 13, none⟩ = some z.n4 := by
  obtain ⟨lv, h1, h4⟩ := h.cells
  rw [h1.cell, h1.cell, h1.cell, h1.cell, h1.cell]
  exact ⟨rfl, rfl, rfl, rfl, rfl⟩
theorem Tk.lookD (h : Tk K z s w) : w.cell? ⟨K.b, 14, none⟩ = some z.d0 ∧ w.cell? ⟨K.b, 15, none⟩ = some z.d1 ∧ w.cell? ⟨K.b, 16, none⟩ = some z.d2 ∧ w.cell? ⟨K.b, 17, none⟩ = some z.d3 := by
  obtain ⟨lv, h1, h4⟩ := h.cells
  rw [h1.cell, h1.cell, h1.cell, h1.cell]
  exact ⟨rfl, rfl, rfl, rfl⟩
theorem Tk.lookO (h : Tk K z s w) : w.cell? ⟨K.b, 18, none⟩ = some z.o0 ∧ w.cell? ⟨K.b, 19, none⟩ = some z.o1 ∧ w.cell? ⟨K.b, 20, none⟩ = some z.o2 ∧ w.cell? ⟨K.b, 21, none⟩ = some z.o3 := by
  obtain ⟨lv, h1, h4⟩ := h.cells
  rw [h1.cell, h1.cell, h1.cell, h1.cell]
  exact ⟨rfl, rfl, rfl, rfl⟩
theorem Tk.list (h : Tk K z s w) : ∃ a c, w.cell? ⟨K.b, 8, none⟩ = some (.slice a s.l.length c) := by
  obtain ⟨lv, h1, h4⟩ := h.cells
  obtain ⟨a, c, rfl⟩ := row_slice h4
  exact ⟨a, c, by rw [h1.cell]; rfl⟩
/-- One access more is laid behind the others. -/
theorem Tk.push (h : Tk K z s w) (k a v : Nat) (hl : s.l.length ≤ 100) : ∃ la lc gg cap w1, w.cell? ⟨K.b, 8, none⟩ = some (.slice la s.l.length lc) ∧
    (Builtin.append_ #[26, 26] 26 #[.slice la s.l.length lc, .slice (some ⟨w.heap.size, 0, none⟩) 1 1]).run Tryz.prog (w.alloc (.cells #[.int .u8 k, .int .u32 a, .int .u8 v] 42)) = .ok (.slice (some ⟨gg, 0, none⟩) (s.l.length + 1) cap) w1 ∧
    (∃ u, w1.cell? ⟨K.b, 8, none⟩ = some u) ∧ w1.frozen? ⟨K.b, 8, none⟩ = false ∧ Hid (Tk K z { s with l := s.l ++ [(k, a, v)] } (w1.setCell ⟨K.b, 8, none⟩ (.slice (some ⟨gg, 0, none⟩) (s.l.length + 1) cap)) ∧ Kp K w (w1.setCell ⟨K.b, 8, none⟩ (.slice (some ⟨gg, 0, none⟩) (s.l.length + 1) cap))) := by
  obtain ⟨lv, hc, ho⟩ := h.cells
  obtain ⟨ba, bn, bc, bf, hb1, hb2⟩ := h.box
  obtain ⟨la, lc, rfl⟩ := row_slice ho
  have hwB : K.B ≤ w.heap.size := by have := h.bel.size; have := h.base; omega
  obtain ⟨gg, cap1, w1, hr, hown1, hgrow, hlt1⟩ := xrun_acc (w.alloc (.cells #[.int .u8 k, .int .u32 a, .int .u8 v] 42)) 26 (.slice la s.l.length lc) s.l k a v w.heap.size K.B (ho.alloc _) (Whole.fresh w _ _) hl (by simp; omega)
  have hoA := ho.alloc (.cells #[.int .u8 k, .int .u32 a, .int .u8 v] 42)
  have hap := own_apart hoA (hc.alloc (.cells #[.int .u8 k, .int .u32 a, .int .u8 v] 42)) (by decide)
  have hapb := own_apart hoA (hb1.alloc (.cells #[.int .u8 k, .int .u32 a, .int .u8 v] 42)) (by decide)
  have hc1 := (hc.alloc (.cells #[.int .u8 k, .int .u32 a, .int .u8 v] 42)).grown hgrow hap
  have hb3 := ((hb1.alloc (.cells #[.int .u8 k, .int .u32 a, .int .u8 v] 42)).grown hgrow hapb).away (p := ⟨K.b, 8, none⟩) (Ne.symm h.apart) (.slice (some ⟨gg, 0, none⟩) (s.l.length + 1) cap1)
  have hc2 := hc1.put 8 (.slice (some ⟨gg, 0, none⟩) (s.l.length + 1) cap1)
  have hB2 : Below K.B K.W0 (w1.setCell ⟨K.b, 8, none⟩ (.slice (some ⟨gg, 0, none⟩) (s.l.length + 1) cap1)) :=
    ((h.bel.alloc hwB _).grown hgrow (Nat.le_trans hwB (by simp)) (fun r hr => (hoA.lt r hr).1)).setCell (p := ⟨K.b, 8, none⟩) h.here _
  have ho2 := row_put hown1 (p := ⟨K.b, 8, none⟩) (own_apart hown1 hc1 (by decide)) (.slice (some ⟨gg, 0, none⟩) (s.l.length + 1) cap1)
  have hK2 := (((Kp.refl K w).alloc (.cells #[.int .u8 k, .int .u32 a, .int .u8 v] 42)).grown hoA hgrow).set 8 (.slice (some ⟨gg, 0, none⟩) (s.l.length + 1) cap1)
  refine ⟨la, lc, gg, cap1, w1, ?_, hr, ⟨_, by rw [hc1.cell]; rfl⟩, hc1.free 8, Lib.hid ⟨⟨h.ok, h.qok, h.mem, ⟨.slice (some ⟨gg, 0, none⟩) (s.l.length + 1) cap1, hc2, ?_⟩, ⟨ba, bn, bc, bf, hb3, hb2⟩, h.here, h.hex, hB2, h.base⟩, hK2⟩⟩
  · rw [hc.cell]; rfl
  · have e : (s.l ++ [(k, a, v)]).length = s.l.length + 1 := by simp
    rw [e]
    exact ho2
end
/-- What a call of a method comes to. -/
def Post {α : Type} (K : Cx) (z : Zs) (s : Ts) (w : World) (m : M α) (V : α → Value) (R : α → Prop) (c : Nat) (e : Ending) (w' : World) : Prop :=
  ∃ s', Tk K z s' w' ∧ Kp K w w' ∧ s'.l.length ≤ s.l.length + c ∧ ((∃ a, Ran m s a s' ∧ R a ∧ e = .returned (V a)) ∨ (Gave m s s' ∧ e = lackE))
section
variable {α β : Type} {K : Cx} {z : Zs} {s s1 s' : Ts} {w w1 w' : World} {m : M α} {k : α → M β} {V : β → Value} {R : β → Prop} {c d n : Nat} {a : α} {e : Ending}
/-- Behind a part that went through. -/
theorem Post.after (h : Ran m s a s1) (hK : Kp K w w1) (hc : s1.l.length ≤ s.l.length + c) (h2 : Post K z s1 w1 (k a) V R d e w') (hd : c + d ≤ n) : Post K z s w (M.bind m k) V R n e w' := by
  obtain ⟨s', t, kp, l, h3⟩ := h2
  refine ⟨s', t, hK.trans kp, by omega, ?_⟩
  rcases h3 with ⟨b, hr, hR, he⟩ | ⟨hg, he⟩
  · exact .inl ⟨b, h.bind hr, hR, he⟩
  · exact .inr ⟨Gave.then h hg, he⟩
theorem Post.gave (h : Gave m s s1) (t : Tk K z s1 w1) (hK : Kp K w w1) (hc : s1.l.length ≤ s.l.length + n) : Post K z s w (M.bind m k) V R n lackE w1 := ⟨s1, t, hK, hc, .inr ⟨h.bind, rfl⟩⟩
theorem Post.done {b : β} {m : M β} (h : Ran m s b s1) (t : Tk K z s1 w1) (hK : Kp K w w1) (hR : R b) (hc : s1.l.length ≤ s.l.length + n) : Post K z s w m V R n (.returned (V b)) w1 := ⟨s1, t, hK, hc, .inl ⟨b, h, hR, rfl⟩⟩
theorem Post.get {k : Rp → M β} (h : Post K z s w (k s.r) V R n e w') : Post K z s w (M.get k) V R n e w' := h
/-- The post under another name. -/
theorem post_name (Q : Ending → World → Prop) : ∃ P : Ending → World → Prop, Q = P ∧ ∀ e w', Q e w' → P e w' := ⟨Q, rfl, fun _ _ h => h⟩
end
end Go.Proofs.YthecghmhohkcmaaGreatDoor
