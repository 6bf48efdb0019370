/-
  The document's plan in memory: one access more; reads, writes.
-/
import Derived.Test.YtnacdaodjgdnnaaGreatXTurnA
import Derived.StillTailTactics
import Derived.BigQuiet
namespace Go.Proofs.YtnacdaodjgdnnaaGreat
open Go.RowKit Go.Shelf
set_option maxRecDepth 100000
set_option maxHeartbeats 1000000
set_option linter.unusedVariables false

/-- A plan's cells. -/
def plC (r : Rg) (sv lv : Value) (c : Nat) : Array Value :=
  #[.int .u16 r.A, .int .u16 r.X, .int .u16 r.Y, .int .u16 r.S, .int .u16 r.D, .int .u16 r.PC, .int .u8 r.B, .int .u8 r.K, .int .u8 r.P, .bool r.E, sv, lv, .int .i64 c]
/-- A plan in block b. -/
structure Pk (W0 : World) (B b : Nat) (s : Ds) (w : World) : Prop where
  ok : s.r.Ok
  cells : ∃ a c lv, Whole w b 110 (plC s.r (.slice a s.n c) lv s.c) ∧ s.n ≤ c ∧ Row W0 a s.n s.f ∧ w.ownsRow B 35 3 lv s.l.length (accX s.l)
  here : B ≤ b
  bel : Below B W0 w
  base : W0.heap.size = B
  cnt : s.c ≤ s.l.length
section
variable {W0 w w' : World} {B b : Nat} {s : Ds}
theorem Pk.lt (h : Pk W0 B b s w) : b < w.heap.size := let ⟨_, _, _, h, _⟩ := h.cells; h.lt
theorem Pk.below (h : Pk W0 B b s w) (hb : Below w.heap.size w w') : Pk W0 B b s w' := by
  obtain ⟨a, c, lv, h1, h2, h3, h4⟩ := h.cells
  refine ⟨h.ok, ⟨a, c, lv, h1.below hb h1.lt, h2, h3, ?_⟩, h.here, h.bel.trans (hb.mono (by have := h.bel.size; have := h.base; omega)), h.base, h.cnt⟩
  exact h4.kept (row := none) ⟨hb.os, hb.tape, hb.output, hb.size, fun k hk _ => hb.block k hk⟩ (by cases lv.ownBlock <;> simp)
theorem Pk.alloc (h : Pk W0 B b s w) (o : Obj) : Pk W0 B b s (w.alloc o) := h.below ((Below.refl _ _).alloc (Nat.le_refl _) o)
theorem Pk.drew (h : Pk W0 B b s w) : Pk W0 B b s w.drew := h.below (Below.drew (Below.refl _ _))
/-- One register turned. -/
theorem Pk.reg (h : Pk W0 B b s w) (i : Nat) (v : Value) (r' : Rg) (hok : r'.Ok) (he : ∀ sv lv, (plC s.r sv lv s.c).setIfInBounds i v = plC r' sv lv s.c) :
    Pk W0 B b { s with r := r' } (w.setCell ⟨b, i, none⟩ v) := by
  obtain ⟨a, c, lv, h1, h2, h3, h4⟩ := h.cells
  exact ⟨hok, ⟨a, c, lv, by have := h1.put i v; rw [he] at this; exact this, h2, h3, row_put h4 (p := ⟨b, i, none⟩) (own_apart h4 h1 (by decide)) _⟩, h.here, h.bel.setCell (p := ⟨b, i, none⟩) h.here _, h.base, h.cnt⟩
/-- Which cells a plan has. -/
theorem Pk.look (h : Pk W0 B b s w) : (w.cell? ⟨b, 0, none⟩ = some (.int .u16 s.r.A) ∧ w.cell? ⟨b, 1, none⟩ = some (.int .u16 s.r.X) ∧ w.cell? ⟨b, 2, none⟩ = some (.int .u16 s.r.Y) ∧ w.cell? ⟨b, 3, none⟩ = some (.int .u16 s.r.S) ∧ w.cell? ⟨b, 4, none⟩ = some (.int .u16 s.r.D)) ∧ (w.cell? ⟨b, 5, none⟩ = some (.int .u16 s.r.PC) ∧ w.cell? ⟨b, 6, none⟩ = some (.int .u8 s.r.B) ∧ w.cell? ⟨b, 7, none⟩ = some (.int .u8 s.r.K) ∧ w.cell? ⟨b, 8, none⟩ = some (.int .u8 s.r.P) ∧ w.cell? ⟨b, 9, none⟩ = some (.bool s.r.E)) ∧ ∀ i, w.frozen? ⟨b, i, none⟩ = false := by
  obtain ⟨a, c, lv, h1, h2, h3, h4⟩ := h.cells
  rw [h1.cell, h1.cell, h1.cell, h1.cell, h1.cell, h1.cell, h1.cell, h1.cell, h1.cell, h1.cell]
  exact ⟨⟨rfl, rfl, rfl, rfl, rfl⟩, ⟨rfl, rfl, rfl, rfl, rfl⟩, fun i => h1.free i⟩
/-- One access more is laid behind the others. -/
theorem Pk.push (h : Pk W0 B b s w) (k a v : Nat) (hl : s.l.length ≤ 100) : ∃ la lc gg cap w1, w.cell? ⟨b, 11, none⟩ = some (.slice la s.l.length lc) ∧
    (Builtin.append_ #[27, 27] 27 #[.slice la s.l.length lc, .slice (some ⟨w.heap.size, 0, none⟩) 1 1]).run Tryz.prog (w.alloc (.cells #[.int .u8 k, .int .u32 a, .int .u8 v] 35)) = .ok (.slice (some ⟨gg, 0, none⟩) (s.l.length + 1) cap) w1 ∧
    (∃ u, w1.cell? ⟨b, 11, none⟩ = some u) ∧ w1.frozen? ⟨b, 11, none⟩ = false ∧ Hid (Pk W0 B b (s.put k a v) (w1.setCell ⟨b, 11, none⟩ (.slice (some ⟨gg, 0, none⟩) (s.l.length + 1) cap)) ∧ Keeps b w (w1.setCell ⟨b, 11, none⟩ (.slice (some ⟨gg, 0, none⟩) (s.l.length + 1) cap))) := by
  obtain ⟨sa, c, lv, hc, hnc, hR, ho⟩ := h.cells
  obtain ⟨la, lc, rfl⟩ := row_slice ho
  have hwB : B ≤ w.heap.size := by have := h.bel.size; have := h.base; omega
  obtain ⟨gg, cap1, w1, hr, hown1, hgrow, hlt1⟩ := xrun_acc (w.alloc (.cells #[.int .u8 k, .int .u32 a, .int .u8 v] 35)) 27 (.slice la s.l.length lc) s.l k a v w.heap.size B (ho.alloc _) (Whole.fresh w _ _) hl (by simp; omega)
  have hap := own_apart (ho.alloc (.cells #[.int .u8 k, .int .u32 a, .int .u8 v] 35)) (hc.alloc (.cells #[.int .u8 k, .int .u32 a, .int .u8 v] 35)) (by decide)
  have hc1 := (hc.alloc (.cells #[.int .u8 k, .int .u32 a, .int .u8 v] 35)).grown hgrow hap
  have hc2 := hc1.put 11 (.slice (some ⟨gg, 0, none⟩) (s.l.length + 1) cap1)
  have hB2 : Below B W0 (w1.setCell ⟨b, 11, none⟩ (.slice (some ⟨gg, 0, none⟩) (s.l.length + 1) cap1)) :=
    ((h.bel.alloc hwB _).grown hgrow (Nat.le_trans hwB (by simp)) (fun r hr => ((ho.alloc (.cells #[.int .u8 k, .int .u32 a, .int .u8 v] 35)).lt r hr).1)).setCell (p := ⟨b, 11, none⟩) h.here _
  have ho2 := row_put hown1 (p := ⟨b, 11, none⟩) (own_apart hown1 hc1 (by decide)) (.slice (some ⟨gg, 0, none⟩) (s.l.length + 1) cap1)
  have hK2 := (((Keeps.refl b w).alloc (.cells #[.int .u8 k, .int .u32 a, .int .u8 v] 35)).grown (ho.alloc (.cells #[.int .u8 k, .int .u32 a, .int .u8 v] 35)) hgrow).set 11 (.slice (some ⟨gg, 0, none⟩) (s.l.length + 1) cap1)
  refine ⟨la, lc, gg, cap1, w1, ?_, hr, ⟨_, by rw [hc1.cell]; rfl⟩, hc1.free 11, Lib.hid ⟨⟨h.ok, ⟨sa, c, .slice (some ⟨gg, 0, none⟩) (s.l.length + 1) cap1, hc2, hnc, hR, ?_⟩, h.here, hB2, h.base, ?_⟩, hK2⟩⟩
  · rw [hc.cell]; rfl
  · have e : (s.put k a v).l.length = s.l.length + 1 := by simp [Ds.put]
    rw [e]
    exact ho2
  · have := h.cnt
    show s.c ≤ (s.l ++ [_]).length
    simp
    omega
end
theorem wpList_append_ran {ops : Array Oper} {rest : List Oper} {o : Oper} {a : Act} {Q : Exit → Act → World → Prop} {P : Program} {w : World} (hgd : o.guard = none) (s x : Operand) (t : TypeId)
    (ho : o.op = .call { callee := .builtin .append, args := #[s, x], argTypes := #[t, t] }) (v u r : Value) (w' : World) (hs : a.eval s = v) (hx : a.eval x = u) (hr : (Builtin.append_ #[t, t] o.type #[v, u]).run P w = .ok r w')
    (h : wpList P ops Q rest (a.put o.dst r) w') : wpList P ops Q (o :: rest) a w :=
  wpList_plain hgd fun _ hK => by
    unfold Oper.wp
    simp [execOp, ho, resolve, invoke, builtin, hs, hx, hr, Result.andThen]
    exact hK _ _ h
theorem at_any (a : Option Addr) (n c k : Nat) (f : Nat → Nat) (w : World) (h : Row w a n f) (hnc : n ≤ c) :
    Calls Tryz.prog 212 #[.slice a n c, .int .i64 (k : Nat)] w fun e w' => e = .returned (.int .u32 ((if k < n then f k else 0 : Nat) : Nat)) ∧ w = w' := by
  by_cases hk : k < n
  · rw [if_pos hk]
    obtain ⟨h0, h1 | ⟨g, o, rfl, hg, hc⟩⟩ := h
    · omega
    · have hb := h0 k hk
      have hcl := hc k hk
      clear h0 hc
      go_enter Tryz.func212, Tryz.ntmps212
      go_wp2_with fail
      go_ret
      exact ⟨rfl, rfl⟩
  · rw [if_neg hk]
    clear h hnc
    go_enter Tryz.func212, Tryz.ntmps212
    go_wp2_with fail
    go_ret
    exact ⟨rfl, rfl⟩
theorem pwrite_any {W0 w : World} {B b a v : Nat} {s : Ds} (h : Pk W0 B b s w) (hl : s.l.length ≤ 100) :
    Calls Tryz.prog 219 #[.pointer (some ⟨b, 0, none⟩), .int .u32 (a : Nat), .int .u32 (v : Nat)] w fun e w' => e = .returned (.tuple #[]) ∧ Pk W0 B b (s.put 2 (a % 16777216) (v % 256)) w' ∧ Keeps b w w' := by
  obtain ⟨la, lc, gg, cap, w1, c11, hr, ⟨u, d11⟩, f11, hh⟩ := h.push 2 (a % 16777216) (v % 256) hl
  have e1 : ((a : Int) % 16777216) = ((a % 16777216 : Nat) : Int) := by omega
  have e2 : ((v : Int) % 256) = ((v % 256 : Nat) : Int) := by omega
  have e3 : IntKind.u8.wrap ((v % 256 : Nat) : Int) = ((v % 256 : Nat) : Int) := by simp only [IntKind.wrap_u8]; omega
  generalize a % 16777216 = a' at *
  generalize v % 256 = v' at *
  generalize s.l.length = L at *
  clear h hl
  simp only [show ((2 : Nat) : Int) = 2 from rfl] at hr
  go_enter Tryz.func219, Tryz.ntmps219
  go_wp2_with (at_builtin; refine wpList_append_ran rfl _ _ 27 rfl _ _ _ w1 rfl rfl hr ?_)
  go_end0
  exact ⟨rfl, hh.out⟩
end Go.Proofs.YtnacdaodjgdnnaaGreat
namespace Go.Proofs.YtnacdaodjgdnnaaGreat
open Go.RowKit Go.Shelf
set_option maxRecDepth 100000
set_option maxHeartbeats 1000000
set_option linter.unusedVariables false

def Ds.cn (s : Ds) : Ds := ⟨s.r, s.n, s.f, s.l, s.c + 1, s.af⟩
theorem Pk.count {W0 w : World} {B b : Nat} {s : Ds} (h : Pk W0 B b s w) (hc : s.c + 1 ≤ s.l.length) : Pk W0 B b s.cn (w.setCell ⟨b, 12, none⟩ (.int .i64 ((s.c + 1 : Nat) : Nat))) := by
  obtain ⟨a, c, lv, h1, h2, h3, h4⟩ := h.cells
  exact ⟨h.ok, ⟨a, c, lv, h1.put 12 _, h2, h3, row_put h4 (p := ⟨b, 12, none⟩) (own_apart h4 h1 (by decide)) _⟩, h.here, h.bel.setCell (p := ⟨b, 12, none⟩) h.here _, h.base, hc⟩
theorem readD_is (a : Nat) (s : Ds) : (readD a s).2 = (s.put 1 (a % 16777216) 0).cn := rfl
theorem readD_v (a : Nat) (s : Ds) : (readD a s).1 = if s.c < s.n then s.f s.c else 0 := rfl
theorem pread_any {W0 w : World} {B b a : Nat} {s : Ds} (h : Pk W0 B b s w) (hl : s.l.length ≤ 100) :
    Calls Tryz.prog 133 #[.pointer (some ⟨b, 0, none⟩), .int .u32 (a : Nat)] w fun e w' => e = .returned (.int .u32 ((readD a s).1 : Nat)) ∧ Pk W0 B b (readD a s).2 w' ∧ Keeps b w w' ∧ (readD a s).1 < 256 := by
  obtain ⟨la, lc, gg, cap, w1, c11, hr, ⟨u, d11⟩, f11, hh⟩ := h.push 1 (a % 16777216) 0 hl
  have e1 : ((a : Int) % 16777216) = ((a % 16777216 : Nat) : Int) := by omega
  rw [readD_is, readD_v]
  have hlt : (if s.c < s.n then s.f s.c else 0) < 256 := by
    split
    · rename_i hi
      obtain ⟨_, _, _, _, _, hR, _⟩ := h.cells
      exact hR.1 _ hi
    · decide
  have hcnt := h.cnt
  generalize a % 16777216 = a' at *
  have hstep : ∀ (W : World), Pk W0 B b (s.put 1 a' 0) W → ∃ sa c, (W.cell? ⟨b, 12, none⟩ = some (.int .i64 (s.c : Nat)) ∧ W.frozen? ⟨b, 12, none⟩ = false) ∧ Hid (Pk W0 B b (s.put 1 a' 0).cn (W.setCell ⟨b, 12, none⟩ (.int .i64 ((s.c + 1 : Nat) : Nat)))) ∧ (W.setCell ⟨b, 12, none⟩ (.int .i64 ((s.c + 1 : Nat) : Nat))).cell? ⟨b, 10, none⟩ = some (.slice sa s.n c) ∧ (W.setCell ⟨b, 12, none⟩ (.int .i64 ((s.c + 1 : Nat) : Nat))).cell? ⟨b, 12, none⟩ = some (.int .i64 ((s.c + 1 : Nat) : Nat)) ∧
      Hid (Calls Tryz.prog 212 #[.slice sa s.n c, .int .i64 (s.c : Nat)] (W.setCell ⟨b, 12, none⟩ (.int .i64 ((s.c + 1 : Nat) : Nat))).drew fun e W' => e = .returned (.int .u32 ((if s.c < s.n then s.f s.c else 0 : Nat) : Nat)) ∧ (W.setCell ⟨b, 12, none⟩ (.int .i64 ((s.c + 1 : Nat) : Nat))).drew = W') := fun W hW => by
    have hW2 := hW.count (by show s.c + 1 ≤ (s.l ++ [_]).length; simp; omega)
    obtain ⟨sa, c, lv, h1, h2, h3, h4⟩ := hW.cells
    have h5 := h1.put 12 (.int .i64 ((s.c + 1 : Nat) : Nat))
    refine ⟨sa, c, ⟨by rw [h1.cell]; rfl, h1.free 12⟩, Lib.hid hW2, by rw [h5.cell]; rfl, by rw [h5.cell]; rfl, Lib.hid ?_⟩
    have hb := hW2.drew.bel
    rw [← hW.base] at hb
    exact at_any sa s.n c s.c s.f _ (h3.below hb) h2
  have w1n : IntKind.i64.wrap ((s.c : Int) + 1) = ((s.c + 1 : Nat) : Int) := by rw [IntKind.wrap_i64]; omega
  have w2n : IntKind.i64.wrap (((s.c + 1 : Nat) : Int) - 1) = (s.c : Int) := by rw [IntKind.wrap_i64]; omega
  replace hstep := Lib.hid hstep
  replace hlt := Lib.hid hlt
  generalize (if s.c < s.n then s.f s.c else 0) = z at *
  generalize s.l.length = L at *
  clear h
  generalize hq : s.put 1 a' 0 = q at *
  clear hq
  generalize q.cn = q2 at *
  generalize s.c + 1 = c1 at *
  generalize s.c = c0 at *
  generalize s.n = n0 at *
  clear hl hcnt
  simp only [show ((1 : Nat) : Int) = 1 from rfl, show ((0 : Nat) : Int) = 0 from rfl] at hr
  go_enter Tryz.func133, Tryz.ntmps133
  go_upto_region 2 with (at_builtin; refine wpList_append_ran rfl _ _ 27 rfl _ _ _ w1 rfl rfl hr ?_)
  generalize w1.setCell ⟨b, 11, none⟩ (.slice (some ⟨gg, 0, none⟩) (L + 1) cap) = W2 at *
  obtain ⟨sa, c, ⟨c12, f12⟩, hP, d10, d12, HA⟩ := hstep.out W2 hh.out.1
  have hK := Lib.hid (hh.out.2.set 12 (.int .i64 (c1 : Nat)))
  clear hr c11 d11 f11 hh hstep
  go_upto_region 3 with (fail)
  generalize W2.setCell ⟨b, 12, none⟩ (.int .i64 (c1 : Nat)) = W3 at *
  refine wp_region_still_tail 10 (by kernel_rfl) (by kernel_rfl) ?_
  simp only [List.take_succ_cons, List.take_zero, List.drop_succ_cons, List.drop_zero]
  repeat still_step
  still_call (HA.out.mono (by rintro e w' ⟨rfl, rfl⟩; exact ⟨rfl, rfl⟩))
  refine wpStill_nil ?_
  show wpList _ _ _ _ _ W3.drew
  generalize hW4 : W3.drew = W4 at *
  replace hP := Lib.hid (hW4 ▸ hP.out.drew)
  replace hK := Lib.hid (hW4 ▸ hK.out.trans (Keeps.below (Below.drew (Below.refl _ _))))
  clear HA d10 d12 hW4
  go_wp2_with fail
  go_ret
  exact ⟨rfl, hP.out, hK.out, hlt.out⟩
/-- So many idles. -/
def idlesW : Nat → Wp Unit
  | 0 => pureW ()
  | n + 1 => bindW (idlesW n) fun _ => putW 0 0 0
theorem Is.idles : ∀ n, Is (idlesX n) (idlesW n)
  | 0 => Is.pure ()
  | n + 1 => Is.bind (Is.idles n) fun _ => Is.idle
theorem Fine.idles : ∀ n, Fine (idlesW n)
  | 0 => Fine.pure ()
  | n + 1 => Fine.bind (Fine.idles n) fun _ => Fine.put _ _ _ (by decide)
theorem idlesD_succ (n : Nat) (s : Ds) : (wd (idlesW (n + 1)) s).2 = (wd (idlesW n) s).2.put 0 0 0 := by
  rw [show idlesW (n + 1) = bindW (idlesW n) fun _ => putW 0 0 0 from rfl, wd_bind, wd_put]
theorem idlesD_len : ∀ (n : Nat) (s : Ds), (wd (idlesW n) s).2.l.length = s.l.length + n
  | 0, s => rfl
  | n + 1, s => by
    rw [idlesD_succ]
    show ((wd (idlesW n) s).2.l ++ [_]).length = _
    rw [List.length_append, idlesD_len n s]
    rfl
theorem pidle_any {W0 w : World} {B b n : Nat} {s : Ds} (h : Pk W0 B b s w) (hl : s.l.length + n ≤ 100) :
    Calls Tryz.prog 71 #[.pointer (some ⟨b, 0, none⟩), .int .i64 (n : Nat)] w fun e w' => e = .returned (.tuple #[]) ∧ Pk W0 B b (wd (idlesW n) s).2 w' ∧ Keeps b w w' := by
  have HI := fun (i : Nat) (hi : i < n) (W : World) (hW : Pk W0 B b (wd (idlesW i) s).2 W) => hW.push 0 0 0 (by have := idlesD_len i s; omega)
  have hst := fun i => idlesD_succ i s
  have h0 : Pk W0 B b (wd (idlesW 0) s).2 w := h
  replace HI := Lib.hid HI
  replace hst := Lib.hid hst
  replace h0 := Lib.hid h0
  have hn : n ≤ 100 := by omega
  clear h hl
  go_enter Tryz.func71, Tryz.ntmps71
  go_wp2_with fail
  go_loopw [4] (fun s4 wr => ∃ i : Nat, i ≤ n ∧ s4 = .int .i64 i ∧ Pk W0 B b (wd (idlesW i) s).2 wr ∧ Keeps b w wr) (fun s4 _ => n - (intOf s4).toNat)
  case atStart => exact ⟨0, Nat.zero_le _, rfl, h0.out, Keeps.refl _ _⟩
  case round =>
    obtain ⟨i, hi, rfl, hx, hk⟩ := hrel
    by_cases hlt : i < n
    · obtain ⟨la, lc, gg, cap, w1, c11, hr, ⟨u, d11⟩, f11, hh⟩ := HI.out i hlt wr hx
      have hs1 := hst.out i
      rw [← hs1] at hh
      clear HI hst h0 hx hs1
      generalize (wd (idlesW i) s).2.l.length = L at *
      simp only [show ((0 : Nat) : Int) = 0 from rfl] at hr
      go_wp2_with (at_builtin; refine wpList_append_ran rfl _ _ 27 rfl _ _ _ w1 rfl rfl hr ?_)
      go_roundw
      case rel => exact ⟨i + 1, hlt, by go_num, hh.out.1, hk.trans hh.out.2⟩
      case measure => simp [intOf]; omega
    · obtain rfl : i = n := by omega
      clear HI hst h0
      go_wp2_with fail
      go_end0
      exact ⟨rfl, hx, hk⟩
end Go.Proofs.YtnacdaodjgdnnaaGreat
namespace Go.Proofs.YtnacdaodjgdnnaaGreat
open Go.RowKit Go.Shelf
set_option maxRecDepth 100000
set_option maxHeartbeats 1000000
set_option linter.unusedVariables false

/-- The first k bytes, then noughts. -/
def firstF (f : Nat → Nat) (k : Nat) : Nat → Nat := fun j => if j < k then f j else 0
theorem firstF_step (f : Nat → Nat) (k : Nat) : upd (firstF f k) k (f k) = firstF f (k + 1) := by
  funext j
  unfold upd firstF
  by_cases e : j = k
  · subst e; simp
  · rw [if_neg e]
    by_cases h : j < k
    · rw [if_pos h, if_pos (by omega)]
    · rw [if_neg h, if_neg (by omega)]
theorem copied_any (a : Option Addr) (n cap : Nat) (f : Nat → Nat) (w : World) (h : Row w a n f) (hn : n ≤ 140737488355328) :
    Calls Tryz.prog 15 #[.slice a n cap] w fun e w' => ∃ G, e = .returned (.slice (some ⟨G, 0, none⟩) n n) ∧ Holds w' G n f ∧ w.heap.size ≤ G ∧ Below w.heap.size w w' := by
  have hmk := fun W => run_make_row' (P := Tryz.prog) 25 5 (.int .u8 0) 1 Tryz.underlying25 (by kernel_rfl) rfl .i64 .i64 n (by omega) (by omega) W
  go_enter Tryz.func15, Tryz.ntmps15
  go_wp2_with fail
  have hB0 : Below w.heap.size w (w.alloc (Obj.cells (madeCells #[Value.int .u8 0] n) 5)) := (Below.refl _ w).alloc (Nat.le_refl _) _
  have hH0 := holds_of_made (Whole.fresh w 5 (madeCells #[Value.int .u8 0] n))
  generalize (w.alloc (Obj.cells (madeCells #[Value.int .u8 0] n) 5)) = W0 at hB0 hH0 ⊢
  clear hmk
  obtain ⟨G, hG⟩ : ∃ G, w.heap.size = G := ⟨_, rfl⟩
  have hle : w.heap.size ≤ G := by omega
  rw [hG] at hH0 hB0 ⊢
  go_loopw [4] (fun i wr => ∃ k : Nat, k ≤ n ∧ i = .int .i64 k ∧ Holds wr G n (firstF f k) ∧ Below G w wr) (fun i _ => n - (intOf i).toNat)
  case atStart => exact ⟨0, Nat.zero_le _, rfl, hH0.congr (fun i _ => by simp [firstF]), hB0⟩
  case round =>
    obtain ⟨k, hk, rfl, hH, hB⟩ := hrel
    clear hB0 hH0
    by_cases hlt : k < n
    · rcases h with ⟨hb, h0 | ⟨b, o, rfl, hbl, hc⟩⟩
      · omega
      have hck := (hB.cell (p := ⟨b, o + k, none⟩) (show b < G by omega)).trans (hc k hlt)
      have hfk := hH.free k
      have hwk := hH.cell k hlt
      have hx := hb k hlt
      have hP := hH.put k (f k) hx
      rw [firstF_step] at hP
      have hB2 := hB.setCell (p := ⟨G, k, none⟩) (Nat.le_refl _) (.int .u8 (f k : Nat))
      clear hc hH
      generalize f k = x at *
      go_wp2_with fail
      refine ⟨⟨k + 1, by omega, by congr 1, hP, hB2⟩, ?_⟩
      simp only [intOf]
      omega
    · obtain rfl : k = n := by omega
      go_wp2_with fail
      go_ret
      exact ⟨G, rfl, hH.congr (fun i hi => by simp [firstF, hi]), hle, hG ▸ hB⟩
/-- Accesses that are read. -/
def AX (w : World) (a : Option Addr) (l : List (Nat × Nat × Nat)) : Prop :=
  l = [] ∨ ∃ g, a = some ⟨g, 0, none⟩ ∧ g < w.heap.size ∧ ∀ i (h : i < l.length), w.cell? ⟨g, i * 3, none⟩ = some (.int .u8 (l[i].1 : Nat)) ∧ w.cell? ⟨g, i * 3 + 1, none⟩ = some (.int .u32 (l[i].2.1 : Nat)) ∧ w.cell? ⟨g, i * 3 + 2, none⟩ = some (.int .u8 (l[i].2.2 : Nat))
theorem AX.below {w w' : World} {a : Option Addr} {l : List (Nat × Nat × Nat)} (h : AX w a l) (hb : Below w.heap.size w w') : AX w' a l :=
  h.imp id fun ⟨g, e, hg, hc⟩ => ⟨g, e, Nat.lt_of_lt_of_le hg hb.size, fun i hi => by
    obtain ⟨h1, h2, h3⟩ := hc i hi
    exact ⟨(hb.cell (p := ⟨g, i * 3, none⟩) hg).trans h1, (hb.cell (p := ⟨g, i * 3 + 1, none⟩) hg).trans h2, (hb.cell (p := ⟨g, i * 3 + 2, none⟩) hg).trans h3⟩⟩
theorem accX_get : ∀ (l : List (Nat × Nat × Nat)) (i : Nat) (h : i < l.length), (accX l)[i * 3]? = some (.int .u8 (l[i].1 : Nat)) ∧ (accX l)[i * 3 + 1]? = some (.int .u32 (l[i].2.1 : Nat)) ∧ (accX l)[i * 3 + 2]? = some (.int .u8 (l[i].2.2 : Nat))
  | [], i, h => absurd h (Nat.not_lt_zero _)
  | x :: l, 0, _ => ⟨rfl, rfl, rfl⟩
  | x :: l, i + 1, h => by
    have ih := accX_get l i (by simpa using h)
    have e : accX (x :: l) = .int .u8 (x.1 : Nat) :: .int .u32 (x.2.1 : Nat) :: .int .u8 (x.2.2 : Nat) :: accX l := rfl
    rw [e, show (i + 1) * 3 = i * 3 + 1 + 1 + 1 by omega, show i * 3 + 1 + 1 + 1 + 1 = i * 3 + 1 + 1 + 1 + 1 from rfl, show i * 3 + 1 + 1 + 1 + 2 = i * 3 + 2 + 1 + 1 + 1 by omega]
    simp only [List.getElem?_cons_succ, List.getElem_cons_succ]
    exact ih
theorem ax_of {w : World} {B n : Nat} {lv : Value} {l : List (Nat × Nat × Nat)} (h : w.ownsRow B 35 3 lv n (accX l)) (hn : n = l.length) : ∃ a c, lv = .slice a l.length c ∧ AX w a l ∧ l.length ≤ c := by
  subst hn
  rcases h.2 with ⟨rfl, h0⟩ | ⟨g, cap, cur, rfl, _, hw, h1, _⟩
  · exact ⟨none, 0, by rw [h0], .inl (List.eq_nil_of_length_eq_zero h0), by omega⟩
  · have hc := h.cells (g := g) rfl
    refine ⟨_, cap, rfl, .inr ⟨g, rfl, (show Whole w g _ _ from hw).lt, fun i hi => ?_⟩, h1⟩
    obtain ⟨a1, a2, a3⟩ := accX_get l i hi
    have k1 := hc _ _ a1
    have k2 := hc _ _ a2
    have k3 := hc _ _ a3
    rw [Addr.add_lit, Nat.zero_add] at k1 k2 k3
    exact ⟨k1, k2, k3⟩
theorem same_acc (a b : Option Addr) (l : List (Nat × Nat × Nat)) (c d : Nat) (w : World) (h1 : AX w a l) (h2 : AX w b l) (hn : l.length ≤ 100) :
    Calls Tryz.prog 27 #[.slice a l.length c, .slice b l.length d] w fun e w' => e = .returned (.bool true) ∧ ∃ q, w' = w.drewN q := by
  have H1 := Lib.hid h1
  have H2 := Lib.hid h2
  clear h1 h2
  go_enter Tryz.func27, Tryz.ntmps27
  go_wp2_with fail
  go_loopw [5] (fun si wr => ∃ k : Nat, k ≤ l.length ∧ si = .int .i64 k ∧ Hid (∃ q, wr = w.drewN q)) (fun si _ => l.length - (intOf si).toNat)
  case atStart => exact ⟨0, Nat.zero_le _, rfl, Lib.hid ⟨0, rfl⟩⟩
  case round =>
    obtain ⟨k, hk, rfl, hq⟩ := hrel
    by_cases hlt : k < l.length
    · rcases H1.out with h0 | ⟨g, rfl, hg, hcell⟩
      · rw [h0] at hlt; exact absurd hlt (Nat.not_lt_zero _)
      rcases H2.out with h0 | ⟨g', rfl, hg', hcell'⟩
      · rw [h0] at hlt; exact absurd hlt (Nat.not_lt_zero _)
      obtain ⟨d0, d1, d2⟩ : wr.cell? ⟨g, k * 3, none⟩ = some (.int .u8 (l[k].1 : Nat)) ∧ wr.cell? ⟨g, k * 3 + 1, none⟩ = some (.int .u32 (l[k].2.1 : Nat)) ∧ wr.cell? ⟨g, k * 3 + 2, none⟩ = some (.int .u8 (l[k].2.2 : Nat)) := by
        obtain ⟨q, e⟩ := hq.out
        rw [e]
        exact hcell k hlt
      obtain ⟨e0, e1, e2⟩ : wr.cell? ⟨g', k * 3, none⟩ = some (.int .u8 (l[k].1 : Nat)) ∧ wr.cell? ⟨g', k * 3 + 1, none⟩ = some (.int .u32 (l[k].2.1 : Nat)) ∧ wr.cell? ⟨g', k * 3 + 2, none⟩ = some (.int .u8 (l[k].2.2 : Nat)) := by
        obtain ⟨q, e⟩ := hq.out
        rw [e]
        exact hcell' k hlt
      clear hcell hcell'
      generalize l[k].1 = x at *
      generalize l[k].2.1 = y at *
      generalize l[k].2.2 = z at *
      go_wp2_with fail
      go_quiet (fail)
      go_wp2_with fail
      go_roundw
      case rel => exact ⟨k + 1, by omega, by go_num, Lib.hid (by obtain ⟨q, e⟩ := hq.out; exact ⟨q + nq, by rw [e]; simp [World.drewN, Nat.add_assoc]⟩)⟩
      case measure => simp [intOf]; omega
    · obtain rfl : k = l.length := by omega
      go_wp2_with fail
      go_ret
      exact ⟨rfl, hq.out⟩
theorem AX.take {w : World} {a : Option Addr} {l : List (Nat × Nat × Nat)} (h : AX w a l) (m : Nat) : AX w a (l.take m) :=
  h.elim (fun e => .inl (by rw [e]; simp)) fun ⟨g, e, hg, hc⟩ => .inr ⟨g, e, hg, fun i hi => by
    rw [List.length_take] at hi
    rw [List.getElem_take]
    exact hc i (by omega)⟩
theorem cutL_take : ∀ (l : List (Nat × Nat × Nat)) (n i : Nat) (h : i < l.length), l[i].1 = 1 → nreads (l.take i) = n → cutL n l = l.take (i + 1) ∧ n < nreads l
  | [], _, _, h, _, _ => absurd h (Nat.not_lt_zero _)
  | x :: l, n, 0, _, h1, h2 => by
    have h1 : x.1 = 1 := h1
    have h2 : 0 = n := h2
    subst h2
    rw [nreads_cons, if_pos h1]
    refine ⟨?_, by omega⟩
    show cutL 0 (x :: l) = [x]
    unfold cutL
    rw [if_pos h1, if_pos rfl]
  | x :: l, n, i + 1, h, h1, h2 => by
    have h1 : (l[i]'(by simpa using h)).1 = 1 := h1
    rw [List.take_succ_cons, nreads_cons] at h2
    rw [List.take_succ_cons, nreads_cons]
    unfold cutL
    by_cases hx : x.1 = 1
    · rw [if_pos hx] at h2 ⊢
      rw [if_neg (by omega), if_pos hx]
      obtain ⟨e, e'⟩ := cutL_take l (n - 1) i (by simpa using h) h1 (by omega)
      rw [e]
      exact ⟨rfl, by omega⟩
    · rw [if_neg hx] at h2 ⊢
      rw [if_neg hx]
      obtain ⟨e, e'⟩ := cutL_take l n i (by simpa using h) h1 (by omega)
      rw [e]
      exact ⟨rfl, by omega⟩
theorem nreads_take (l : List (Nat × Nat × Nat)) (i : Nat) (h : i < l.length) : nreads (l.take (i + 1)) = nreads (l.take i) + if l[i].1 = 1 then 1 else 0 := by
  rw [List.take_succ_eq_append_getElem h, nreads_snoc]
theorem nreads_le (l : List (Nat × Nat × Nat)) : nreads l ≤ l.length := List.countP_le_length
theorem cutL_pre : ∀ (l : List (Nat × Nat × Nat)) (n : Nat), ∃ k, cutL n l = l.take k
  | [], n => ⟨0, rfl⟩
  | x :: l, n => by
    unfold cutL
    by_cases hx : x.1 = 1
    · rw [if_pos hx]
      by_cases hn : n = 0
      · rw [if_pos hn]; exact ⟨1, rfl⟩
      · rw [if_neg hn]
        obtain ⟨k, e⟩ := cutL_pre l (n - 1)
        exact ⟨k + 1, by rw [e]; rfl⟩
    · rw [if_neg hx]
      obtain ⟨k, e⟩ := cutL_pre l n
      exact ⟨k + 1, by rw [e]; rfl⟩
theorem AX.cut {w : World} {a : Option Addr} {l : List (Nat × Nat × Nat)} (h : AX w a l) (n : Nat) : AX w a (cutL n l) := by
  obtain ⟨k, e⟩ := cutL_pre l n
  rw [e]
  exact h.take k
/-- A row that lies in a block of one's own. -/
def AB (B : Nat) (a : Option Addr) : Prop := ∀ p, a = some p → B ≤ p.block
theorem ab_of {w : World} {B n m c : Nat} {a : Option Addr} {xs : List Value} (h : w.ownsRow B 35 3 (.slice a m c) n xs) : AB B a := fun p hp => by
  subst hp
  rcases h.2 with ⟨e, _⟩ | ⟨g, cap, cur, e, hg, _⟩
  · injection e with e _ _
    cases e
  · injection e with e _ _
    injection e with e
    rw [e]
    exact hg
/-- Where a plan's accesses lie. -/
theorem Pk.acc {W0 w : World} {B b : Nat} {s : Ds} (h : Pk W0 B b s w) : ∃ la lc, w.cell? ⟨b, 11, none⟩ = some (.slice la s.l.length lc) ∧ AX w la s.l ∧ s.l.length ≤ lc ∧ AB B la := by
  obtain ⟨sa, sc, lv, hc, hnc, hR, ho⟩ := h.cells
  obtain ⟨la, lc, rfl, hA, hlc⟩ := ax_of ho rfl
  exact ⟨la, lc, by rw [hc.cell]; rfl, hA, hlc, ab_of ho⟩
/-- The accesses up to the first read that was not seen. -/
theorem pcut_any {W0 w : World} {B b : Nat} {s : Ds} {la : Option Addr} {lc : Nat} (h : Pk W0 B b s w) (hl : s.l.length ≤ 200) (c11 : w.cell? ⟨b, 11, none⟩ = some (.slice la s.l.length lc)) :
    Calls Tryz.prog 145 #[.pointer (some ⟨b, 0, none⟩)] w fun e w' => ∃ c, e = .returned (.tuple #[.slice la (cutL s.n s.l).length c, .bool (decide (nreads s.l ≤ s.n))]) ∧ (cutL s.n s.l).length ≤ c ∧ w = w' := by
  obtain ⟨sa, sc, lv, hc, hnc, hR, ho⟩ := h.cells
  obtain ⟨la', lc', rfl, hA, hlc⟩ := ax_of ho rfl
  have c10 := hc.cell 10
  have c11' := hc.cell 11
  unfold plC at c10 c11'
  simp only [List.getElem?_toArray, List.getElem?_cons_zero, List.getElem?_cons_succ] at c10 c11'
  rw [c11'] at c11
  injection c11 with c11
  injection c11 with c11a c11b c11c
  subst c11a
  subst c11c
  have c11 := c11'
  clear c11' c11b
  have hT := Lib.hid hA
  generalize s.l = l at *
  generalize hN : s.n = N at *
  have HC := Lib.hid (cutL_take l N)
  have HL := Lib.hid (cutL_all l N)
  have HR := Lib.hid (nreads_take l)
  have hle := Lib.hid (nreads_le l)
  replace hlc := Lib.hid hlc
  clear h hc hR ho hA hN hnc
  obtain ⟨C, hC⟩ : ∃ C, cutL N l = C := ⟨_, rfl⟩
  obtain ⟨D, hD⟩ : ∃ D, decide (nreads l ≤ N) = D := ⟨_, rfl⟩
  rw [hC, hD]
  replace hC := Lib.hid hC
  replace hD := Lib.hid hD
  go_enter Tryz.func145, Tryz.ntmps145
  go_wp2_with fail
  go_loopw [4, 5] (fun s4 s5 wr => ∃ i : Nat, i ≤ l.length ∧ s4 = .int .i64 (nreads (l.take i) : Nat) ∧ s5 = .int .i64 (i : Nat) ∧ Hid (nreads (l.take i) ≤ N ∧ nreads (l.take i) ≤ i) ∧ wr = w) (fun _ s5 _ => l.length - (intOf s5).toNat)
  case atStart => exact ⟨0, Nat.zero_le _, rfl, rfl, Lib.hid ⟨Nat.zero_le _, Nat.zero_le _⟩, rfl⟩
  case round =>
    obtain ⟨i, hi, rfl, rfl, hq, rfl⟩ := hrel
    by_cases hlt : i < l.length
    · rcases hT.out with h0 | ⟨g, rfl, hg, hcell⟩
      · rw [h0] at hlt; exact absurd hlt (Nat.not_lt_zero _)
      have d0 := (hcell i hlt).1
      have hr := HR.out i hlt
      have hcu := HC.out i hlt
      have hta := Lib.hid (hT.out.take (i + 1))
      have hlen : (l.take (i + 1)).length = i + 1 := by rw [List.length_take]; omega
      have hlce := hlc.out
      clear hcell HC HR HL
      obtain ⟨k, hk⟩ : ∃ k, l[i].1 = k := ⟨_, rfl⟩
      rw [hk] at d0 hr hcu
      obtain ⟨m, hm⟩ : ∃ m, nreads (l.take i) = m := ⟨_, rfl⟩
      rw [hm] at hr hcu hq ⊢
      replace hm := Lib.hid hm
      have hq1 := hq.out.1
      have hq2 := hq.out.2
      by_cases hk1 : k = 1
      · subst hk1
        rw [if_pos rfl] at hr
        by_cases hmN : m = N
        · subst hmN
          obtain ⟨e1, e2⟩ := hcu rfl rfl
          have hCC : C = l.take (i + 1) := by rw [← hC.out, e1]
          have hDD : D = false := by rw [← hD.out]; exact decide_eq_false (by omega)
          have hlC : C.length = i + 1 := by rw [hCC, hlen]
          rw [← hCC] at hta
          subst hDD
          have t1 : decide (((m : Int) + 1) > (m : Int)) = true := decide_eq_true (by omega)
          have t2 : decide ((m : Int) < (m : Int) + 1) = true := decide_eq_true (by omega)
          have t3 : decide (m < m + 1) = true := decide_eq_true (by omega)
          have hil : i + 1 ≤ lc' := by omega
          replace hlC := Lib.hid hlC
          have hm200 : m ≤ 200 := by omega
          clear hr hcu e1 e2 hlen hlc hT hk hm hq hCC hC hD hle hq1 hq2 hlce
          go_wp2_with fail
          go_ret2
          refine ⟨_, ?_, by rw [hlC.out]; exact hil, by trivial⟩
          rw [hlC.out]
          congr 4
        · have t1 : decide (((m : Int) + 1) > (N : Int)) = false := decide_eq_false (by omega)
          have t2 : decide ((N : Int) < (m : Int) + 1) = false := decide_eq_false (by omega)
          have t3 : decide (N < m + 1) = false := decide_eq_false (by omega)
          have hm200 : m ≤ 200 := by omega
          replace hr := Lib.hid hr
          have hmN2 := Lib.hid (show m + 1 ≤ N ∧ m + 1 ≤ i + 1 by omega)
          clear hcu hlen hlc hT hk hm hq hC hD hle hq1 hq2 hlce hta hmN
          go_wp2_with fail
          go_roundw
          case rel => exact ⟨i + 1, by omega, by rw [hr.out]; congr 1, by congr 1, Lib.hid (by rw [hr.out]; exact hmN2.out), by trivial⟩
          case measure => simp [intOf]; omega
      · rw [if_neg hk1, Nat.add_zero] at hr
        have t1 : ((k : Int) == 1) = false := by rw [beq_eq_false_iff_ne]; omega
        replace hr := Lib.hid hr
        have hmN2 := Lib.hid (show m ≤ N ∧ m ≤ i + 1 by omega)
        clear hcu hlen hlc hT hk hm hq hC hD hle hq1 hq2 hlce hta hk1
        go_wp2_with fail
        go_roundw
        case rel => exact ⟨i + 1, by omega, by rw [hr.out]; rfl, by congr 1, Lib.hid (by rw [hr.out]; exact hmN2.out), by trivial⟩
        case measure => simp [intOf]; omega
    · obtain rfl : i = l.length := by omega
      have e1 := HL.out (by rw [← List.take_length (l := l)]; exact hq.out.1)
      have hCC : C = l := by rw [← hC.out, e1]
      have hDD : D = true := by rw [← hD.out]; exact decide_eq_true (by rw [← List.take_length (l := l)]; exact hq.out.1)
      have hta := Lib.hid hT.out
      have hlce := Lib.hid hlc.out
      subst hDD
      subst hCC
      clear HC HL HR hC hD hT hlc e1 hle hq
      go_wp2_with fail
      go_ret2
      exact ⟨_, rfl, hlce.out, rfl⟩
end Go.Proofs.YtnacdaodjgdnnaaGreat
