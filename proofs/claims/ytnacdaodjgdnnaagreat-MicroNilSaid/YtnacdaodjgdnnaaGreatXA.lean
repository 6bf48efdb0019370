/-
  A runner in memory: what it walks, as plain functions; put, idle, read.
-/
import Derived.Test.YtnacdaodjgdnnaaGreatReC
import Derived.Deep.RegionLaw
import Derived.Deep.AppendLies
import Derived.Deep.DeepCutAuto
import Derived.OwnWalk
import Derived.StillTailTactics
import Derived.BigQuiet
namespace Go.Proofs.YtnacdaodjgdnnaaGreat
open Go.RowKit Go.Shelf
set_option maxRecDepth 100000
set_option maxHeartbeats 1000000
set_option linter.unusedVariables false

/-- A code as a runner holds it: number, name, mode, use, width. -/
abbrev Cd5 := Nat × ByteArray × Nat × Nat × Nat
/-- A runner: registers; how many bytes are still to be seen and which; the accesses (kind, place, value); whether it has stopped; the code; what comes after. -/
structure Xs where
  r : Rg
  n : Nat
  f : Nat → Nat
  l : List (Nat × Nat × Nat)
  st : Bool
  cd : Cd5
  af : Nat
abbrev X (α : Type) : Type := Xs → α × Xs
def pureX {α : Type} (a : α) : X α := fun s => (a, s)
def bindX {α β : Type} (F : X α) (G : α → X β) : X β := fun s => G (F s).1 (F s).2
def Xs.put (s : Xs) (k a v : Nat) : Xs := if s.st then s else { s with l := s.l ++ [(k, a, v)] }
def idleX : X Unit := fun s => ((), s.put 0 0 0)
def takeX : X Nat := fun s => if s.n = 0 then (0, { s with st := true }) else (s.f 0, { s with n := s.n - 1, f := fun i => s.f (i + 1) })
def readX (a : Nat) : X Nat := fun s => takeX (s.put 1 (a % 16777216) 0)
def getX : X Rg := fun s => (s.r, s)
def setX (g : Rg → Rg) : X Unit := fun s => ((), { s with r := g s.r })
def incX : X Unit := fun s => ((), { s with r := { s.r with PC := (s.r.PC + 1) % 65536 } })
def numX (F : Nat → X Nat) : Nat → X Nat
  | 0 => pureX 0
  | k + 1 => bindX (numX F k) fun n => bindX (F k) fun v => pureX (n + v * 256 ^ k)
def fetch1X : X Nat := bindX getX fun r => bindX (readX (r.K * 65536 + r.PC)) fun v => bindX incX fun _ => pureX v
def fetchX (m : Nat) : X Nat := numX (fun _ => fetch1X) m
def at1X (bk n i : Nat) : X Nat := readX (bk * 65536 + (n + i) % 65536)
def readAtX (bk n m : Nat) : X Nat := numX (at1X bk n) m
def writeAtX (bk n v : Nat) : X Unit := fun s => ((), s.put 2 (bk * 65536 + n % 65536) v)
/-- How many accesses a walk adds at most. -/
def Cost {α : Type} (F : X α) (c : Nat) : Prop := ∀ s, (F s).2.l.length ≤ s.l.length + c
theorem put_len (s : Xs) (k a v : Nat) : (s.put k a v).l.length ≤ s.l.length + 1 := by
  unfold Xs.put
  split
  · omega
  · simp
theorem Cost.pure {α : Type} (a : α) : Cost (pureX a) 0 := fun s => Nat.le_refl _
theorem Cost.bind {α β : Type} {F : X α} {G : α → X β} {c d : Nat} (h : Cost F c) (k : ∀ v, Cost (G v) d) : Cost (bindX F G) (c + d) := fun s => by
  have h1 := h s
  have h2 := k (F s).1 (F s).2
  show (G (F s).1 (F s).2).2.l.length ≤ _
  omega
theorem Cost.le {α : Type} {F : X α} {c d : Nat} (h : Cost F c) (hd : c ≤ d) : Cost F d := fun s => by have := h s; omega
theorem Cost.get : Cost getX 0 := fun s => Nat.le_refl _
theorem Cost.set (g : Rg → Rg) : Cost (setX g) 0 := fun s => Nat.le_refl _
theorem Cost.inc : Cost incX 0 := fun s => Nat.le_refl _
theorem Cost.idle : Cost idleX 1 := fun s => put_len s 0 0 0
theorem Cost.write (bk n v : Nat) : Cost (writeAtX bk n v) 1 := fun s => put_len s _ _ _
theorem Cost.read (a : Nat) : Cost (readX a) 1 := fun s => by
  have := put_len s 1 (a % 16777216) 0
  unfold readX takeX
  split
  · exact this
  · exact this
theorem Cost.num {F : Nat → X Nat} {c : Nat} (h : ∀ k, Cost (F k) c) : ∀ m, Cost (numX F m) (m * c)
  | 0 => (Cost.pure 0).le (Nat.zero_le _)
  | k + 1 => (Cost.bind (Cost.num h k) (fun n => Cost.bind (d := 0) (h k) (fun v => Cost.pure _))).le (by rw [Nat.succ_mul]; omega)
theorem Cost.fetch1 : Cost fetch1X 1 := Cost.bind (c := 0) Cost.get fun r => Cost.bind (c := 1) (d := 0) (Cost.read _) fun v => Cost.bind (c := 0) (d := 0) Cost.inc fun _ => Cost.pure _
theorem Cost.fetch (m : Nat) : Cost (fetchX m) m := (Cost.num (c := 1) (fun _ => Cost.fetch1) m).le (by omega)
theorem Cost.at1 (bk n i : Nat) : Cost (at1X bk n i) 1 := Cost.read _
theorem Cost.readAt (bk n m : Nat) : Cost (readAtX bk n m) m := (Cost.num (c := 1) (fun i => Cost.at1 bk n i) m).le (by omega)
/-- Accesses as cells. -/
def accX (l : List (Nat × Nat × Nat)) : List Value := l.flatMap fun x => [.int .u8 x.1, .int .u32 x.2.1, .int .u8 x.2.2]
theorem accX_snoc (l : List (Nat × Nat × Nat)) (k a v : Nat) : accX l ++ [.int .u8 (k : Nat), .int .u32 (a : Nat), .int .u8 (v : Nat)] = accX (l ++ [(k, a, v)]) := by simp [accX]
/-- The walker's cells. -/
def rnC (r : Rg) (sv lv : Value) (st : Bool) (cd : Cd5) (af : Nat) : Array Value :=
  #[.int .u16 r.A, .int .u16 r.X, .int .u16 r.Y, .int .u16 r.S, .int .u16 r.D, .int .u16 r.PC, .int .u8 r.B, .int .u8 r.K, .int .u8 r.P, .bool r.E, sv, lv, .bool st, .int .u8 cd.1, .string cd.2.1, .int .u8 cd.2.2.1, .int .u8 cd.2.2.2.1, .int .u8 cd.2.2.2.2, .int .u8 af]
/-- A walker in block b; W0 is the world in which the bytes that it sees lay; B: from there on all is its own. -/
structure Xk (W0 : World) (B b : Nat) (s : Xs) (w : World) : Prop where
  ok : s.r.Ok
  cells : ∃ a c lv, Whole w b 104 (rnC s.r (.slice a s.n c) lv s.st s.cd s.af) ∧ s.n ≤ c ∧ Row W0 a s.n s.f ∧ w.ownsRow B 35 3 lv s.l.length (accX s.l)
  here : B ≤ b
  bel : Below B W0 w
  base : W0.heap.size = B
section
variable {W0 w w' : World} {B b : Nat} {s : Xs}
theorem Xk.lt (h : Xk W0 B b s w) : b < w.heap.size := let ⟨_, _, _, h, _⟩ := h.cells; h.lt
theorem Xk.below (h : Xk W0 B b s w) (hb : Below w.heap.size w w') : Xk W0 B b s w' := by
  obtain ⟨a, c, lv, h1, h2, h3, h4⟩ := h.cells
  refine ⟨h.ok, ⟨a, c, lv, h1.below hb h1.lt, h2, h3, ?_⟩, h.here, h.bel.trans (hb.mono (by have := h.bel.size; have := h.base; omega)), h.base⟩
  exact h4.kept (row := none) ⟨hb.os, hb.tape, hb.output, hb.size, fun k hk _ => hb.block k hk⟩ (by cases lv.ownBlock <;> simp)
theorem Xk.alloc (h : Xk W0 B b s w) (o : Obj) : Xk W0 B b s (w.alloc o) := h.below ((Below.refl _ _).alloc (Nat.le_refl _) o)
theorem Xk.drew (h : Xk W0 B b s w) : Xk W0 B b s w.drew := h.below (Below.drew (Below.refl _ _))
end
theorem xrun_acc (W : World) (ty : TypeId) (lv : Value) (l : List (Nat × Nat × Nat)) (k a v X B : Nat) (ho : W.ownsRow B 35 3 lv l.length (accX l)) (hx : Whole W X 35 #[.int .u8 k, .int .u32 a, .int .u8 v]) (hl : l.length ≤ 100) (hB : B ≤ W.heap.size) :
    ∃ g cap W', (Builtin.append_ #[27, 27] ty #[lv, .slice (some ⟨X, 0, none⟩) 1 1]).run Tryz.prog W = .ok (.slice (some ⟨g, 0, none⟩) (l.length + 1) cap) W' ∧ W'.ownsRow B 35 3 (.slice (some ⟨g, 0, none⟩) (l.length + 1) cap) (l.length + 1) (accX (l ++ [(k, a, v)])) ∧ W.grownBy W' lv.ownBlock ∧ g < W'.heap.size := by
  obtain ⟨i0, hi, hz0, hz1, hz2⟩ := info_parts acc_info
  obtain ⟨g, cap, W', h1, h2, h3, _, h5⟩ := run_append_lies (P := Tryz.prog) W 27 ty B 35 i0 _ 3 12 Tryz.underlying27 hi hz0 hz1 hz2 rfl (by omega) lv l.length (accX l) ho ⟨X, 0, none⟩ 1 1 [.int .u8 k, .int .u32 a, .int .u8 v] rfl (World.news_of_block (cs := #[.int .u8 k, .int .u32 a, .int .u8 v]) (t := 35) (fr := (0, 0)) hx) (by simp [Value.oneCell'])
    (by omega) (by unfold maxLen; omega) (by omega) hB _ rfl
  rw [accX_snoc] at h2
  exact ⟨g, cap, W', h1, h2, h3, h5⟩
theorem xput_any {W0 w : World} {B b : Nat} {s : Xs} (k a v : Nat) (h : Xk W0 B b s w) (hl : s.l.length ≤ 100) :
    Calls Tryz.prog 179 #[.pointer (some ⟨b, 0, none⟩), .agg #[.int .u8 k, .int .u32 a, .int .u8 v]] w fun e w' => e = .returned (.tuple #[]) ∧ Xk W0 B b (s.put k a v) w' ∧ Keeps b w w' := by
  have hW1 := h.alloc (.cells #[.int .u8 k, .int .u32 a, .int .u8 v] 35)
  have hK1 := (Keeps.refl b w).alloc (.cells #[.int .u8 k, .int .u32 a, .int .u8 v] 35)
  have hX := Whole.fresh w 35 #[.int .u8 k, .int .u32 a, .int .u8 v]
  have hlb := h.lt
  have hsz1 : (w.alloc (.cells #[.int .u8 k, .int .u32 a, .int .u8 v] 35)).heap.size = w.heap.size + 1 := by simp
  unfold Xs.put
  obtain ⟨r, n, f, l, st, cd, af⟩ := s
  dsimp only at *
  obtain ⟨sa, sc, lv, hc, hnc, hR, ho⟩ := hW1.cells
  dsimp only at hc hnc hR ho
  have c11 := hc.cell 11
  have c12 := hc.cell 12
  have f11 := hc.free 11
  have x0 := hX.cell 0
  have x1 := hX.cell 1
  have x2 := hX.cell 2
  unfold rnC at c11 c12
  simp only [List.getElem?_toArray, List.getElem?_cons_zero, List.getElem?_cons_succ] at c11 c12 x0 x1 x2
  clear h
  cases st
  · have hfin : ∀ (W : World) (lv' : Value), Below B W0 W → Whole W b 104 (rnC r (.slice sa n sc) lv' false cd af) → W.ownsRow B 35 3 lv' (l.length + 1) (accX (l ++ [(k, a, v)])) → Xk W0 B b ⟨r, n, f, l ++ [(k, a, v)], false, cd, af⟩ W := fun W lv' h1 h2 h3 =>
      ⟨hW1.ok, ⟨sa, sc, lv', h2, hnc, hR, by simpa using h3⟩, hW1.here, h1, hW1.base⟩
    replace hfin := Lib.hid hfin
    have hbel := hW1.bel
    have hbase := hW1.base
    have hBb := hW1.here
    clear hW1 hnc hR
    go_enter Tryz.func179, Tryz.ntmps179
    go_upto_region 1 with (fail)
    generalize w.alloc (.cells #[.int .u8 k, .int .u32 a, .int .u8 v] 35) = W1 at *
    go_upto_region 2 with (fail)
    have d12 : W1.drew.cell? ⟨b, 12, none⟩ = some (.bool false) := c12
    have hwB : B ≤ W1.heap.size := by have := hbel.size; omega
    obtain ⟨gg, cap1, w1, hr, hown1, hgrow, hlt1⟩ := xrun_acc (W1.alloc (.cells #[.int .u8 k, .int .u32 a, .int .u8 v] 35)).drew 27 lv l k a v (w.heap.size + 1) B ((ho.alloc _).drew) (by rw [← hsz1]; exact Whole.fresh W1 _ _) hl (by simp; omega)
    have hap := own_apart ((ho.alloc (.cells #[.int .u8 k, .int .u32 a, .int .u8 v] 35)).drew) ((hc.alloc (.cells #[.int .u8 k, .int .u32 a, .int .u8 v] 35)).drew) (by decide)
    have hc1 := ((hc.alloc (.cells #[.int .u8 k, .int .u32 a, .int .u8 v] 35)).drew).grown hgrow hap
    have g11 := hc1.cell 11
    have h11 := hc1.free 11
    have hc2 := hc1.put 11 (.slice (some ⟨gg, 0, none⟩) (l.length + 1) cap1)
    unfold rnC at g11 hc2
    simp only [List.getElem?_toArray, List.getElem?_cons_zero, List.getElem?_cons_succ] at g11
    have hB2 : Below B W0 (w1.setCell ⟨b, 11, none⟩ (.slice (some ⟨gg, 0, none⟩) (l.length + 1) cap1)) :=
      ((Below.drew (hbel.alloc hwB _)).grown hgrow (Nat.le_trans hwB (by simp)) (fun r hr => ((ho.alloc (.cells #[.int .u8 k, .int .u32 a, .int .u8 v] 35)).drew.lt r hr).1)).setCell (p := ⟨b, 11, none⟩) hBb _
    have ho2 := row_put hown1 (p := ⟨b, 11, none⟩) (own_apart hown1 hc1 (by decide)) (.slice (some ⟨gg, 0, none⟩) (l.length + 1) cap1)
    have hK2 := (((hK1.alloc (.cells #[.int .u8 k, .int .u32 a, .int .u8 v] 35)).trans (Keeps.below (Below.drew (Below.refl _ _)))).grown ((ho.alloc (.cells #[.int .u8 k, .int .u32 a, .int .u8 v] 35)).drew) hgrow).set 11 (.slice (some ⟨gg, 0, none⟩) (l.length + 1) cap1)
    have hlast := Lib.hid (And.intro (hfin.out _ _ hB2 hc2 ho2) hK2)
    clear hB2 hc2 ho2 hK2 hc1 hap hfin hown1 hgrow hK1 hX ho hc hbel
    go_region_law (refine step_append_ran rfl _ _ 27 rfl _ _ _ rfl rfl hr ?_)
    all_goals
      go_wp2_with fail
      go_end0
      exact ⟨rfl, hlast.out⟩
  · clear hc ho x0 x1 x2 f11 hX
    go_enter Tryz.func179, Tryz.ntmps179
    go_upto_region 1 with (fail)
    generalize w.alloc (.cells #[.int .u8 k, .int .u32 a, .int .u8 v] 35) = W1 at *
    go_wp2_with fail
    go_end0
    exact ⟨rfl, hW1, hK1⟩
theorem xidle_any {W0 w : World} {B b : Nat} {s : Xs} (h : Xk W0 B b s w) (hl : s.l.length ≤ 100) :
    Calls Tryz.prog 117 #[.pointer (some ⟨b, 0, none⟩)] w fun e w' => e = .returned (.tuple #[]) ∧ Xk W0 B b (idleX s).2 w' ∧ Keeps b w w' := by
  have HP := Lib.hid (xput_any 0 0 0 h hl)
  clear h hl
  go_enter Tryz.func117, Tryz.ntmps117
  go_wp2_with fail
  refine HP.out.mono ?_
  rintro e w1 ⟨rfl, h1, h2⟩
  clear HP
  go_wp2_with fail
  go_end0
  exact ⟨rfl, h1, h2⟩
theorem Xk.stop {W0 w : World} {B b : Nat} {s : Xs} (h : Xk W0 B b s w) (hn : s.n = 0) : Xk W0 B b { s with st := true } (w.setCell ⟨b, 12, none⟩ (.bool true)) := by
  obtain ⟨a, c, lv, h1, h2, h3, h4⟩ := h.cells
  exact ⟨h.ok, ⟨a, c, lv, h1.put 12 _, h2, h3, row_put h4 (p := ⟨b, 12, none⟩) (own_apart h4 h1 (by decide)) _⟩, h.here, h.bel.setCell (p := ⟨b, 12, none⟩) h.here _, h.base⟩
theorem Xk.next {W0 w : World} {B b : Nat} {s : Xs} {a : Option Addr} {c : Nat} (h : Xk W0 B b s w) (hc : s.n - 1 ≤ c) (hR : Row W0 a (s.n - 1) (fun i => s.f (i + 1))) : Xk W0 B b { s with n := s.n - 1, f := fun i => s.f (i + 1) } (w.setCell ⟨b, 10, none⟩ (.slice a (s.n - 1) c)) := by
  obtain ⟨a0, c0, lv, h1, h2, h3, h4⟩ := h.cells
  exact ⟨h.ok, ⟨a, c, lv, h1.put 10 _, hc, hR, row_put h4 (p := ⟨b, 10, none⟩) (own_apart h4 h1 (by decide)) _⟩, h.here, h.bel.setCell (p := ⟨b, 10, none⟩) h.here _, h.base⟩
theorem xread_any {W0 w : World} {B b : Nat} {s : Xs} (a : Nat) (h : Xk W0 B b s w) (hl : s.l.length ≤ 100) (ha : a < 16777216) :
    Calls Tryz.prog 110 #[.pointer (some ⟨b, 0, none⟩), .int .u32 a] w fun e w' => e = .returned (.int .u8 ((readX a s).1 : Nat)) ∧ Xk W0 B b (readX a s).2 w' ∧ Keeps b w w' ∧ (readX a s).1 < 256 := by
  have HP := xput_any 1 a 0 h hl
  unfold readX
  rw [Nat.mod_eq_of_lt ha]
  generalize s.put 1 a 0 = s1 at *
  replace HP := Lib.hid HP
  clear h hl ha
  by_cases hn : s1.n = 0
  · rw [show takeX s1 = (0, { s1 with st := true }) from if_pos hn]
    go_enter Tryz.func110, Tryz.ntmps110
    go_wp2_with fail
    refine HP.out.mono ?_
    rintro e w1 ⟨rfl, h1, hK⟩
    clear HP
    obtain ⟨sa, c, lv, hc, hnc, hR, ho⟩ := h1.cells
    have c10 := hc.cell 10
    have c12 := hc.cell 12
    have f12 := hc.free 12
    unfold rnC at c10 c12
    simp only [List.getElem?_toArray, List.getElem?_cons_zero, List.getElem?_cons_succ] at c10 c12
    have hS := Lib.hid (And.intro (h1.stop hn) (hK.set 12 (.bool true)))
    rw [hn] at c10
    clear hc hR ho hnc h1 hK hn
    go_wp2_with fail
    go_ret
    exact ⟨rfl, hS.out.1, hS.out.2, by decide⟩
  · obtain ⟨m, hm⟩ : ∃ m, s1.n = m + 1 := ⟨s1.n - 1, by omega⟩
    have hmm : s1.n - 1 = m := by omega
    rw [show takeX s1 = (s1.f 0, { s1 with n := m, f := fun i => s1.f (i + 1) }) by unfold takeX; rw [if_neg hn, hmm]]
    obtain ⟨x, hx⟩ : ∃ x, s1.f 0 = x := ⟨_, rfl⟩
    rw [hx]
    replace hx := Lib.hid hx
    replace hm := Lib.hid hm
    replace hmm := Lib.hid hmm
    clear hn
    go_enter Tryz.func110, Tryz.ntmps110
    go_wp2_with fail
    refine HP.out.mono ?_
    rintro e w1 ⟨rfl, h1, hK⟩
    clear HP
    obtain ⟨sa, c, lv, hc, hnc, hR, ho⟩ := h1.cells
    have c10 := hc.cell 10
    have f10 := hc.free 10
    unfold rnC at c10
    simp only [List.getElem?_toArray, List.getElem?_cons_zero, List.getElem?_cons_succ] at c10
    obtain ⟨hb, h0 | ⟨g, o, rfl, hg, hcell⟩⟩ := hR
    · have := hm.out; omega
    have hx0 : x < 256 := by rw [← hx.out]; exact hb 0 (by have := hm.out; omega)
    have hcl := (h1.bel.cell (p := ⟨g, o + 0, none⟩) (by have := h1.base; show g < B; omega)).trans (hcell 0 (by have := hm.out; omega))
    rw [Nat.add_zero, hx.out] at hcl
    have hbase : ∀ i, i < m → s1.f (i + 1) < 256 := fun i hi => hb (i + 1) (by have := hm.out; omega)
    have HN : ∀ (c' : Nat) (a' : Option Addr), m ≤ c' → (m = 0 ∨ (a' = some ⟨g, o + 1, none⟩)) → Xk W0 B b { s1 with n := m, f := fun i => s1.f (i + 1) } (w1.setCell ⟨b, 10, none⟩ (.slice a' m c')) := fun c' a' hc' ha' => by
      have := h1.next (a := a') (c := c') (by rw [hmm.out]; exact hc') (by
        rw [hmm.out]
        refine ⟨hbase, ?_⟩
        rcases ha' with h0 | h0
        · exact .inl h0
        · exact .inr ⟨g, o + 1, h0, hg, fun i hi => by rw [Nat.add_assoc, Nat.add_comm 1 i]; exact hcell (i + 1) (by have := hm.out; omega)⟩)
      rw [hmm.out] at this
      exact this
    rw [hm.out] at c10 hnc
    have hlast : ∀ v, Keeps b w (w1.setCell ⟨b, 10, none⟩ v) := fun v => hK.set 10 v
    replace hlast := Lib.hid hlast
    replace HN := Lib.hid HN
    replace hx0 := Lib.hid hx0
    clear hc hb hbase hcell ho h1 hK hg
    have i1 : (((m + 1 : Nat) : Int) == 0) = false := by rw [beq_eq_false_iff_ne]; omega
    obtain ⟨c', rfl⟩ : ∃ c', c = c' + 1 := ⟨c - 1, by omega⟩
    have hmc : m ≤ c' := by omega
    have hmcH := Lib.hid hmc
    by_cases hc0 : c' = 0
    · subst hc0
      obtain rfl : m = 0 := by omega
      clear hnc hmc
      go_wp2_with fail
      go_ret
      exact ⟨rfl, HN.out 0 (some ⟨g, o, none⟩) (Nat.le_refl _) (.inl (by trivial)), hlast.out _, hx0.out⟩
    · clear hnc
      go_wp2_with fail
      go_ret
      exact ⟨rfl, HN.out c' (some ⟨g, o + 1, none⟩) hmcH.out (.inr rfl), hlast.out _, hx0.out⟩
end Go.Proofs.YtnacdaodjgdnnaaGreat
namespace Go.Proofs.YtnacdaodjgdnnaaGreat
open Go.RowKit Go.Shelf
set_option maxRecDepth 100000
set_option maxHeartbeats 1000000
set_option linter.unusedVariables false

theorem xnum_lt {F : Nat → X Nat} {s : Xs} : ∀ {m : Nat}, (∀ i, i < m → (F i (numX F i s).2).1 < 256) → (numX F m s).1 < 256 ^ m
  | 0, _ => Nat.zero_lt_one
  | k + 1, h => by
    have h1 := xnum_lt (F := F) (s := s) (m := k) (fun i hi => h i (by omega))
    have h2 := h k (by omega)
    show (numX F k s).1 + (F k (numX F k s).2).1 * 256 ^ k < 256 ^ (k + 1)
    have h3 : (F k (numX F k s).2).1 * 256 ^ k ≤ 255 * 256 ^ k := Nat.mul_le_mul_right _ (by omega)
    rw [Nat.pow_succ]
    omega
theorem xnumber_any {W0 w : World} {B b k m : Nat} {s : Xs} {F : Nat → X Nat} {caps : Array Value} {Q : World → Prop} (hm : m ≤ 3)
    (hcl : ∀ i s w, i < m → Xk W0 B b s w → Q w → s.l.length ≤ 100 → Calls Tryz.prog k (#[.int .u32 (i : Nat)] ++ caps) w fun e w' => e = .returned (.int .u8 ((F i s).1 : Nat)) ∧ Xk W0 B b (F i s).2 w' ∧ Keeps b w w' ∧ (F i s).1 < 256)
    (hQ : ∀ w w', Q w → Keeps b w w' → Q w') (hF : ∀ i, Cost (F i) 1) (hen : ∀ (args : Array Value) (W : World), (callFunc k args).run Tryz.prog W = .ok (.enter k args) W)
    (h : Xk W0 B b s w) (q : Q w) (hl : s.l.length + m ≤ 100) :
    Calls Tryz.prog 108 #[.int .u32 (m : Nat), .func (.func k) #[] caps] w fun e w' => e = .returned (.int .u32 ((numX F m s).1 : Nat)) ∧ Xk W0 B b (numX F m s).2 w' ∧ Keeps b w w' ∧ (numX F m s).1 < 256 ^ m := by
  have hlen : ∀ j, j < m → (numX F j s).2.l.length ≤ 100 := fun j hj => by have := Cost.num hF j s; omega
  have hcl2 := Lib.hid (fun j (hj : j < m) w (hW : Xk W0 B b (numX F j s).2 w) (q : Q w) => hcl j (numX F j s).2 w hj hW q (hlen j hj))
  replace hm := Lib.hid hm
  clear hcl hlen hl
  go_enter Tryz.func108, Tryz.ntmps108
  go_wp2_with fail
  go_loopw [5, 8] (fun s5 s8 wr => ∃ j : Nat, j ≤ m ∧ s5 = .int .u32 ((numX F j s).1 : Nat) ∧ s8 = .int .u32 (j : Nat) ∧ Hid ((numX F j s).1 < 256 ^ j) ∧ Hid (Xk W0 B b (numX F j s).2 wr ∧ Keeps b w wr)) (fun _ s8 _ => m - (intOf s8).toNat)
  case atStart => exact ⟨0, Nat.zero_le _, rfl, rfl, Lib.hid Nat.zero_lt_one, Lib.hid ⟨h, Keeps.refl _ _⟩⟩
  case round =>
    obtain ⟨j, hj, rfl, rfl, hn, hWK⟩ := hrel
    by_cases hlt : j < m
    · have hC := hcl2.out j hlt wr hWK.out.1 (hQ _ _ q hWK.out.2)
      have hstep : numX F (j + 1) s = ((numX F j s).1 + (F j (numX F j s).2).1 * 256 ^ j, (F j (numX F j s).2).2) := rfl
      generalize numX F j s = p0 at *
      obtain ⟨n, s1⟩ := p0
      dsimp only at *
      generalize F j s1 = p2 at *
      obtain ⟨v, s2⟩ := p2
      dsimp only at *
      replace hC := Lib.hid hC
      replace hstep := Lib.hid hstep
      have hj3 : j < 3 := by have := hm.out; omega
      clear hcl2
      rcases (show j = 0 ∨ j = 1 ∨ j = 2 by omega) with rfl | rfl | rfl
      · go_wp2_with fail
        refine hC.out.mono ?_
        rintro e w1 ⟨rfl, h1, h2, h3⟩
        go_wp2_with fail
        refine ⟨⟨1, hlt, ?_, rfl, ?_, ?_⟩, by simp [intOf]; omega⟩
        · rw [hstep.out, ← or_step (by decide) hn.out h3]
          congr 2
          all_goals simp
        · rw [hstep.out]; exact Lib.hid (step_lt hn.out h3)
        · rw [hstep.out]; exact Lib.hid ⟨h1, hWK.out.2.trans h2⟩
      · go_wp2_with fail
        refine hC.out.mono ?_
        rintro e w1 ⟨rfl, h1, h2, h3⟩
        go_wp2_with fail
        refine ⟨⟨2, hlt, ?_, rfl, ?_, ?_⟩, by simp [intOf]; omega⟩
        · rw [hstep.out, ← or_step (by decide) hn.out h3]
          congr 2
          all_goals simp
        · rw [hstep.out]; exact Lib.hid (step_lt hn.out h3)
        · rw [hstep.out]; exact Lib.hid ⟨h1, hWK.out.2.trans h2⟩
      · go_wp2_with fail
        refine hC.out.mono ?_
        rintro e w1 ⟨rfl, h1, h2, h3⟩
        go_wp2_with fail
        refine ⟨⟨3, hlt, ?_, rfl, ?_, ?_⟩, by simp [intOf]; omega⟩
        · rw [hstep.out, ← or_step (by decide) hn.out h3]
          congr 2
          all_goals simp
        · rw [hstep.out]; exact Lib.hid (step_lt hn.out h3)
        · rw [hstep.out]; exact Lib.hid ⟨h1, hWK.out.2.trans h2⟩
    · obtain rfl : j = m := by omega
      go_wp2_with fail
      go_ret
      exact ⟨rfl, hWK.out.1, hWK.out.2, hn.out⟩
theorem xfetch1_eq (s : Xs) : fetch1X s = ((readX (s.r.K * 65536 + s.r.PC) s).1, { (readX (s.r.K * 65536 + s.r.PC) s).2 with r := { (readX (s.r.K * 65536 + s.r.PC) s).2.r with PC := ((readX (s.r.K * 65536 + s.r.PC) s).2.r.PC + 1) % 65536 } }) := rfl
theorem xread_r (a : Nat) (s : Xs) : (readX a s).2.r = s.r := by
  unfold readX takeX Xs.put
  split <;> split <;> rfl
theorem Xk.inc {W0 w : World} {B b : Nat} {s : Xs} (h : Xk W0 B b s w) : Xk W0 B b { s with r := { s.r with PC := (s.r.PC + 1) % 65536 } } (w.setCell ⟨b, 5, none⟩ (.int .u16 ((s.r.PC + 1) % 65536 : Nat))) := by
  obtain ⟨a, c, lv, h1, h2, h3, h4⟩ := h.cells
  have ok := h.ok
  exact ⟨⟨ok.A, ok.X, ok.Y, ok.S, ok.D, Nat.mod_lt _ (by decide), ok.B, ok.K, ok.P⟩, ⟨a, c, lv, h1.put 5 _, h2, h3, row_put h4 (p := ⟨b, 5, none⟩) (own_apart h4 h1 (by decide)) _⟩, h.here, h.bel.setCell (p := ⟨b, 5, none⟩) h.here _, h.base⟩
theorem xfetch1_any {W0 w : World} {B b x i : Nat} {s : Xs} (h : Xk W0 B b s w) (q : Whole w x 151 #[.pointer (some ⟨b, 0, none⟩)]) (hl : s.l.length ≤ 100) :
    Calls Tryz.prog 109 #[.int .u32 (i : Nat), .pointer (some ⟨x, 0, none⟩)] w fun e w' => e = .returned (.int .u8 ((fetch1X s).1 : Nat)) ∧ Xk W0 B b (fetch1X s).2 w' ∧ Keeps b w w' ∧ (fetch1X s).1 < 256 := by
  have hok := h.ok
  have hK := hok.K
  have hPC := hok.PC
  obtain ⟨sa, c, lv, hc, hnc, hR, ho⟩ := h.cells
  have qd := q.drew
  have hcd := hc.drew
  have d0 := qd.cell 0
  have c5 := hcd.cell 5
  have c7 := hcd.cell 7
  unfold rnC at c5 c7
  simp only [List.getElem?_toArray, List.getElem?_cons_zero, List.getElem?_cons_succ] at c5 c7 d0
  have hne : x ≠ b := fun e => by
    subst e
    have := (show w.heap[x]? = _ from q).symm.trans hc
    injection this with this
    injection this with h1 h2
    cases h2
  have hd : Keeps b w w.drew := Keeps.below (Below.drew (Below.refl _ _))
  have HR := xread_any (s.r.K * 65536 + s.r.PC) h.drew hl (by omega)
  rw [xfetch1_eq]
  have hrr := xread_r (s.r.K * 65536 + s.r.PC) s
  obtain ⟨v, hv⟩ : ∃ v, s.r.K * 65536 + s.r.PC = v := ⟨_, rfl⟩
  have HA := fun W => address_v (b := s.r.K) (n := s.r.PC) (v := v) (x := (s.r.K : Nat)) (z := (s.r.PC : Nat)) W rfl rfl hK (by omega) (by rw [← hv]; congr 1; omega)
  rw [hv] at HR hrr ⊢
  generalize readX v s = p1 at *
  obtain ⟨y, s1⟩ := p1
  dsimp only at *
  rw [← hrr] at c5 c7 HA
  rw [← hrr] at hPC
  replace HR := Lib.hid HR
  replace HA := Lib.hid HA
  replace hd := Lib.hid hd
  replace q := Lib.hid q
  clear hc hR ho hnc h hl hv hrr qd hcd hok hK
  have e0 : IntKind.u32.wrap (s1.r.PC : Int) = (s1.r.PC : Int) := by simp only [IntKind.wrap_u32]; omega
  go_enter Tryz.func109, Tryz.ntmps109
  go_upto_region 1 with (fail)
  refine wp_region_still_tail 13 (by kernel_rfl) (by kernel_rfl) ?_
  simp only [List.take_succ_cons, List.take_zero, List.drop_succ_cons, List.drop_zero]
  repeat still_step
  still_call ((HA.out _).mono (by rintro e w' ⟨rfl, rfl⟩; exact ⟨rfl, rfl⟩))
  refine wpStill_nil ?_
  show wpList _ _ _ _ _ w.drew
  generalize w.drew = W1 at *
  clear HA
  go_wp2_with fail
  refine HR.out.mono ?_
  rintro e w1 ⟨rfl, h1, h2, h3⟩
  clear HR c5 c7 d0
  obtain ⟨sa, c, lv, hc, _⟩ := h1.cells
  have q1 := (hd.out.trans h2) _ _ _ hne (by decide) q.out
  have d0 := q1.cell 0
  have c5 := hc.cell 5
  have f5 := hc.free 5
  unfold rnC at c5
  simp only [List.getElem?_toArray, List.getElem?_cons_zero, List.getElem?_cons_succ] at c5 d0
  have hfin := Lib.hid (And.intro h1.inc ((hd.out.trans h2).set 5 (.int .u16 ((s1.r.PC + 1) % 65536 : Nat))))
  have e1 : ((s1.r.PC : Int) + 1) % 65536 = (((s1.r.PC + 1) % 65536 : Nat) : Int) := by omega
  have e2 : IntKind.u16.wrap ((s1.r.PC : Int) + 1) = (((s1.r.PC + 1) % 65536 : Nat) : Int) := by simp only [IntKind.wrap_u16]; omega
  obtain ⟨z, hz⟩ : ∃ z, (s1.r.PC + 1) % 65536 = z := ⟨_, rfl⟩
  rw [hz] at e1 e2
  replace hz := Lib.hid hz
  replace h3 := Lib.hid h3
  clear hc q1 h1 h2 hd q
  go_wp2_with fail
  go_ret
  have hz2 := hz.out
  subst hz2
  exact ⟨rfl, hfin.out.1, hfin.out.2, h3.out⟩
theorem xfetch_any {W0 w : World} {B b m : Nat} {s : Xs} (h : Xk W0 B b s w) (hm : m ≤ 3) (hl : s.l.length + m ≤ 100) :
    Calls Tryz.prog 59 #[.pointer (some ⟨b, 0, none⟩), .int .u32 (m : Nat)] w fun e w' => e = .returned (.int .u32 ((fetchX m s).1 : Nat)) ∧ Xk W0 B b (fetchX m s).2 w' ∧ Keeps b w w' ∧ (fetchX m s).1 < 256 ^ m := by
  have hmf := makeF
  have hW := h.alloc (.cells #[.pointer (some ⟨b, 0, none⟩)] 151)
  have hX := Whole.fresh w 151 #[.pointer (some ⟨b, 0, none⟩)]
  have hK := (Keeps.refl b w).alloc (.cells #[.pointer (some ⟨b, 0, none⟩)] 151)
  have hne : w.heap.size ≠ b := by have := h.lt; omega
  have HN := xnumber_any (k := 109) (F := fun _ => fetch1X) (caps := #[.pointer (some ⟨w.heap.size, 0, none⟩)]) (Q := fun W => Whole W w.heap.size 151 #[.pointer (some ⟨b, 0, none⟩)]) hm
    (fun i s w _ hW q hl => xfetch1_any (i := i) hW q hl) (fun w w' q k => k _ _ _ hne (by decide) q) (fun _ => Cost.fetch1) (enters_of Tryz.func109 (by kernel_rfl) rfl) hW hX hl
  change Calls _ _ _ _ (fun e w' => e = .returned (.int .u32 ((fetchX m s).1 : Nat)) ∧ Xk W0 B b (fetchX m s).2 w' ∧ Keeps b _ w' ∧ (fetchX m s).1 < 256 ^ m) at HN
  replace HN := Lib.hid HN
  replace hK := Lib.hid hK
  clear h hX hW hl hm
  go_enter Tryz.func59, Tryz.ntmps59
  go_wp2_with fail
  refine HN.out.mono ?_
  rintro e w' ⟨rfl, h1, h2, h3⟩
  clear HN
  go_wp2_with fail
  go_ret
  exact ⟨rfl, h1, hK.out.trans h2, h3⟩
theorem xat1_any {W0 w : World} {B b x z0 y n i bk : Nat} {s : Xs} (h : Xk W0 B b s w) (q : Whole w x 151 #[.pointer (some ⟨b, 0, none⟩)]) (q1 : Whole w z0 5 #[.int .u8 (bk : Nat)]) (q2 : Whole w y 33 #[.int .u32 (n : Nat)]) (hl : s.l.length ≤ 100) (hn : n < 100000) (hi : i < 3) (hbk : bk < 256) :
    Calls Tryz.prog 227 #[.int .u32 (i : Nat), .pointer (some ⟨x, 0, none⟩), .pointer (some ⟨z0, 0, none⟩), .pointer (some ⟨y, 0, none⟩)] w fun e w' => e = .returned (.int .u8 ((at1X bk n i s).1 : Nat)) ∧ Xk W0 B b (at1X bk n i s).2 w' ∧ Keeps b w w' ∧ (at1X bk n i s).1 < 256 := by
  have hd : Keeps b w w.drew := Keeps.below (Below.drew (Below.refl _ _))
  have d0 := q.drew.cell 0
  have d1 := q2.drew.cell 0
  have d2 := q1.drew.cell 0
  simp only [List.getElem?_toArray, List.getElem?_cons_zero] at d0 d1 d2
  obtain ⟨v, hv⟩ : ∃ v, bk * 65536 + (n + i) % 65536 = v := ⟨_, rfl⟩
  have HR := xread_any v h.drew hl (by omega)
  rw [show at1X bk n i s = readX (bk * 65536 + (n + i) % 65536) s from rfl, hv]
  obtain ⟨z, hz⟩ : ∃ z, n + i = z := ⟨_, rfl⟩
  have hv2 : bk * 65536 + z % 65536 = v := by rw [← hz, hv]
  have HA := fun W => address_v (b := bk) (n := z) (v := v) (x := ((bk : Nat) : Int)) (z := (z : Nat)) W rfl rfl (by omega) (sum_facts hz hn hi).2.2.2.2 hv2
  obtain ⟨e1, e2, e3, e4, e5⟩ := sum_facts hz hn hi
  generalize readX v s = p1 at *
  obtain ⟨y, s1⟩ := p1
  dsimp only at *
  replace HR := Lib.hid HR
  replace HA := Lib.hid HA
  replace hd := Lib.hid hd
  replace e5 := Lib.hid e5
  clear h q q1 q2 hl hn hi hv hz hv2 hbk
  go_enter Tryz.func227, Tryz.ntmps227
  go_upto_region 1 with (fail)
  refine wp_region_still_tail 6 (by kernel_rfl) (by kernel_rfl) ?_
  simp only [List.take_succ_cons, List.take_zero, List.drop_succ_cons, List.drop_zero]
  repeat still_step
  still_call ((HA.out _).mono (by rintro e w' ⟨rfl, rfl⟩; exact ⟨rfl, rfl⟩))
  refine wpStill_nil ?_
  show wpList _ _ _ _ _ w.drew
  generalize w.drew = W1 at *
  clear HA
  go_wp2_with fail
  refine HR.out.mono ?_
  rintro e w1 ⟨rfl, h1, h2, h3⟩
  go_wp2_with fail
  go_ret
  exact ⟨rfl, h1, hd.out.trans h2, h3⟩
theorem xreadAt_any {W0 w : World} {B b n m bk : Nat} {s : Xs} (h : Xk W0 B b s w) (hm : m ≤ 3) (hl : s.l.length + m ≤ 100) (hn : n < 100000) (hbk : bk < 256) :
    Calls Tryz.prog 149 #[.pointer (some ⟨b, 0, none⟩), .int .u8 (bk : Nat), .int .u32 (n : Nat), .int .u32 (m : Nat)] w fun e w' => e = .returned (.int .u32 ((numX (at1X bk n) m s).1 : Nat)) ∧ Xk W0 B b (numX (at1X bk n) m s).2 w' ∧ Keeps b w w' ∧ (numX (at1X bk n) m s).1 < 256 ^ m := by
  have hmf := makeF
  have hW := ((h.alloc (.cells #[.pointer (some ⟨b, 0, none⟩)] 151)).alloc (.cells #[.int .u8 (bk : Nat)] 5)).alloc (.cells #[.int .u32 (n : Nat)] 33)
  have hX := ((Whole.fresh w 151 #[.pointer (some ⟨b, 0, none⟩)]).alloc (.cells #[.int .u8 (bk : Nat)] 5)).alloc (.cells #[.int .u32 (n : Nat)] 33)
  have hZ := (Whole.fresh (w.alloc (.cells #[.pointer (some ⟨b, 0, none⟩)] 151)) 5 #[.int .u8 (bk : Nat)]).alloc (.cells #[.int .u32 (n : Nat)] 33)
  have hY := Whole.fresh ((w.alloc (.cells #[.pointer (some ⟨b, 0, none⟩)] 151)).alloc (.cells #[.int .u8 (bk : Nat)] 5)) 33 #[.int .u32 (n : Nat)]
  simp only [World.size_alloc] at hY hZ
  have hK := (((Keeps.refl b w).alloc (.cells #[.pointer (some ⟨b, 0, none⟩)] 151)).alloc (.cells #[.int .u8 (bk : Nat)] 5)).alloc (.cells #[.int .u32 (n : Nat)] 33)
  have hne : w.heap.size ≠ b := by have := h.lt; omega
  have hne2 : w.heap.size + 1 ≠ b := by have := h.lt; omega
  have hne3 : w.heap.size + 1 + 1 ≠ b := by have := h.lt; omega
  have HN := xnumber_any (k := 227) (F := at1X bk n) (caps := #[.pointer (some ⟨w.heap.size, 0, none⟩), .pointer (some ⟨w.heap.size + 1, 0, none⟩), .pointer (some ⟨w.heap.size + 1 + 1, 0, none⟩)]) (Q := fun W => Whole W w.heap.size 151 #[.pointer (some ⟨b, 0, none⟩)] ∧ Whole W (w.heap.size + 1) 5 #[.int .u8 (bk : Nat)] ∧ Whole W (w.heap.size + 1 + 1) 33 #[.int .u32 (n : Nat)]) hm
    (fun i s w hi hW q hl => xat1_any hW q.1 q.2.1 q.2.2 hl hn (by omega) hbk) (fun w w' q k => ⟨k _ _ _ hne (by decide) q.1, k _ _ _ hne2 (by decide) q.2.1, k _ _ _ hne3 (by decide) q.2.2⟩) (fun i => Cost.at1 bk n i) (enters_of Tryz.func227 (by kernel_rfl) rfl) hW ⟨hX, hZ, hY⟩ hl
  replace HN := Lib.hid HN
  replace hK := Lib.hid hK
  clear h hX hY hZ hW hl hm
  go_enter Tryz.func149, Tryz.ntmps149
  go_wp2_with fail
  refine HN.out.mono ?_
  rintro e w' ⟨rfl, h1, h2, h3⟩
  clear HN
  go_wp2_with fail
  go_ret
  exact ⟨rfl, h1, hK.out.trans h2, h3⟩
theorem xwriteAt_any {W0 w : World} {B b bk n v : Nat} {s : Xs} (h : Xk W0 B b s w) (hl : s.l.length ≤ 100) (hb : bk < 256) (hn : n < 4294967296) :
    Calls Tryz.prog 199 #[.pointer (some ⟨b, 0, none⟩), .int .u8 (bk : Nat), .int .u32 (n : Nat), .int .u8 (v : Nat)] w fun e w' => e = .returned (.tuple #[]) ∧ Xk W0 B b (writeAtX bk n v s).2 w' ∧ Keeps b w w' := by
  obtain ⟨z, hz⟩ : ∃ z, bk * 65536 + n % 65536 = z := ⟨_, rfl⟩
  have HA := fun W => address_v (b := bk) (n := n) (v := z) (x := ((bk : Nat) : Int)) (z := (n : Nat)) W rfl rfl hb hn hz
  have HP := fun (W : World) (hW : Xk W0 B b s W) => xput_any 2 z v hW hl
  unfold writeAtX
  rw [hz]
  have hd : Keeps b w w.drew := Keeps.below (Below.drew (Below.refl _ _))
  have hD := Lib.hid h.drew
  replace HA := Lib.hid HA
  replace HP := Lib.hid HP
  replace hd := Lib.hid hd
  have hh := Lib.hid h
  clear h hl hz
  go_enter Tryz.func199, Tryz.ntmps199
  go_wp2_with fail
  refine (HA.out _).mono ?_
  rintro e W ⟨rfl, rfl⟩
  go_wp2_with fail
  refine (HP.out _ hh.out).mono ?_
  rintro e W ⟨rfl, h1, h2⟩
  go_wp2_with fail
  go_end0
  exact ⟨rfl, h1, h2⟩
end Go.Proofs.YtnacdaodjgdnnaaGreat
