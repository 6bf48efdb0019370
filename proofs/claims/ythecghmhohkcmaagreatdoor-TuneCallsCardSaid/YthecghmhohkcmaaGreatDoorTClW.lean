/-
  TuneCalls: the memory that the law lays, and the walk.
-/
import Derived.Test.YthecghmhohkcmaaGreatDoorTCl
namespace Go.Proofs.YthecghmhohkcmaaGreatDoor
open Go.RowKit Go.Shelf
set_option maxRecDepth 100000
set_option maxHeartbeats 2000000
set_option linter.unusedVariables false
set_option linter.unusedSimpArgs false

def m1 (y a b c d l h : Nat) : Nat → Nat := upd (upd (upd (upd (mem0 y) a 63) b l) c h) d 111
theorem m1_memC (y a b c d l h : Nat) : memC (mem0 y) (fun i => [a, b, c, d].getD i 0) (fun i => [63, l, h, 111].getD i 0) 4 = m1 y a b c d l h := rfl
theorem upd_at (f : Nat → Nat) (i x : Nat) : upd f i x i = x := if_pos rfl
theorem upd_ne (f : Nat → Nat) {i j : Nat} (x : Nat) (h : j ≠ i) : upd f i x j = f j := if_neg h
/-- The writes of a list of accesses, carried out. -/
def wr1 (x : Ac) (f : Nat → Nat) : Nat → Nat := if x.1 = 2 then upd f x.2.1 x.2.2 else f
def wrK (l : List Ac) (f : Nat → Nat) : Nat → Nat → Nat
  | 0 => f
  | k + 1 => wr1 (l.getD k (0, 0, 0)) (wrK l f k)
/-- Accesses that are read. -/
def ARow (w : World) (a : Option Addr) (l : List Ac) : Prop :=
  l = [] ∨ ∃ g, a = some ⟨g, 0, none⟩ ∧ (∃ cs, Whole w g 42 cs) ∧ ∀ i (h : i < l.length), w.cell? ⟨g, i * 3, none⟩ = some (.int .u8 (l[i].1 : Nat)) ∧ w.cell? ⟨g, i * 3 + 1, none⟩ = some (.int .u32 (l[i].2.1 : Nat)) ∧ w.cell? ⟨g, i * 3 + 2, none⟩ = some (.int .u8 (l[i].2.2 : Nat))
theorem accX_get : ∀ (l : List Ac) (i : Nat) (h : i < l.length), (accX l)[i * 3]? = some (.int .u8 (l[i].1 : Nat)) ∧ (accX l)[i * 3 + 1]? = some (.int .u32 (l[i].2.1 : Nat)) ∧ (accX l)[i * 3 + 2]? = some (.int .u8 (l[i].2.2 : Nat))
  | [], i, h => absurd h (Nat.not_lt_zero _)
  | x :: l, 0, _ => ⟨rfl, rfl, rfl⟩
  | x :: l, i + 1, h => by
    have ih := accX_get l i (Nat.lt_of_succ_lt_succ h)
    have e : accX (x :: l) = .int .u8 (x.1 : Nat) :: .int .u32 (x.2.1 : Nat) :: .int .u8 (x.2.2 : Nat) :: accX l := rfl
    rw [e, show (i + 1) * 3 = i * 3 + 3 by omega]
    simpa using ih
theorem arow_of {w : World} {B n : Nat} {lv : Value} {l : List Ac} (h : w.ownsRow B 42 3 lv n (accX l)) (hn : n = l.length) : ∃ a c, lv = .slice a l.length c ∧ ARow w a l ∧ l.length ≤ c := by
  subst hn
  rcases h.2 with ⟨rfl, h0⟩ | ⟨g, cap, cur, rfl, _, hw, h1, _⟩
  · exact ⟨none, 0, by rw [h0], .inl (List.eq_nil_of_length_eq_zero h0), by omega⟩
  · have hc := h.cells (g := g) rfl
    refine ⟨_, cap, rfl, .inr ⟨g, rfl, ⟨_, hw⟩, fun i hi => ?_⟩, h1⟩
    obtain ⟨a1, a2, a3⟩ := accX_get l i hi
    have k1 := hc _ _ a1
    have k2 := hc _ _ a2
    have k3 := hc _ _ a3
    rw [Addr.add_lit, Nat.zero_add] at k1 k2 k3
    exact ⟨k1, k2, k3⟩
theorem ARow.away {w : World} {a : Option Addr} {l : List Ac} (h : ARow w a l) {p : Addr} {cs : Array Value} (hp : Whole w p.block 5 cs) (u : Value) : ARow (w.setCell p u) a l := by
  rcases h with h | ⟨g, rfl, ⟨ds, hw⟩, hc⟩
  · exact .inl h
  · have hne : g ≠ p.block := whole_apart hw hp (by decide)
    have hw2 := hw.away hne u
    refine .inr ⟨g, rfl, ⟨_, hw2⟩, fun i hi => ?_⟩
    obtain ⟨h1, h2, h3⟩ := hc i hi
    rw [hw.cell] at h1 h2 h3
    exact ⟨by rw [hw2.cell, h1], by rw [hw2.cell, h2], by rw [hw2.cell, h3]⟩
theorem ARow.below {w w' : World} {a : Option Addr} {l : List Ac} (h : ARow w a l) (hb : Below w.heap.size w w') : ARow w' a l := by
  rcases h with h | ⟨g, rfl, ⟨ds, hw⟩, hc⟩
  · exact .inl h
  · refine .inr ⟨g, rfl, ⟨_, hw.below hb hw.lt⟩, fun i hi => ?_⟩
    obtain ⟨h1, h2, h3⟩ := hc i hi
    exact ⟨(hb.cell (p := ⟨g, i * 3, none⟩) hw.lt).trans h1, (hb.cell (p := ⟨g, i * 3 + 1, none⟩) hw.lt).trans h2, (hb.cell (p := ⟨g, i * 3 + 2, none⟩) hw.lt).trans h3⟩
/-- Run of a memory whose outcome is known. -/
theorem runlaw_at (r r' : Rp) (x : Nat) (f : Nat → Nat) (l : List Ac) (n : Nat) (a : Option Addr) (c : Nat) (w : World) (hr : r.Ok) (hR : Row w a 65536 f) (hc : 65536 ≤ c) (hx : f (r.Pc % 65536) = x) (hA : ∀ K, ActOk K x actM)
    (h2 : (go (runM actM r) [] ⟨some f, []⟩).2.2 = some ((), r')) (hl : (go (runM actM r) [] ⟨some f, []⟩).1 = l) (hn : l.length = n) :
    Calls Tryz.prog 16 #[pegV r, .slice a 65536 c] w fun e w' => (∃ la lc, e = .returned (.tuple #[.slice la n lc, pegV r', .int .i64 0]) ∧ ARow w' la l ∧ n ≤ lc) ∧ Below w.heap.size w w' ∧ r'.Ok := by
  refine (runlaw_any actM r a c f w hr hR hc (fun K s1 c h => ?_)).mono ?_
  · rw [fetch_mem h, hx]
    exact hA K
  · intro en w' hp
    obtain ⟨s', lv, hb, ho, -, h, hok, rfl⟩ := hp
    unfold Ran s0 at h
    dsimp only at h
    rw [h] at h2 hl
    injection h2 with h2
    injection h2 with _ h2
    subst h2
    dsimp only at hl
    subst hl
    obtain ⟨la, lc, rfl, har, hlc⟩ := arow_of ho rfl
    subst hn
    exact ⟨⟨la, lc, rfl, har, hlc⟩, hb, hok⟩
def callL (S q Pc p1 p2 pn : Nat) : List Ac := [(1, Pc, 0), (1, p1, 0), (1, p2, 0), (0, 0, 0), (0, 0, 0), (0, 0, 0), (2, 256 + S, pn / 256), (2, 256 + q, pn % 256)]
theorem go_call (A X Y S P Pc d y q p1 p2 lo hi pn : Nat) (hS : S < 256) (hPc : Pc < 65536) (hd : d < 65536) (hq : q = (S + 255) % 256) (h1 : p1 = (Pc + 1) % 65536) (h2 : p2 = (Pc + 2) % 65536) (hl : lo = d % 256) (hh : hi = d / 256) (hn : pn = (Pc + 3) % 65536)
    (hc : (Pc ≠ p1 ∧ Pc ≠ p2 ∧ p1 ≠ p2) ∧ (d ≠ Pc ∧ d ≠ p1 ∧ d ≠ p2)) :
    go (runM actM ⟨A, X, Y, S, P, Pc, false⟩) [] ⟨some (m1 y Pc p1 p2 d lo hi), []⟩ = (callL S q Pc p1 p2 pn, ⟨some (m1 y Pc p1 p2 d lo hi), []⟩, some ((), ⟨A, X, Y, (S + 254) % 256, P, d, false⟩)) := by
  have f0 : m1 y Pc p1 p2 d lo hi Pc = 63 := by
    unfold m1; rw [upd_ne _ _ (by omega), upd_ne _ _ (by omega), upd_ne _ _ (by omega), upd_at]
  have f1 : m1 y Pc p1 p2 d lo hi p1 = lo := by
    unfold m1; rw [upd_ne _ _ (by omega), upd_ne _ _ (by omega), upd_at]
  have f2 : m1 y Pc p1 p2 d lo hi p2 = hi := by
    unfold m1; rw [upd_ne _ _ (by omega), upd_at]
  generalize m1 y Pc p1 p2 d lo hi = f at *
  have e0 : Pc % 65536 = Pc := by omega
  have e1 : (Pc + 1) % 65536 = p1 := by omega
  have e2 : (p1 + 1) % 65536 = p2 := by omega
  have e3 : (p2 + 1) % 65536 = pn := by omega
  have e4 : p1 % 65536 = p1 := by omega
  have e5 : p2 % 65536 = p2 := by omega
  have e6 : (256 + S) % 65536 = 256 + S := by omega
  have e7 : (S + 255) % 256 = q := hq.symm
  have e8 : (256 + q) % 65536 = 256 + q := by omega
  have e9 : pn / 256 % 256 = pn / 256 := by omega
  have e10 : pn % 256 % 256 = pn % 256 := by omega
  have e11 : (q + 255) % 256 = (S + 254) % 256 := by omega
  have e12 : 0 + lo * 256 ^ 0 + hi * 256 ^ 1 = d := by omega
  rw [go63 A X Y S P Pc f (by rw [e0]; exact f0)]
  simp only [e0, e1, e2, e3, e4, e5, e6, e7, e8, e9, e10, e11, f1, f2, e12, callL]
theorem go_back (A X Y S P Pc d y q p1 p2 lo hi pn : Nat) (hS : S < 256) (hd : d < 65536) (hq : q = (S + 255) % 256) (hn : pn < 65536) (hd1 : d ≠ 256 + S) (hd2 : d ≠ 256 + q) :
    wrK (callL S q Pc p1 p2 pn) (m1 y Pc p1 p2 d lo hi) 8 (d % 65536) = 111 ∧
    (go (runM actM ⟨A, X, Y, (S + 254) % 256, P, d, false⟩) [] ⟨some (wrK (callL S q Pc p1 p2 pn) (m1 y Pc p1 p2 d lo hi) 8), []⟩).2.2 = some ((), ⟨A, X, Y, S, P, pn, false⟩) := by
  have e : wrK (callL S q Pc p1 p2 pn) (m1 y Pc p1 p2 d lo hi) 8 = upd (upd (m1 y Pc p1 p2 d lo hi) (256 + S) (pn / 256)) (256 + q) (pn % 256) := rfl
  rw [e]
  have f0 : upd (upd (m1 y Pc p1 p2 d lo hi) (256 + S) (pn / 256)) (256 + q) (pn % 256) d = 111 := by
    rw [upd_ne _ _ hd2, upd_ne _ _ hd1]; unfold m1; rw [upd_at]
  have f1 : upd (upd (m1 y Pc p1 p2 d lo hi) (256 + S) (pn / 256)) (256 + q) (pn % 256) (256 + q) = pn % 256 := upd_at _ _ _
  have f2 : upd (upd (m1 y Pc p1 p2 d lo hi) (256 + S) (pn / 256)) (256 + q) (pn % 256) (256 + S) = pn / 256 := by
    rw [upd_ne _ _ (by omega), upd_at]
  generalize upd (upd (m1 y Pc p1 p2 d lo hi) (256 + S) (pn / 256)) (256 + q) (pn % 256) = f at *
  have e0 : d % 65536 = d := by omega
  have e1 : ((S + 254) % 256 + 1) % 256 = q := by omega
  have e2 : (q + 1) % 256 = S := by omega
  have e6 : (256 + S) % 65536 = 256 + S := by omega
  have e8 : (256 + q) % 65536 = 256 + q := by omega
  have e9 : pn / 256 * 256 + pn % 256 = pn := by omega
  refine ⟨by rw [e0]; exact f0, ?_⟩
  rw [go111 A X Y _ P d f (by rw [e0]; exact f0)]
  simp only [e1, e2, e6, e8, f1, f2, e9]
end Go.Proofs.YthecghmhohkcmaaGreatDoor
