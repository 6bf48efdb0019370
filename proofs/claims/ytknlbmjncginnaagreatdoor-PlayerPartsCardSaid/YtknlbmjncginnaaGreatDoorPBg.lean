/-
  A player lets an instruction begin, by the code.
-/
import Derived.Test.YtknlbmjncginnaaGreatDoorPKn
import Derived.Deep.RegionWith
namespace Go.Proofs.YtknlbmjncginnaaGreatDoor
open Go.RowKit Go.Shelf
set_option maxRecDepth 100000
set_option maxHeartbeats 4000000
set_option linter.unusedVariables false
set_option linter.unusedSimpArgs false

def byX (l : List Nat) : List Value := l.map fun x => .int .u8 (x : Nat)
/-- A player in memory. -/
structure Pk (w : World) (P : Nat) (sv : Value) (p : Pl) : Prop where
  ok : p.Ok
  cells : ∃ la lc, Whole w P 104 (plC p.r p.done sv (.slice la p.list.length lc) p.behind) ∧ ARow w la p.list ∧ p.list.length ≤ lc
  own : w.ownsRow 0 5 1 sv p.seen.length (byX p.seen)
  bok : p.behind.Ok
/-- The player's list lies in a block that is not older than B. -/
def LN (B : Nat) (w : World) (P : Nat) : Prop := ∀ a n c, w.cell? ⟨P, 9, none⟩ = some (.slice (some a) n c) → B ≤ a.block
theorem LN.of {B P n c : Nat} {w : World} {la : Option Addr} (h : w.cell? ⟨P, 9, none⟩ = some (.slice la n c)) (k : ∀ a, la = some a → B ≤ a.block) : LN B w P := fun a n' c' e => by
  rw [h] at e
  injection e with e
  injection e with e1 e2 e3
  exact k a e1
/-- A block that is none of a player's may turn. -/
theorem Pk.turn {w : World} {P : Nat} {sv : Value} {p : Pl} (h : Pk w P sv p) (X : Nat) (hP : X ≠ P) (hO : ∀ g, sv.ownBlock = some g → g ≠ X) (hL : ∀ a n c, w.cell? ⟨P, 9, none⟩ = some (.slice (some a) n c) → a.block ≠ X) {w' : World} (hF : Fr (fun k => k = X) w w') : Pk w' P sv p := by
  obtain ⟨la, lc, h1, h2, h3⟩ := h.cells
  refine ⟨h.ok, ⟨la, lc, hF.whole h1 (fun e => hP e.symm), ?_, h3⟩, hF.own h.own (fun g hg => hO g hg), h.bok⟩
  have hc := h1.cell 9
  rcases h2 with h2 | ⟨g, rfl, ⟨cs, hw⟩, hc2⟩
  · exact .inl h2
  · have hne : g ≠ X := hL ⟨g, 0, none⟩ _ _ hc
    exact .inr ⟨g, rfl, ⟨cs, hF.whole hw hne⟩, fun i hi => by
      obtain ⟨a1, a2, a3⟩ := hc2 i hi
      exact ⟨(hF.cell (a := ⟨g, i * 3, none⟩) hw.lt hne).trans a1, (hF.cell (a := ⟨g, i * 3 + 1, none⟩) hw.lt hne).trans a2, (hF.cell (a := ⟨g, i * 3 + 2, none⟩) hw.lt hne).trans a3⟩⟩
theorem own_bytes {w : World} {B n : Nat} {sv : Value} {l : List Nat} (hl : ∀ x ∈ l, x < 256) (h : w.ownsRow B 5 1 sv n (byX l)) (hn : n = l.length) : ∃ a c, sv = .slice a n c ∧ n ≤ c ∧ Row w a n (fun i => l.getD i 0) := by
  subst hn
  have hb : ∀ i, i < l.length → l.getD i 0 < 256 := fun i hi => by
    rw [List.getD_eq_getElem?_getD, List.getElem?_eq_getElem hi]
    exact hl _ (List.getElem_mem hi)
  rcases h.2 with ⟨rfl, h0⟩ | ⟨g, cap, cur, rfl, _, hw, h1, h2, h3, h4⟩
  · exact ⟨none, 0, by rw [h0], by omega, hb, .inl h0⟩
  · refine ⟨some ⟨g, 0, none⟩, cap, rfl, h1, hb, .inr ⟨g, 0, rfl, Whole.lt (t := 5) (cs := cur) hw, fun i hi => ?_⟩⟩
    have hc := h.cells (g := g) rfl i (.int .u8 (l.getD i 0 : Nat)) (by simp [byX, List.getElem?_map, hi])
    rw [Addr.add_lit, Nat.zero_add] at hc
    rw [Nat.zero_add]
    exact hc
theorem bsN_getD (l : List Nat) : bsN (fun i => l.getD i 0) l.length = l := range_getD l
/-- A slice cut to nothing. -/
def cutV : Value → Value
  | .slice a _ c => .slice a 0 c
  | v => v
theorem cutV_own (v : Value) : (cutV v).ownBlock = v.ownBlock := by
  cases v with
  | slice a n c => cases a <;> rfl
  | _ => rfl
theorem own_cut {w : World} {B n : Nat} {sv : Value} {xs : List Value} (h : w.ownsRow B 5 1 sv n xs) : w.ownsRow B 5 1 (cutV sv) 0 [] := by
  rcases h.2 with ⟨rfl, h0⟩ | ⟨g, cap, cur, rfl, hB, hw, h1, h2, h3, h4⟩
  · exact ⟨rfl, .inl ⟨rfl, rfl⟩⟩
  · exact ⟨rfl, .inr ⟨g, cap, cur, rfl, hB, hw, Nat.zero_le _, h2, h3, by simp⟩⟩
theorem begin_some {w : World} {P g cap : Nat} (r r0 : Rp) (d0 n0 : Nat) (lv : Value) (b0 : Rp) (hr : r.Ok) (hP : Whole w P 104 (plC r0 d0 (.slice (some ⟨g, 0, none⟩) n0 cap) lv b0)) (hn : n0 ≤ cap)
    (HK : ∀ V, Whole V P 104 (plC r 0 (.slice (some ⟨g, 0, none⟩) 0 cap) lv b0) → Fr (fun k => k = P) w V → Calls Tryz.prog 65 #[.pointer (some ⟨P, 0, none⟩)] V fun e w' => e = .returned (.tuple #[]) ∧ ∃ la lc, Whole w' P 104 (plC r 0 (.slice (some ⟨g, 0, none⟩) 0 cap) (.slice la (crL r []).length lc) (crR r [])) ∧ ARow w' la (crL r []) ∧ (crL r []).length ≤ lc ∧ (crR r []).Ok ∧ FrL P la w w') :
    Calls Tryz.prog 52 #[.pointer (some ⟨P, 0, none⟩), pegV r] w fun e w' => e = .returned (.tuple #[]) ∧ ∃ la lc, Whole w' P 104 (plC r 0 (.slice (some ⟨g, 0, none⟩) 0 cap) (.slice la (crL r []).length lc) (crR r [])) ∧ ARow w' la (crL r []) ∧ (crL r []).length ≤ lc ∧ (crR r []).Ok ∧ FrL P la w w' := by
  have hx := Whole.fresh w 24 (pegC r)
  have hP1 := hP.alloc (.cells (pegC r) 24)
  have hF1 : Fr (fun k => k = P) w (w.alloc (.cells (pegC r) 24)) := Fr.of ((Below.refl w.heap.size w).alloc (Nat.le_refl _) _)
  unfold pegC at hx hP1 hF1
  unfold plC at hP1
  replace HK := Lib.hid HK
  unfold pegV
  go_enter Tryz.func52, Tryz.ntmps52
  go_upto_region 1 with (fail)
  generalize w.alloc (.cells #[.int .u8 (r.A : Nat), .int .u8 (r.X : Nat), .int .u8 (r.Y : Nat), .int .u8 (r.S : Nat), .int .u8 (r.P : Nat), .int .u16 (r.Pc : Nat), .bool r.H] 24) = W1 at *
  generalize w.heap.size = X at *
  have x0 := hx.cell 0
  have x1 := hx.cell 1
  have x2 := hx.cell 2
  have x3 := hx.cell 3
  have x4 := hx.cell 4
  have x5 := hx.cell 5
  have x6 := hx.cell 6
  have c0 := hP1.cell 0
  have c1 := hP1.cell 1
  have c2 := hP1.cell 2
  have c3 := hP1.cell 3
  have c4 := hP1.cell 4
  have c5 := hP1.cell 5
  have c6 := hP1.cell 6
  have c7 := hP1.cell 7
  have c8 := hP1.cell 8
  have q0 := hP1.free 0
  have q1 := hP1.free 1
  have q2 := hP1.free 2
  have q3 := hP1.free 3
  have q4 := hP1.free 4
  have q5 := hP1.free 5
  have q6 := hP1.free 6
  have q7 := hP1.free 7
  have q8 := hP1.free 8
  simp only [List.getElem?_toArray, List.getElem?_cons_zero, List.getElem?_cons_succ] at x0 x1 x2 x3 x4 x5 x6 c0 c1 c2 c3 c4 c5 c6 c7 c8
  replace hx := Lib.hid hx
  replace hP1 := Lib.hid hP1
  replace hF1 := Lib.hid hF1
  clear hP
  have hS := Lib.hid fun (V : World) (hV : Whole V P 104 #[.int .u8 (r0.A : Nat), .int .u8 (r0.X : Nat), .int .u8 (r0.Y : Nat), .int .u8 (r0.S : Nat), .int .u8 (r0.P : Nat), .int .u16 (r0.Pc : Nat), .bool r0.H, .int .u8 (d0 : Nat), .slice (some ⟨g, 0, none⟩) n0 cap, lv, .int .u8 (b0.A : Nat), .int .u8 (b0.X : Nat), .int .u8 (b0.Y : Nat), .int .u8 (b0.S : Nat), .int .u8 (b0.P : Nat), .int .u16 (b0.Pc : Nat), .bool b0.H]) (hF : Fr (fun k => k = P) w V) =>
    And.intro (((((((((hV.put 0 (.int .u8 (r.A : Nat))).put 1 (.int .u8 (r.X : Nat))).put 2 (.int .u8 (r.Y : Nat))).put 3 (.int .u8 (r.S : Nat))).put 4 (.int .u8 (r.P : Nat))).put 5 (.int .u16 (r.Pc : Nat))).put 6 (.bool r.H)).put 7 (.int .u8 0)).put 8 (.slice (some ⟨g, 0, none⟩) 0 cap)) (((((((((hF.setCell (p := ⟨P, 0, none⟩) rfl (.int .u8 (r.A : Nat))).setCell (p := ⟨P, 1, none⟩) rfl (.int .u8 (r.X : Nat))).setCell (p := ⟨P, 2, none⟩) rfl (.int .u8 (r.Y : Nat))).setCell (p := ⟨P, 3, none⟩) rfl (.int .u8 (r.S : Nat))).setCell (p := ⟨P, 4, none⟩) rfl (.int .u8 (r.P : Nat))).setCell (p := ⟨P, 5, none⟩) rfl (.int .u16 (r.Pc : Nat))).setCell (p := ⟨P, 6, none⟩) rfl (.bool r.H)).setCell (p := ⟨P, 7, none⟩) rfl (.int .u8 0)).setCell (p := ⟨P, 8, none⟩) rfl (.slice (some ⟨g, 0, none⟩) 0 cap))
  simp only [List.setIfInBounds_toArray, List.set_cons_zero, List.set_cons_succ] at hS
  go_cut [] (fun V => Whole V P 104 #[.int .u8 (r.A : Nat), .int .u8 (r.X : Nat), .int .u8 (r.Y : Nat), .int .u8 (r.S : Nat), .int .u8 (r.P : Nat), .int .u16 (r.Pc : Nat), .bool r.H, .int .u8 0, .slice (some ⟨g, 0, none⟩) 0 cap, lv, .int .u8 (b0.A : Nat), .int .u8 (b0.X : Nat), .int .u8 (b0.Y : Nat), .int .u8 (b0.S : Nat), .int .u8 (b0.P : Nat), .int .u16 (b0.Pc : Nat), .bool b0.H] ∧ Fr (fun k => k = P) w V)
  case first =>
    go_region_with (fail)
    all_goals
      have h1 := Lib.hid (hS.out _ hP1.out hF1.out)
      have h2 := Lib.hid (And.intro h1.out.1.drew (h1.out.2.trans (Fr.of (Below.drew (Below.refl _ _)))))
      clear h1
      go_wp2_with fail
      go_meet
      with_reducible exact h2.out
  case rest =>
    obtain ⟨h1, h2⟩ := hcut
    have HC := Lib.hid (HK.out wc h1 h2)
    clear HK hS x0 x1 x2 x3 x4 x5 x6 c0 c1 c2 c3 c4 c5 c6 c7 c8 q0 q1 q2 q3 q4 q5 q6 q7 q8 hx hP1 hF1
    replace h2 := Lib.hid h2
    clear h1
    go_wp2_with fail
    with_reducible refine HC.out.mono ?_
    rintro e W2 ⟨rfl, la, lc, k1, k2, k3, k4, k5⟩
    have hfin := Lib.hid (And.intro k1 (And.intro k2 (And.intro k3 (And.intro k4 k5))))
    clear HC k1 k2 k3 k4 k5 h2
    go_wp2_with fail
    first | exact ⟨rfl, la, lc, hfin.out⟩ | (go_end0; exact ⟨rfl, la, lc, hfin.out⟩)
theorem begin_nil {w : World} {P : Nat} (r r0 : Rp) (d0 : Nat) (lv : Value) (b0 : Rp) (hr : r.Ok) (hP : Whole w P 104 (plC r0 d0 (.slice none 0 0) lv b0))
    (HK : ∀ V, Whole V P 104 (plC r 0 (.slice none 0 0) lv b0) → Fr (fun k => k = P) w V → Calls Tryz.prog 65 #[.pointer (some ⟨P, 0, none⟩)] V fun e w' => e = .returned (.tuple #[]) ∧ ∃ la lc, Whole w' P 104 (plC r 0 (.slice none 0 0) (.slice la (crL r []).length lc) (crR r [])) ∧ ARow w' la (crL r []) ∧ (crL r []).length ≤ lc ∧ (crR r []).Ok ∧ FrL P la w w') :
    Calls Tryz.prog 52 #[.pointer (some ⟨P, 0, none⟩), pegV r] w fun e w' => e = .returned (.tuple #[]) ∧ ∃ la lc, Whole w' P 104 (plC r 0 (.slice none 0 0) (.slice la (crL r []).length lc) (crR r [])) ∧ ARow w' la (crL r []) ∧ (crL r []).length ≤ lc ∧ (crR r []).Ok ∧ FrL P la w w' := by
  have hx := Whole.fresh w 24 (pegC r)
  have hP1 := hP.alloc (.cells (pegC r) 24)
  have hF1 : Fr (fun k => k = P) w (w.alloc (.cells (pegC r) 24)) := Fr.of ((Below.refl w.heap.size w).alloc (Nat.le_refl _) _)
  unfold pegC at hx hP1 hF1
  unfold plC at hP1
  replace HK := Lib.hid HK
  unfold pegV
  go_enter Tryz.func52, Tryz.ntmps52
  go_upto_region 1 with (fail)
  generalize w.alloc (.cells #[.int .u8 (r.A : Nat), .int .u8 (r.X : Nat), .int .u8 (r.Y : Nat), .int .u8 (r.S : Nat), .int .u8 (r.P : Nat), .int .u16 (r.Pc : Nat), .bool r.H] 24) = W1 at *
  generalize w.heap.size = X at *
  have x0 := hx.cell 0
  have x1 := hx.cell 1
  have x2 := hx.cell 2
  have x3 := hx.cell 3
  have x4 := hx.cell 4
  have x5 := hx.cell 5
  have x6 := hx.cell 6
  have c0 := hP1.cell 0
  have c1 := hP1.cell 1
  have c2 := hP1.cell 2
  have c3 := hP1.cell 3
  have c4 := hP1.cell 4
  have c5 := hP1.cell 5
  have c6 := hP1.cell 6
  have c7 := hP1.cell 7
  have c8 := hP1.cell 8
  have q0 := hP1.free 0
  have q1 := hP1.free 1
  have q2 := hP1.free 2
  have q3 := hP1.free 3
  have q4 := hP1.free 4
  have q5 := hP1.free 5
  have q6 := hP1.free 6
  have q7 := hP1.free 7
  have q8 := hP1.free 8
  simp only [List.getElem?_toArray, List.getElem?_cons_zero, List.getElem?_cons_succ] at x0 x1 x2 x3 x4 x5 x6 c0 c1 c2 c3 c4 c5 c6 c7 c8
  replace hx := Lib.hid hx
  replace hP1 := Lib.hid hP1
  replace hF1 := Lib.hid hF1
  clear hP
  have hS := Lib.hid fun (V : World) (hV : Whole V P 104 #[.int .u8 (r0.A : Nat), .int .u8 (r0.X : Nat), .int .u8 (r0.Y : Nat), .int .u8 (r0.S : Nat), .int .u8 (r0.P : Nat), .int .u16 (r0.Pc : Nat), .bool r0.H, .int .u8 (d0 : Nat), .slice none 0 0, lv, .int .u8 (b0.A : Nat), .int .u8 (b0.X : Nat), .int .u8 (b0.Y : Nat), .int .u8 (b0.S : Nat), .int .u8 (b0.P : Nat), .int .u16 (b0.Pc : Nat), .bool b0.H]) (hF : Fr (fun k => k = P) w V) =>
    And.intro (((((((((hV.put 0 (.int .u8 (r.A : Nat))).put 1 (.int .u8 (r.X : Nat))).put 2 (.int .u8 (r.Y : Nat))).put 3 (.int .u8 (r.S : Nat))).put 4 (.int .u8 (r.P : Nat))).put 5 (.int .u16 (r.Pc : Nat))).put 6 (.bool r.H)).put 7 (.int .u8 0)).put 8 (.slice none 0 0)) (((((((((hF.setCell (p := ⟨P, 0, none⟩) rfl (.int .u8 (r.A : Nat))).setCell (p := ⟨P, 1, none⟩) rfl (.int .u8 (r.X : Nat))).setCell (p := ⟨P, 2, none⟩) rfl (.int .u8 (r.Y : Nat))).setCell (p := ⟨P, 3, none⟩) rfl (.int .u8 (r.S : Nat))).setCell (p := ⟨P, 4, none⟩) rfl (.int .u8 (r.P : Nat))).setCell (p := ⟨P, 5, none⟩) rfl (.int .u16 (r.Pc : Nat))).setCell (p := ⟨P, 6, none⟩) rfl (.bool r.H)).setCell (p := ⟨P, 7, none⟩) rfl (.int .u8 0)).setCell (p := ⟨P, 8, none⟩) rfl (.slice none 0 0))
  simp only [List.setIfInBounds_toArray, List.set_cons_zero, List.set_cons_succ] at hS
  go_cut [] (fun V => Whole V P 104 #[.int .u8 (r.A : Nat), .int .u8 (r.X : Nat), .int .u8 (r.Y : Nat), .int .u8 (r.S : Nat), .int .u8 (r.P : Nat), .int .u16 (r.Pc : Nat), .bool r.H, .int .u8 0, .slice none 0 0, lv, .int .u8 (b0.A : Nat), .int .u8 (b0.X : Nat), .int .u8 (b0.Y : Nat), .int .u8 (b0.S : Nat), .int .u8 (b0.P : Nat), .int .u16 (b0.Pc : Nat), .bool b0.H] ∧ Fr (fun k => k = P) w V)
  case first =>
    go_region_with (fail)
    all_goals
      have h1 := Lib.hid (hS.out _ hP1.out hF1.out)
      have h2 := Lib.hid (And.intro h1.out.1.drew (h1.out.2.trans (Fr.of (Below.drew (Below.refl _ _)))))
      clear h1
      go_wp2_with fail
      go_meet
      with_reducible exact h2.out
  case rest =>
    obtain ⟨h1, h2⟩ := hcut
    have HC := Lib.hid (HK.out wc h1 h2)
    clear HK hS x0 x1 x2 x3 x4 x5 x6 c0 c1 c2 c3 c4 c5 c6 c7 c8 q0 q1 q2 q3 q4 q5 q6 q7 q8 hx hP1 hF1
    replace h2 := Lib.hid h2
    clear h1
    go_wp2_with fail
    with_reducible refine HC.out.mono ?_
    rintro e W2 ⟨rfl, la, lc, k1, k2, k3, k4, k5⟩
    have hfin := Lib.hid (And.intro k1 (And.intro k2 (And.intro k3 (And.intro k4 k5))))
    clear HC k1 k2 k3 k4 k5 h2
    go_wp2_with fail
    first | exact ⟨rfl, la, lc, hfin.out⟩ | (go_end0; exact ⟨rfl, la, lc, hfin.out⟩)
/-- What a player is behind begin. -/
theorem begin_post {w w' : World} {P : Nat} {sv : Value} (r : Rp) (hr : r.Ok) (ho : w.ownsRow 0 5 1 (cutV sv) 0 []) (hne : ∀ g, (cutV sv).ownBlock = some g → g ≠ P)
    (h : ∃ la lc, Whole w' P 104 (plC r 0 (cutV sv) (.slice la (crL r []).length lc) (crR r [])) ∧ ARow w' la (crL r []) ∧ (crL r []).length ≤ lc ∧ (crR r []).Ok ∧ FrL P la w w') :
    Pk w' P (cutV sv) (Pl.new r) ∧ Fr (fun k => k = P) w w' ∧ LN w.heap.size w' P := by
  obtain ⟨la, lc, h1, h2, h3, h4, h5⟩ := h
  exact ⟨⟨Pl.new_ok hr, ⟨la, lc, h1, h2, h3⟩, h5.1.own ho (fun g hg => hne g hg), h4⟩, h5.1, LN.of (h1.cell 9) h5.2⟩
theorem begin_any {w : World} {P : Nat} {sv : Value} (r r0 : Rp) (d0 n0 : Nat) (xs : List Value) (lv : Value) (b0 : Rp) (hr : r.Ok) (hP : Whole w P 104 (plC r0 d0 sv lv b0)) (ho : w.ownsRow 0 5 1 sv n0 xs) :
    Calls Tryz.prog 52 #[.pointer (some ⟨P, 0, none⟩), pegV r] w fun e w' => e = .returned (.tuple #[]) ∧ Pk w' P (cutV sv) (Pl.new r) ∧ Fr (fun k => k = P) w w' ∧ LN w.heap.size w' P := by
  have hoc := own_cut ho
  have hne : ∀ g, (cutV sv).ownBlock = some g → g ≠ P := fun g hg e => by
    rcases hoc.2 with ⟨h1, _⟩ | ⟨g', cap, cur, h1, _, hw, _⟩
    · rw [h1] at hg; cases hg
    · rw [h1] at hg
      injection hg with hg
      have hw' : Whole w g' 5 cur := hw
      exact whole_apart hw' hP (by decide) (hg.trans e)
  have key : ∀ (a : Option Addr) (c : Nat) V, Whole V P 104 (plC r 0 (.slice a 0 c) lv b0) → Fr (fun k => k = P) w V → Calls Tryz.prog 65 #[.pointer (some ⟨P, 0, none⟩)] V fun e w' => e = .returned (.tuple #[]) ∧ ∃ la lc, Whole w' P 104 (plC r 0 (.slice a 0 c) (.slice la (crL r []).length lc) (crR r [])) ∧ ARow w' la (crL r []) ∧ (crL r []).length ≤ lc ∧ (crR r []).Ok ∧ FrL P la w w' := fun a c V hV hF => by
    refine (know_any r 0 a 0 c (fun _ => 0) lv b0 hr hV ⟨fun i hi => absurd hi (Nat.not_lt_zero _), .inl rfl⟩ (Nat.zero_le _)).mono ?_
    rintro e w' ⟨rfl, hok, la, lc, h1, h2, h3, h4⟩
    rw [show bsN (fun _ => 0) 0 = [] from rfl] at hok h1 h2 h3
    exact ⟨rfl, la, lc, h1, h2, h3, hok, FrL.trans hF h4⟩
  rcases ho.2 with ⟨rfl, h0⟩ | ⟨g, cap, cur, rfl, _, hw, h1, _⟩
  · refine (begin_nil r r0 d0 lv b0 hr hP (key none 0)).mono ?_
    rintro e w' ⟨rfl, h⟩
    have h2 := begin_post (sv := .slice none 0 0) r hr hoc hne h
    exact ⟨rfl, h2.1, h2.2.1, h2.2.2⟩
  · refine (begin_some r r0 d0 n0 lv b0 hr hP h1 (key (some ⟨g, 0, none⟩) cap)).mono ?_
    rintro e w' ⟨rfl, h⟩
    have h2 := begin_post (sv := .slice (some ⟨g, 0, none⟩) n0 cap) r hr hoc hne h
    exact ⟨rfl, h2.1, h2.2.1, h2.2.2⟩
end Go.Proofs.YtknlbmjncginnaaGreatDoor
