/-
  A player amid a cycle: what carries on from one part of the walk to the next.
-/
import Derived.Test.YtknlbmjncginnaaGreatDoorPNx
namespace Go.Proofs.YtknlbmjncginnaaGreatDoor
open Go.RowKit Go.Shelf
set_option maxRecDepth 100000
set_option maxHeartbeats 1000000
set_option linter.unusedVariables false

theorem Fr.grown {W W' : World} {o : Option Nat} (h : W.grownBy W' o) : Fr (fun k => o = some k) W W' := ⟨h.os, h.tape, h.output, h.size, fun k hk hS => h.block k hk fun e => hS e.symm⟩
theorem byte_apart {w : World} {B n X : Nat} {sv : Value} {xs : List Value} {t : TypeId} {cs : Array Value} (ho : w.ownsRow B 5 1 sv n xs) (hX : Whole w X t cs) (ht : 5 ≠ t) : ∀ g, sv.ownBlock = some g → g ≠ X := fun g hg => by
  rcases ho.2 with ⟨h1, _⟩ | ⟨g', cap, cur, h1, _, hw, _⟩
  · rw [h1] at hg; cases hg
  · rw [h1] at hg
    injection hg with hg
    have hw' : Whole w g' 5 cur := hw
    rw [← hg]
    exact whole_apart hw' hX ht
theorem byte_info : (Tryz.prog.info? 5).map (fun i => (i.zero, i.size, i.bytes)) = some (some (.int .u8 0), 1, 1) := by kernel_rfl
theorem byX_snoc (l : List Nat) (v : Nat) : byX l ++ [.int .u8 (v : Nat)] = byX (l ++ [v]) := by simp [byX]
theorem app_byte (W : World) (ty : TypeId) (sv : Value) (l : List Nat) (v X : Nat) (ho : W.ownsRow 0 5 1 sv l.length (byX l)) (hx : Whole W X 5 #[.int .u8 (v : Nat)]) (hl : l.length ≤ 100) :
    ∃ g cap W', (Builtin.append_ #[25, 25] ty #[sv, .slice (some ⟨X, 0, none⟩) 1 1]).run Tryz.prog W = .ok (.slice (some ⟨g, 0, none⟩) (l.length + 1) cap) W' ∧ W'.ownsRow 0 5 1 (.slice (some ⟨g, 0, none⟩) (l.length + 1) cap) (l ++ [v]).length (byX (l ++ [v])) ∧ W.grownBy W' sv.ownBlock ∧ (sv.ownBlock = some g ∨ g = W.heap.size) := by
  obtain ⟨i0, hi, hz0, hz1, hz2⟩ := info_parts byte_info
  obtain ⟨g, cap, W', h1, h2, h3, h4, h5⟩ := run_append_lies (P := Tryz.prog) W 25 ty 0 5 i0 _ 1 1 Tryz.underlying25 hi hz0 hz1 hz2 rfl (by omega) sv l.length (byX l) ho ⟨X, 0, none⟩ 1 1 [.int .u8 (v : Nat)] rfl (World.news_of_block (cs := #[.int .u8 (v : Nat)]) (t := 5) (fr := (0, 0)) hx) (by simp [Value.oneCell'])
    (by omega) (by unfold maxLen; omega) (by omega) (Nat.zero_le _) _ rfl
  rw [byX_snoc] at h2
  refine ⟨g, cap, W', h1, ?_, h3, h4⟩
  rw [List.length_append]
  exact h2
/-- The player's list is the old one or lies in a new block. -/
def LO (w w' : World) (P : Nat) : Prop := ∀ a n c, w'.cell? ⟨P, 9, none⟩ = some (.slice (some a) n c) → (∃ n' c', w.cell? ⟨P, 9, none⟩ = some (.slice (some ⟨a.block, 0, none⟩) n' c')) ∨ w.heap.size ≤ a.block
/-- Amid a cycle: the access lies at Z, room for the answer at T. -/
structure Mid (w : World) (P T Z g0 : Nat) (sv : Value) (x : Ac) (q : Pl) (V : World) (sv' : Value) : Prop where
  cells : ∃ la lc, Whole V P 104 (plC q.r q.done sv' (.slice la q.list.length lc) q.behind) ∧ ARow V la q.list ∧ q.list.length ≤ lc ∧ ∀ a, la = some a → a.block ≠ T ∧ (a.block = g0 ∨ w.heap.size ≤ a.block)
  own : V.ownsRow 0 5 1 sv' q.seen.length (byX q.seen)
  bok : q.behind.Ok
  fr : Fr (fun k => k = P ∨ sv.ownBlock = some k) w V
  new : sv'.ownBlock = sv.ownBlock ∨ ∀ g, sv'.ownBlock = some g → w.heap.size ≤ g
  z : Whole V Z 42 #[.int .u8 (x.1 : Nat), .int .u32 (x.2.1 : Nat), .int .u8 (x.2.2 : Nat)]
  t : Whole V T 42 #[.int .u8 0, .int .u32 0, .int .u8 0]
structure Fin2 (w : World) (P T Z g0 : Nat) (sv : Value) (x : Ac) (q : Pl) (V : World) (sv' : Value) : Prop where
  pk : Pk V P sv' q
  ln : ∀ a n c, V.cell? ⟨P, 9, none⟩ = some (.slice (some a) n c) → a.block ≠ T ∧ (a.block = g0 ∨ w.heap.size ≤ a.block)
  fr : Fr (fun k => k = P ∨ sv.ownBlock = some k) w V
  new : sv'.ownBlock = sv.ownBlock ∨ ∀ g, sv'.ownBlock = some g → w.heap.size ≤ g
  z : Whole V Z 42 #[.int .u8 (x.1 : Nat), .int .u32 (x.2.1 : Nat), .int .u8 (x.2.2 : Nat)]
  t : Whole V T 42 #[.int .u8 0, .int .u32 0, .int .u8 0]
section
variable {w V : World} {P T Z g0 : Nat} {sv sv' : Value} {x : Ac} {q : Pl}
theorem mid_know (r : Rp) (d : Nat) (sn : List Nat) (lv : Value) (b : Rp) (hr : r.Ok) (hs : ∀ y ∈ sn, y < 256) (hP : Whole V P 104 (plC r d sv' lv b)) (ho : V.ownsRow 0 5 1 sv' sn.length (byX sn))
    (hF : Fr (fun k => k = P ∨ sv.ownBlock = some k) w V) (hn : sv'.ownBlock = sv.ownBlock ∨ ∀ g, sv'.ownBlock = some g → w.heap.size ≤ g) (hz : Whole V Z 42 #[.int .u8 (x.1 : Nat), .int .u32 (x.2.1 : Nat), .int .u8 (x.2.2 : Nat)]) (ht : Whole V T 42 #[.int .u8 0, .int .u32 0, .int .u8 0]) :
    Calls Tryz.prog 65 #[.pointer (some ⟨P, 0, none⟩)] V fun e w' => e = .returned (.tuple #[]) ∧ Mid w P T Z g0 sv x ⟨r, sn, d⟩ w' sv' := by
  obtain ⟨a, c, rfl, hnc, hR⟩ := own_bytes hs ho rfl
  refine (know_any r d a sn.length c _ lv b hr hP hR hnc).mono ?_
  rintro e w' ⟨rfl, hok, la, lc, h1, h2, h3, h4⟩
  rw [bsN_getD] at hok h1 h2 h3
  exact ⟨rfl, ⟨la, lc, h1, h2, h3, fun a e => ⟨Nat.ne_of_gt (Nat.lt_of_lt_of_le ht.lt (h4.2 a e)), .inr (Nat.le_trans hF.size (h4.2 a e))⟩⟩, h4.1.own ho (byte_apart ho hP (by decide)), hok, hF.trans (h4.1.mono fun k _ e => .inl e), hn, h4.1.whole hz (whole_apart hz hP (by decide)), h4.1.whole ht (whole_apart ht hP (by decide))⟩
theorem Mid.turn (h : Mid w P T Z g0 sv x q V sv') {V' : World} (hF : Fr (fun _ => False) V V') : Mid w P T Z g0 sv x q V' sv' := by
  obtain ⟨la, lc, h1, h2, h3, h4⟩ := h.cells
  exact ⟨⟨la, lc, hF.whole h1 (fun e => e), hF.arow h2 (fun _ _ _ e => e), h3, h4⟩, hF.own h.own (fun _ _ e => e), h.bok, h.fr.trans (hF.mono fun _ _ e => e.elim), h.new, hF.whole h.z (fun e => e), hF.whole h.t (fun e => e)⟩
theorem mid_stay (h : Mid w P T Z g0 sv x q V sv') (hq : q.Ok) : Fin2 w P T Z g0 sv x q V sv' := by
  obtain ⟨la, lc, h1, h2, h3, h4⟩ := h.cells
  refine ⟨⟨hq, ⟨la, lc, h1, h2, h3⟩, h.own, h.bok⟩, fun a n c e => ?_, h.fr, h.new, h.z, h.t⟩
  have hc := h1.cell 9
  have hc' : V.cell? ⟨P, 9, none⟩ = some (.slice la q.list.length lc) := hc
  rw [hc'] at e
  injection e with e
  injection e with e1 e2 e3
  exact h4 a e1
theorem mid_begin (h : Mid w P T Z g0 sv x q V sv') : Calls Tryz.prog 52 #[.pointer (some ⟨P, 0, none⟩), pegV q.behind] V fun e w' => e = .returned (.tuple #[]) ∧ ∃ sv2, Fin2 w P T Z g0 sv x (Pl.new q.behind) w' sv2 := by
  obtain ⟨la, lc, h1, h2, h3, h4⟩ := h.cells
  refine (begin_any q.behind q.r q.done _ _ _ q.behind h.bok h1 h.own).mono ?_
  rintro e w' ⟨rfl, k1, k2, k3⟩
  refine ⟨rfl, cutV sv', k1, fun a n c e => ⟨Nat.ne_of_gt (Nat.lt_of_lt_of_le h.t.lt (k3 a n c e)), .inr (Nat.le_trans h.fr.size (k3 a n c e))⟩, h.fr.trans (k2.mono fun k _ e => .inl e), ?_, k2.whole h.z (whole_apart h.z h1 (by decide)), k2.whole h.t (whole_apart h.t h1 (by decide))⟩
  rw [cutV_own]
  exact h.new
theorem fin_end (h : Fin2 w P T Z g0 sv x q V sv') (hT : w.heap.size ≤ T) {n0 c0 : Nat} (h0 : w.cell? ⟨P, 9, none⟩ = some (.slice (some ⟨g0, 0, none⟩) n0 c0)) {V' : World} (hF : Fr (fun k => k = T) V V') : ∃ sv', Pk V' P sv' q ∧ Fr (fun k => k = P ∨ sv.ownBlock = some k) w V' ∧ (sv'.ownBlock = sv.ownBlock ∨ ∀ g, sv'.ownBlock = some g → w.heap.size ≤ g) ∧ LO w V' P := by
  obtain ⟨la, lc, h1, h2, h3⟩ := h.pk.cells
  refine ⟨sv', h.pk.turn T (whole_apart h.t h1 (by decide)) (byte_apart h.pk.own h.t (by decide)) (fun a n c e => (h.ln a n c e).1) hF, h.fr.trans2 hF (fun k hk e => by subst e; omega), h.new, fun a n c e => ?_⟩
  rw [hF.cell (a := ⟨P, 9, none⟩) h1.lt (fun e => whole_apart h.t h1 (by decide) e.symm)] at e
  rcases (h.ln a n c e).2 with k | k
  · exact .inl ⟨n0, c0, by rw [k]; exact h0⟩
  · exact .inr k
end
end Go.Proofs.YtknlbmjncginnaaGreatDoor
