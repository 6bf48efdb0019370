/-
  A reader in memory; what is left, a piece cut off.
-/
import Derived.Test.YtnacdaodjgdnnaaGreatSvGE
import Derived.BigQuiet
namespace Go.Proofs.YtnacdaodjgdnnaaGreat
open Go.RowKit Go.Shelf
set_option maxRecDepth 100000
set_option maxHeartbeats 1000000

/-- What a reader is: its body's bytes, the place in it, the ends of its open parts. -/
structure RS where
  n : Nat
  f : Nat → Nat
  at_ : Nat
  op : Nat
  ends : Nat → Nat
def RS.endN (s : RS) : Nat := if s.op = 0 then s.n else s.ends (s.op - 1)
def RS.left (s : RS) : Nat := s.endN - s.at_
structure RS.Good (s : RS) : Prop where
  op : s.op ≤ 16
  n : s.n ≤ 16777216
  le : s.at_ ≤ s.endN
  mono : ∀ i j, i ≤ j → j < s.op → s.ends j ≤ s.ends i
  bnd : ∀ i, i < s.op → s.ends i ≤ s.n
theorem RS.Good.end_le {s : RS} (h : s.Good) : s.endN ≤ s.n := by
  unfold RS.endN
  split
  · exact Nat.le_refl _
  · exact h.bnd _ (by omega)
/-- The reader's own cells. -/
structure RHd (w : World) (b : Nat) (v : Value) (at_ : Nat) (ends : Nat → Nat) (op : Nat) : Prop where
  all : ∃ cs, Whole w b 147 cs ∧ cs.size = 19 ∧ cs[0]? = some v ∧ cs[1]? = some (.int .i64 (at_ : Nat)) ∧ (∀ i, i < 16 → cs[2 + i]? = some (.int .i64 (ends i : Nat))) ∧ cs[18]? = some (.int .i64 (op : Nat))
section
variable {w : World} {b : Nat} {v : Value} {at_ op : Nat} {ends : Nat → Nat}
theorem RHd.lt (h : RHd w b v at_ ends op) : b < w.heap.size := let ⟨_, h, _⟩ := h.all; h.lt
theorem RHd.c0 (h : RHd w b v at_ ends op) : w.cell? ⟨b, 0, none⟩ = some v := let ⟨_, h, _, h0, _⟩ := h.all; (h.cell 0).trans h0
theorem RHd.c1 (h : RHd w b v at_ ends op) : w.cell? ⟨b, 1, none⟩ = some (.int .i64 (at_ : Nat)) := let ⟨_, h, _, _, h0, _⟩ := h.all; (h.cell 1).trans h0
theorem RHd.ce (h : RHd w b v at_ ends op) (i : Nat) (hi : i < 16) : w.cell? ⟨b, 2 + i, none⟩ = some (.int .i64 (ends i : Nat)) := let ⟨_, h, _, _, _, h0, _⟩ := h.all; (h.cell (2 + i)).trans (h0 i hi)
theorem RHd.c18 (h : RHd w b v at_ ends op) : w.cell? ⟨b, 18, none⟩ = some (.int .i64 (op : Nat)) := let ⟨_, h, _, _, _, _, h0⟩ := h.all; (h.cell 18).trans h0
theorem RHd.free (h : RHd w b v at_ ends op) (i : Nat) : w.frozen? ⟨b, i, none⟩ = false := let ⟨_, h, _⟩ := h.all; h.free i
theorem RHd.kept {w' : World} (h : RHd w b v at_ ends op) (hk : w'.heap[b]? = w.heap[b]?) : RHd w' b v at_ ends op := let ⟨cs, h, r⟩ := h.all; ⟨cs, hk.trans h, r⟩
theorem RHd.set1 (h : RHd w b v at_ ends op) (q : Nat) : RHd (w.setCell ⟨b, 1, none⟩ (.int .i64 (q : Nat))) b v q ends op := by
  obtain ⟨cs, h, hs, h0, h1, hp, h2⟩ := h.all
  refine ⟨_, h.put 1 _, by simp [hs], ?_, ?_, fun i hi => ?_, ?_⟩
  · rw [Array.getElem?_setIfInBounds_ne (by omega)]; exact h0
  · rw [Array.getElem?_setIfInBounds_self_of_lt (by omega)]
  · rw [Array.getElem?_setIfInBounds_ne (by omega)]; exact hp i hi
  · rw [Array.getElem?_setIfInBounds_ne (by omega)]; exact h2
theorem RHd.set18 (h : RHd w b v at_ ends op) (q : Nat) : RHd (w.setCell ⟨b, 18, none⟩ (.int .i64 (q : Nat))) b v at_ ends q := by
  obtain ⟨cs, h, hs, h0, h1, hp, h2⟩ := h.all
  refine ⟨_, h.put 18 _, by simp [hs], ?_, ?_, fun i hi => ?_, ?_⟩
  · rw [Array.getElem?_setIfInBounds_ne (by omega)]; exact h0
  · rw [Array.getElem?_setIfInBounds_ne (by omega)]; exact h1
  · rw [Array.getElem?_setIfInBounds_ne (by omega)]; exact hp i hi
  · rw [Array.getElem?_setIfInBounds_self_of_lt (by omega)]
theorem RHd.setE (h : RHd w b v at_ ends op) (j q : Nat) (hj : j < 16) : RHd (w.setCell ⟨b, 2 + j, none⟩ (.int .i64 (q : Nat))) b v at_ (upd ends j q) op := by
  obtain ⟨cs, h, hs, h0, h1, hp, h2⟩ := h.all
  refine ⟨_, h.put (2 + j) _, by simp [hs], ?_, ?_, fun i hi => ?_, ?_⟩
  · rw [Array.getElem?_setIfInBounds_ne (by omega)]; exact h0
  · rw [Array.getElem?_setIfInBounds_ne (by omega)]; exact h1
  · unfold upd
    by_cases e : i = j
    · subst e
      rw [Array.getElem?_setIfInBounds_self_of_lt (by omega), if_pos rfl]
    · rw [Array.getElem?_setIfInBounds_ne (by omega), if_neg e]; exact hp i hi
  · rw [Array.getElem?_setIfInBounds_ne (by omega)]; exact h2
end
/-- A reader in memory. -/
structure Rd (w : World) (b : Nat) (v : Value) (s : RS) : Prop where
  head : RHd w b v s.at_ s.ends s.op
  body : Owns w v s.n s.f
  far : v.ownBlock ≠ some b
theorem Rd.kept {w w' : World} {b : Nat} {v : Value} {s : RS} (h : Rd w b v s) (hb : w'.heap[b]? = w.heap[b]?) (ho : ∀ x, v.ownBlock = some x → w'.heap[x]? = w.heap[x]?) : Rd w' b v s := by
  refine ⟨h.head.kept hb, ⟨h.body.1, ?_⟩, h.far⟩
  rcases h.body.2 with h2 | ⟨g, cap, cs, rfl, hw, h3⟩
  · exact .inl h2
  · exact .inr ⟨g, cap, cs, rfl, (ho g rfl).trans hw, h3⟩
theorem Rd.below {w w' : World} {b : Nat} {v : Value} {s : RS} (h : Rd w b v s) (hb : Below w.heap.size w w') : Rd w' b v s :=
  h.kept (hb.block b h.head.lt) (fun x hx => hb.block x (h.body.lt x hx))
theorem Rd.away {w : World} {b : Nat} {v : Value} {s : RS} (h : Rd w b v s) {x : Nat} (h1 : x ≠ b) (h2 : v.ownBlock ≠ some x) (i : Nat) (u : Value) : Rd (w.setCell ⟨x, i, none⟩ u) b v s :=
  h.kept (Below.heap_setCell _ _ _ _ (fun e => h1 e.symm)) (fun y hy => Below.heap_setCell _ _ _ _ (fun e => h2 (by rw [hy, e])))
theorem owns_awayB {w : World} {v : Value} {n b : Nat} {f : Nat → Nat} (h : Owns w v n f) (hf : v.ownBlock ≠ some b) (i : Nat) (u : Value) : Owns (w.setCell ⟨b, i, none⟩ u) v n f :=
  h.kept (row := some b) ⟨rfl, rfl, rfl, by simp [World.setCell], fun k _ hk => Below.heap_setCell _ _ _ _ (fun e => hk (by rw [e]))⟩ (.inr hf)
theorem Rd.set1 {w : World} {b : Nat} {v : Value} {s : RS} (h : Rd w b v s) (q : Nat) : Rd (w.setCell ⟨b, 1, none⟩ (.int .i64 (q : Nat))) b v { s with at_ := q } := ⟨h.head.set1 q, owns_awayB h.body h.far _ _, h.far⟩
theorem Rd.set18 {w : World} {b : Nat} {v : Value} {s : RS} (h : Rd w b v s) (q : Nat) : Rd (w.setCell ⟨b, 18, none⟩ (.int .i64 (q : Nat))) b v { s with op := q } := ⟨h.head.set18 q, owns_awayB h.body h.far _ _, h.far⟩
theorem Rd.setE {w : World} {b : Nat} {v : Value} {s : RS} (h : Rd w b v s) (j q : Nat) (hj : j < 16) : Rd (w.setCell ⟨b, 2 + j, none⟩ (.int .i64 (q : Nat))) b v { s with ends := upd s.ends j q } := ⟨h.head.setE j q hj, owns_awayB h.body h.far _ _, h.far⟩
theorem Owns.len_le {w : World} {a : Option Addr} {n c : Nat} {f : Nat → Nat} (h : Owns w (.slice a n c) n f) : n ≤ c := by
  rcases h.2 with ⟨e, h0⟩ | ⟨g, cap, cs, e, _, h1, _⟩
  · omega
  · injection e with e1 e2 e3; omega
theorem left_any {b : Nat} {v : Value} {s : RS} (w : World) (h : Rd w b v s) (hg : s.Good) :
    Calls Tryz.prog 107 #[.pointer (some ⟨b, 0, none⟩)] w fun e w' => e = .returned (.int .i64 (s.left : Nat)) ∧ ∃ q, w' = w.drewN q := by
  obtain ⟨a, c, rfl, hR⟩ := h.body.row
  have c0 := h.head.c0
  have c1 := h.head.c1
  have c18 := h.head.c18
  have hle := hg.le
  have hen := hg.end_le
  have hn := hg.n
  have h16 := hg.op
  unfold RS.left
  by_cases hop : s.op = 0
  · have hE : s.endN = s.n := if_pos hop
    rw [hE] at hle ⊢
    rw [hop] at c18
    have r1 : wrap64 ((s.n : Int) - (s.at_ : Int)) = ((s.n - s.at_ : Nat) : Int) := by unfold wrap64; omega
    have r2 : IntKind.i64.wrap ((s.n : Int) - (s.at_ : Int)) = ((s.n - s.at_ : Nat) : Int) := by simp only [IntKind.wrap_i64]; omega
    replace hle := Lib.hid hle
    replace hn := Lib.hid hn
    clear h hR hen hg hE hop h16
    go_enter Tryz.func107, Tryz.ntmps107
    go_wp2_with fail
    go_ret
    exact ⟨rfl, 0, rfl⟩
  · obtain ⟨q, hq⟩ : ∃ q, s.op = q + 1 := ⟨s.op - 1, by omega⟩
    have hE : s.endN = s.ends q := by unfold RS.endN; rw [if_neg hop, hq, Nat.add_sub_cancel]
    rw [hE] at hle hen ⊢
    rw [hq] at c18 h16
    have ce := h.head.ce q (by omega)
    generalize s.ends q = E at *
    have i1 : ((q + 1 : Nat) : Int) - 1 = (q : Int) := by omega
    have i2 : wrap64 (((q + 1 : Nat) : Int) - 1) = (q : Int) := by unfold wrap64; omega
    have i3 : IntKind.i64.wrap (((q + 1 : Nat) : Int) - 1) = (q : Int) := by simp only [IntKind.wrap_i64]; omega
    have i4 : (0 : Int) < ((q + 1 : Nat) : Int) := by omega
    have i5 : (q : Int) < 16 := by omega
    have i6 : decide (((q + 1 : Nat) : Int) > 0) = true := decide_eq_true (by omega)
    have r1 : wrap64 ((E : Int) - (s.at_ : Int)) = ((E - s.at_ : Nat) : Int) := by unfold wrap64; omega
    have r2 : IntKind.i64.wrap ((E : Int) - (s.at_ : Int)) = ((E - s.at_ : Nat) : Int) := by simp only [IntKind.wrap_i64]; omega
    replace hle := Lib.hid hle
    replace hn := Lib.hid hn
    replace hen := Lib.hid hen
    clear h hR hg hE hop hq h16
    generalize ((q + 1 : Nat) : Int) = Q at *
    go_enter Tryz.func107, Tryz.ntmps107
    go_upto_region 3 with (fail)
    go_quiet (fail)
    go_wp2_with fail
    go_ret
    exact ⟨rfl, nq, rfl⟩
end Go.Proofs.YtnacdaodjgdnnaaGreat
