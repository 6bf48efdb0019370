/-
  A reader in memory; what is left, a piece cut off.
-/
import Derived.Test.YtbdhdedlemndeaaDoorSvGE
import Derived.BigQuiet
import Derived.Test.YtbdhdedlemndeaaDoorSvGA
namespace Go.Proofs.YtbdhdedlemndeaaDoor
open Go.RowKit Go.Shelf
set_option maxRecDepth 100000
set_option maxHeartbeats 1000000

/-- What a reader is: its body's bytes, the place in it, the ends of its open parts. -/
structure RS where
  n : Nat
  f : Nat → Nat
  at_ : Nat
  op : Nat
  ends : Nat → Nat
def RS.endN (s : RS) : Nat := if s.op = 0 then s.n else s.ends (s.op - 1)
def RS.left (s : RS) : Nat := s.endN - s.at_
structure RS.Good (s : RS) : Prop where
  op : s.op ≤ 16
  n : s.n ≤ 16777216
  le : s.at_ ≤ s.endN
  mono : ∀ i j, i ≤ j → j < s.op → s.ends j ≤ s.ends i
  bnd : ∀ i, i < s.op → s.ends i ≤ s.n
theorem RS.Good.end_le {s : RS} (h : s.Good) : s.endN ≤ s.n := by
  unfold RS.endN
  split
  · exact Nat.le_refl _
  · exact h.bnd _ (by omega)
/-- The reader's own cells. -/
structure RHd (w : World) (b : Nat) (v : Value) (at_ : Nat) (ends : Nat → Nat) (op : Nat) : Prop where
  all : ∃ cs, Whole w b 86 cs ∧ cs.size = 19 ∧ cs[0]? = some v ∧ cs[1]? = some (.int .i64 (at_ : Nat)) ∧ (∀ i, i < 16 → cs[2 + i]? = some (.int .i64 (ends i : Nat))) ∧ cs[18]? = some (.int .i64 (op : Nat))
section
variable {w : World} {b : Nat} {v : Value} {at_ op : Nat} {ends : Nat → Nat}
theorem RHd.lt (h : RHd w b v at_ ends op) : b < w.heap.size := let ⟨_, h, _⟩ := h.all; h.lt
theorem RHd.c0 (h : RHd w b v at_ ends op) : w.cell? ⟨b, 0, none⟩ = some v := let ⟨_, h, _, h0, _⟩ := h.all; (h.cell 0).trans h0
theorem RHd.c1 (h : RHd w b v at_ ends op) : w.cell? ⟨b, 1, none⟩ = some (.int .i64 (at_ : Nat)) := let ⟨_, h, _, _, h0, _⟩ := h.all; (h.cell 1).trans h0
theorem RHd.ce (h : RHd w b v at_ ends op) (i : Nat) (hi : i < 16) : w.cell? ⟨b, 2 + i, none⟩ = some (.int .i64 (ends i : Nat)) := let ⟨_, h, _, _, _, h0, _⟩ := h.all; (h.cell (2 + i)).trans (h0 i hi)
theorem RHd.c18 (h : RHd w b v at_ ends op) : w.cell? ⟨b, 18, none⟩ = some (.int .i64 (op : Nat)) := let ⟨_, h, _, _, _, _, h0⟩ := h.all; (h.cell 18).trans h0
theorem RHd.free (h : RHd w b v at_ ends op) (i : Nat) : w.frozen? ⟨b, i, none⟩ = false := let ⟨_, h, _⟩ := h.all; h.free i
theorem RHd.kept {w' : World} (h : RHd w b v at_ ends op) (hk : w'.heap[b]? = w.heap[b]?) : RHd w' b v at_ ends op := let ⟨cs, h, r⟩ := h.all; ⟨cs, hk.trans h, r⟩
theorem RHd.set1 (h : RHd w b v at_ ends op) (q : Nat) : RHd (w.setCell ⟨b, 1, none⟩ (.int .i64 (q : Nat))) b v q ends op := by
  obtain ⟨cs, h, hs, h0, h1, hp, h2⟩ := h.all
  refine ⟨_, h.put 1 _, by simp [hs], ?_, ?_, fun i hi => ?_, ?_⟩
  · rw [Array.getElem?_setIfInBounds_ne (by omega)]; exact h0
  · rw [Array.getElem?_setIfInBounds_self_of_lt (by omega)]
  · rw [Array.getElem?_setIfInBounds_ne (by omega)]; exact hp i hi
  · rw [Array.getElem?_setIfInBounds_ne (by omega)]; exact h2
theorem RHd.set18 (h : RHd w b v at_ ends op) (q : Nat) : RHd (w.setCell ⟨b, 18, none⟩ (.int .i64 (q : Nat))) b v at_ ends q := by
  obtain ⟨cs, h, hs, h0, h1, hp, h2⟩ := h.all
  refine ⟨_, h.put 18 _, by simp [hs], ?_, ?_, fun i hi => ?_, ?_⟩
  · rw [Array.getElem?_setIfInBounds_ne (by omega)]; exact h0
  · rw [Array.getElem?_setIfInBounds_ne (by omega)]; exact h1
  · rw [Array.getElem?_setIfInBounds_ne (by omega)]; exact hp i hi
  · rw [Array.getElem?_setIfInBounds_self_of_lt (by omega)]
theorem RHd.setE (h : RHd w b v at_ ends op) (j q : Nat) (hj : j < 16) : RHd (w.setCell ⟨b, 2 + j, none⟩ (.int .i64 (q : Nat))) b v at_ (upd ends j q) op := by
  obtain ⟨cs, h, hs, h0, h1, hp, h2⟩ := h.all
  refine ⟨_, h.put (2 + j) _, by simp [hs], ?_, ?_, fun i hi => ?_, ?_⟩
  · rw [Array.getElem?_setIfInBounds_ne (by omega)]; exact h0
  · rw [Array.getElem?_setIfInBounds_ne (by omega)]; exact h1
  · unfold upd
    by_cases e : i = j
    · subst e
      rw [Array.getElem?_setIfInBounds_self_of_lt (by omega), if_pos rfl]
    · rw [Array.getElem?_setIfInBounds_ne (by omega), if_neg e]; exact hp i hi
  · rw [Array.getElem?_setIfInBounds_ne (by omega)]; exact h2
end
/-- A reader in memory. -/
structure Rd (w : World) (b : Nat) (v : Value) (s : RS) : Prop where
  head : RHd w b v s.at_ s.ends s.op
  body : Owns w v s.n s.f
  far : v.ownBlock ≠ some b
theorem Rd.kept {w w' : World} {b : Nat} {v : Value} {s : RS} (h : Rd w b v s) (hb : w'.heap[b]? = w.heap[b]?) (ho : ∀ x, v.ownBlock = some x → w'.heap[x]? = w.heap[x]?) : Rd w' b v s := by
  refine ⟨h.head.kept hb, ⟨h.body.1, ?_⟩, h.far⟩
  rcases h.body.2 with h2 | ⟨g, cap, cs, rfl, hw, h3⟩
  · exact .inl h2
  · exact .inr ⟨g, cap, cs, rfl, (ho g rfl).trans hw, h3⟩
theorem Rd.below {w w' : World} {b : Nat} {v : Value} {s : RS} (h : Rd w b v s) (hb : Below w.heap.size w w') : Rd w' b v s :=
  h.kept (hb.block b h.head.lt) (fun x hx => hb.block x (h.body.lt x hx))
theorem Rd.away {w : World} {b : Nat} {v : Value} {s : RS} (h : Rd w b v s) {x : Nat} (h1 : x ≠ b) (h2 : v.ownBlock ≠ some x) (i : Nat) (u : Value) : Rd (w.setCell ⟨x, i, none⟩ u) b v s :=
  h.kept (Below.heap_setCell _ _ _ _ (fun e => h1 e.symm)) (fun y hy => Below.heap_setCell _ _ _ _ (fun e => h2 (by rw [hy, e])))
theorem owns_awayB {w : World} {v : Value} {n b : Nat} {f : Nat → Nat} (h : Owns w v n f) (hf : v.ownBlock ≠ some b) (i : Nat) (u : Value) : Owns (w.setCell ⟨b, i, none⟩ u) v n f :=
  h.kept (row := some b) ⟨rfl, rfl, rfl, by simp [World.setCell], fun k _ hk => Below.heap_setCell _ _ _ _ (fun e => hk (by rw [e]))⟩ (.inr hf)
theorem Rd.set1 {w : World} {b : Nat} {v : Value} {s : RS} (h : Rd w b v s) (q : Nat) : Rd (w.setCell ⟨b, 1, none⟩ (.int .i64 (q : Nat))) b v { s with at_ := q } := ⟨h.head.set1 q, owns_awayB h.body h.far _ _, h.far⟩
theorem Rd.set18 {w : World} {b : Nat} {v : Value} {s : RS} (h : Rd w b v s) (q : Nat) : Rd (w.setCell ⟨b, 18, none⟩ (.int .i64 (q : Nat))) b v { s with op := q } := ⟨h.head.set18 q, owns_awayB h.body h.far _ _, h.far⟩
theorem Rd.setE {w : World} {b : Nat} {v : Value} {s : RS} (h : Rd w b v s) (j q : Nat) (hj : j < 16) : Rd (w.setCell ⟨b, 2 + j, none⟩ (.int .i64 (q : Nat))) b v { s with ends := upd s.ends j q } := ⟨h.head.setE j q hj, owns_awayB h.body h.far _ _, h.far⟩
theorem Owns.len_le {w : World} {a : Option Addr} {n c : Nat} {f : Nat → Nat} (h : Owns w (.slice a n c) n f) : n ≤ c := by
  rcases h.2 with ⟨e, h0⟩ | ⟨g, cap, cs, e, _, h1, _⟩
  · omega
  · injection e with e1 e2 e3; omega
theorem left_any {b : Nat} {v : Value} {s : RS} (w : World) (h : Rd w b v s) (hg : s.Good) :
    Calls Tryd.prog 49 #[.pointer (some ⟨b, 0, none⟩)] w fun e w' => e = .returned (.int .i64 (s.left : Nat)) ∧ ∃ q, w' = w.drewN q := by
  obtain ⟨a, c, rfl, hR⟩ := h.body.row
  have c0 := h.head.c0
  have c1 := h.head.c1
  have c18 := h.head.c18
  have hle := hg.le
  have hen := hg.end_le
  have hn := hg.n
  have h16 := hg.op
  unfold RS.left
  by_cases hop : s.op = 0
  · have hE : s.endN = s.n := if_pos hop
    rw [hE] at hle ⊢
    rw [hop] at c18
    have r1 : wrap64 ((s.n : Int) - (s.at_ : Int)) = ((s.n - s.at_ : Nat) : Int) := by unfold wrap64; omega
    have r2 : IntKind.i64.wrap ((s.n : Int) - (s.at_ : Int)) = ((s.n - s.at_ : Nat) : Int) := by simp only [IntKind.wrap_i64]; omega
    replace hle := Lib.hid hle
    replace hn := Lib.hid hn
    clear h hR hen hg hE hop h16
    go_enter Tryd.func49, Tryd.ntmps49
    go_wp2_with fail
    go_ret
    exact ⟨rfl, 0, rfl⟩
  · obtain ⟨q, hq⟩ : ∃ q, s.op = q + 1 := ⟨s.op - 1, by omega⟩
    have hE : s.endN = s.ends q := by unfold RS.endN; rw [if_neg hop, hq, Nat.add_sub_cancel]
    rw [hE] at hle hen ⊢
    rw [hq] at c18 h16
    have ce := h.head.ce q (by omega)
    generalize s.ends q = E at *
    have i1 : ((q + 1 : Nat) : Int) - 1 = (q : Int) := by omega
    have i2 : wrap64 (((q + 1 : Nat) : Int) - 1) = (q : Int) := by unfold wrap64; omega
    have i3 : IntKind.i64.wrap (((q + 1 : Nat) : Int) - 1) = (q : Int) := by simp only [IntKind.wrap_i64]; omega
    have i4 : (0 : Int) < ((q + 1 : Nat) : Int) := by omega
    have i5 : (q : Int) < 16 := by omega
    have i6 : decide (((q + 1 : Nat) : Int) > 0) = true := decide_eq_true (by omega)
    have r1 : wrap64 ((E : Int) - (s.at_ : Int)) = ((E - s.at_ : Nat) : Int) := by unfold wrap64; omega
    have r2 : IntKind.i64.wrap ((E : Int) - (s.at_ : Int)) = ((E - s.at_ : Nat) : Int) := by simp only [IntKind.wrap_i64]; omega
    replace hle := Lib.hid hle
    replace hn := Lib.hid hn
    replace hen := Lib.hid hen
    clear h hR hg hE hop hq h16
    generalize ((q + 1 : Nat) : Int) = Q at *
    go_enter Tryd.func49, Tryd.ntmps49
    go_upto_region 3 with (fail)
    go_quiet (fail)
    go_wp2_with fail
    go_ret
    exact ⟨rfl, nq, rfl⟩
end Go.Proofs.YtbdhdedlemndeaaDoor
namespace Go.Proofs.YtbdhdedlemndeaaDoor
open Go.RowKit Go.Shelf
set_option maxRecDepth 100000
set_option maxHeartbeats 1000000

theorem cell_of_block {w w' : World} {b : Nat} (h : w'.heap[b]? = w.heap[b]?) (i : Nat) : w'.cell? ⟨b, i, none⟩ = w.cell? ⟨b, i, none⟩ := by simp [World.cell?, h]
theorem Row.kept {w w' : World} {a : Option Addr} {n : Nat} {f : Nat → Nat} (h : Row w a n f) (hs : w.heap.size ≤ w'.heap.size) (hb : ∀ ad, a = some ad → w'.heap[ad.block]? = w.heap[ad.block]?) : Row w' a n f :=
  ⟨h.1, h.2.imp id fun ⟨b, o, e, hl, hc⟩ => ⟨b, o, e, Nat.lt_of_lt_of_le hl hs, fun i hi => (cell_of_block (hb _ e) _).trans (hc i hi)⟩⟩
theorem below_only2 {a w w' : World} {g : Nat} (h : a.grownBy w (some g)) (k : Below w.heap.size w w') : a.grownBy w' (some g) :=
  ⟨k.os.trans h.os, k.tape.trans h.tape, k.output.trans h.output, Nat.le_trans h.size k.size, fun b hb hne => (k.block b (Nat.lt_of_lt_of_le hb h.size)).trans (h.block b hb hne)⟩
theorem cut_no {b m : Nat} {v : Value} {s : RS} (w : World) (h : Rd w b v s) (hg : s.Good) (hm : s.left < m) :
    Calls Tryd.prog 87 #[.pointer (some ⟨b, 0, none⟩), .int .i64 m] w fun e w' => e = fault 56 ∧ ∃ q, w' = w.drewN q := by
  have HL := Lib.hid (left_any w h hg)
  have i1 : decide ((m : Int) > (s.left : Int)) = true := decide_eq_true (by omega)
  have i2 : ((s.left : Nat) : Int) < (m : Int) := by omega
  generalize s.left = L at *
  replace hm := Lib.hid hm
  clear h hg
  go_enter Tryd.func87, Tryd.ntmps87
  go_wp2_with fail
  refine HL.out.mono ?_
  rintro e w' ⟨rfl, q, rfl⟩
  go_wp2_with fail
  refine (refuse_yes _ _).mono ?_
  rintro e w' ⟨rfl, rfl⟩
  unfold fault
  go_wp2_with fail
  exact ⟨rfl, by rfl, q, rfl⟩
theorem cut_ok {b m : Nat} {v : Value} {s : RS} (w : World) (h : Rd w b v s) (hg : s.Good) (hm : m ≤ s.left) :
    Calls Tryd.prog 87 #[.pointer (some ⟨b, 0, none⟩), .int .i64 m] w fun e w' => ∃ a' c', e = .returned (.slice a' m c') ∧ Row w' a' m (shiftF s.at_ s.f) ∧ m ≤ c' ∧ (a' = none → m = 0 ∧ c' = 0) ∧ Rd w' b v { s with at_ := s.at_ + m } ∧ w.grownBy w' (some b) := by
  have HL := Lib.hid (left_any w h hg)
  have i1 : decide ((m : Int) > (s.left : Int)) = false := decide_eq_false (by omega)
  have i2 : ¬ s.left < m := by omega
  have hlm : s.at_ + m ≤ s.n := by have := hg.end_le; have := hg.le; unfold RS.left at hm; omega
  have hn := hg.n
  obtain ⟨L, hL⟩ : ∃ L, s.left = L := ⟨_, rfl⟩
  rw [hL] at HL i1 i2
  replace hL := Lib.hid hL
  replace hm := Lib.hid hm
  replace hg := Lib.hid hg
  obtain ⟨a, c, rfl, hR⟩ := h.body.row
  have hnc := h.body.len_le
  have hH := Lib.hid h
  have hr0 := Lib.hid hR
  clear h hR
  go_enter Tryd.func87, Tryd.ntmps87
  go_wp2_with fail
  refine HL.out.mono ?_
  rintro e w' ⟨rfl, q, rfl⟩
  go_wp2_with fail
  refine (refuse_no _ _).mono ?_
  rintro e w' ⟨rfl, rfl⟩
  have hb0 := below_drewN (Below.refl w.heap.size w) q
  have hH1 := Lib.hid (hH.out.below hb0)
  have hr1 := Lib.hid (hr0.out.below hb0)
  have hg1 := Below.only hb0 b
  generalize w.drewN q = W1 at *
  clear HL hH hr0 hb0
  have c0 := hH1.out.head.c0
  have c1 := hH1.out.head.c1
  have f1 := hH1.out.head.free 1
  have w1 : wrap64 ((s.at_ : Int) + (m : Int)) = ((s.at_ + m : Nat) : Int) := by unfold wrap64; omega
  have w2 : IntKind.i64.wrap ((s.at_ : Int) + (m : Int)) = ((s.at_ + m : Nat) : Int) := by simp only [IntKind.wrap_i64]; omega
  have w3 : IntKind.i64.wrap (m : Int) = (m : Int) := by simp only [IntKind.wrap_i64]; omega
  have j1 : (s.at_ : Int) ≤ (s.n : Int) := by omega
  have j2 : (s.n : Int) ≤ (c : Int) := by omega
  have j3 : (s.at_ : Int) ≤ (c : Int) := by omega
  obtain ⟨A, hA⟩ : ∃ A, s.at_ = A := ⟨_, rfl⟩
  obtain ⟨N, hN⟩ : ∃ N, s.n = N := ⟨_, rfl⟩
  rw [hA] at c1 w1 w2 j1 j3 hlm
  rw [hN] at c0 j1 j2 hlm hnc hn hr1
  go_upto_region 2 with (fail)
  by_cases hcap : c = A
  · subst hcap
    obtain rfl : m = 0 := by omega
    go_quiet (fail)
    have hbN := below_drewN (Below.refl W1.heap.size W1) nq
    have hH2 := hH1.out.below hbN
    have hS := Lib.hid (hH2.set1 (c + 0))
    have hG := Lib.hid (only_set (g := b) (below_only2 hg1 hbN) 1 (.int .i64 ((c + 0 : Nat) : Int)))
    
    clear hbN hH2
    go_wp2_with fail
    go_ret
    have key : ∀ (a : Option Addr), Row ((W1.drewN nq).setCell ⟨b, 1, none⟩ (.int .i64 ((c + 0 : Nat) : Int))) a 0 (shiftF s.at_ s.f) := fun a => Row.nil _ _ _
    have hS2 := hS.out
    have hG2 := hG.out
    refine ⟨_, _, rfl, ?_⟩
    simpa [hN, hA] using And.intro (key _) (And.intro hS2 hG2)
  · obtain ⟨g, rfl⟩ : ∃ g, a = some ⟨g, 0, none⟩ := by
      rcases hH1.out.body.2 with ⟨e, h0⟩ | ⟨g, cap, cs, e, _⟩
      · injection e with e1 e2 e3; omega
      · injection e with e1 e2 e3; exact ⟨g, e1⟩
    have j4 : (m : Int) ≤ (c : Int) - (A : Int) := by omega
    have j5 : m ≤ c - A := by omega
    have j6 : (m : Int) ≤ ((c - A : Nat) : Int) := by omega
    go_quiet (fail)
    have hbN := below_drewN (Below.refl W1.heap.size W1) nq
    have hH2 := hH1.out.below hbN
    have hS := Lib.hid (hH2.set1 (A + m))
    have hG := Lib.hid (only_set (g := b) (below_only2 hg1 hbN) 1 (.int .i64 ((A + m : Nat) : Int)))
    have hbN' := Lib.hid hbN
    have hgb : g ≠ b := fun e => hH1.out.far (by rw [e]; rfl)
    have hrs := Lib.hid ((Row.shift (o := 0) hr1.out A m (by omega)))
    clear hbN hH2
    go_wp2_with fail
    go_ret
    refine ⟨_, _, rfl, ?_, ?_, ?_, by rw [hA]; exact hS.out, hG.out⟩
    · rw [hA]
      have key : Row ((W1.drewN nq).setCell ⟨b, 1, none⟩ (.int .i64 ((A + m : Nat) : Int))) (some ⟨g, 0 + A, none⟩) m (shiftF A s.f) :=
        (hrs.out.below hbN'.out).kept (by simp [World.setCell]) (fun ad e => by injection e with e; subst e; exact Below.heap_setCell _ _ _ _ hgb)
      first | exact key | simpa using key
    · omega
    · exact fun e => by cases e
theorem next_uint8_no {b : Nat} {v : Value} {s : RS} (w : World) (h : Rd w b v s) (hg : s.Good) (hm : s.left < 1) :
    Calls Tryd.prog 73 #[.pointer (some ⟨b, 0, none⟩)] w fun e w' => e = fault 56 ∧ ∃ q, w' = w.drewN q := by
  have HC := Lib.hid (cut_no (m := 1) w h hg hm)
  clear h hg hm
  go_enter Tryd.func73, Tryd.ntmps73
  go_wp2_with fail
  refine (size_uint8 _).mono ?_
  rintro e w' ⟨rfl, rfl⟩
  go_wp2_with fail
  refine HC.out.mono ?_
  rintro e w' ⟨rfl, q, rfl⟩
  unfold fault
  go_wp2_with fail
  exact ⟨rfl, by rfl, q, rfl⟩
theorem next_uint8_ok {b : Nat} {v : Value} {s : RS} (w : World) (h : Rd w b v s) (hg : s.Good) (hm : 1 ≤ s.left) :
    Calls Tryd.prog 73 #[.pointer (some ⟨b, 0, none⟩)] w fun e w' => e = .returned (.int .u8 (numN (shiftF s.at_ s.f) 1 : Nat)) ∧ Rd w' b v { s with at_ := s.at_ + 1 } ∧ w.grownBy w' (some b) := by
  have HC := Lib.hid (cut_ok (m := 1) w h hg hm)
  clear h hg hm
  go_enter Tryd.func73, Tryd.ntmps73
  go_wp2_with fail
  refine (size_uint8 _).mono ?_
  rintro e w' ⟨rfl, rfl⟩
  go_wp2_with fail
  refine HC.out.mono ?_
  rintro e w' ⟨a', c', rfl, hR, hc, hn, hRd, hG⟩
  have HJ := Lib.hid (join_uint8 a' 1 c' _ w' hR (Nat.le_refl _))
  clear HC hn hR hc
  replace hRd := Lib.hid hRd
  replace hG := Lib.hid hG
  go_wp2_with fail
  refine HJ.out.mono ?_
  rintro e w2 ⟨rfl, rfl⟩
  clear HJ
  go_wp2_with fail
  go_ret
  exact ⟨rfl, hRd.out, hG.out⟩
theorem next_uint32_no {b : Nat} {v : Value} {s : RS} (w : World) (h : Rd w b v s) (hg : s.Good) (hm : s.left < 4) :
    Calls Tryd.prog 74 #[.pointer (some ⟨b, 0, none⟩)] w fun e w' => e = fault 56 ∧ ∃ q, w' = w.drewN q := by
  have HC := Lib.hid (cut_no (m := 4) w h hg hm)
  clear h hg hm
  go_enter Tryd.func74, Tryd.ntmps74
  go_wp2_with fail
  refine (size_uint32 _).mono ?_
  rintro e w' ⟨rfl, rfl⟩
  go_wp2_with fail
  refine HC.out.mono ?_
  rintro e w' ⟨rfl, q, rfl⟩
  unfold fault
  go_wp2_with fail
  exact ⟨rfl, by rfl, q, rfl⟩
theorem next_uint32_ok {b : Nat} {v : Value} {s : RS} (w : World) (h : Rd w b v s) (hg : s.Good) (hm : 4 ≤ s.left) :
    Calls Tryd.prog 74 #[.pointer (some ⟨b, 0, none⟩)] w fun e w' => e = .returned (.int .u32 (numN (shiftF s.at_ s.f) 4 : Nat)) ∧ Rd w' b v { s with at_ := s.at_ + 4 } ∧ w.grownBy w' (some b) := by
  have HC := Lib.hid (cut_ok (m := 4) w h hg hm)
  clear h hg hm
  go_enter Tryd.func74, Tryd.ntmps74
  go_wp2_with fail
  refine (size_uint32 _).mono ?_
  rintro e w' ⟨rfl, rfl⟩
  go_wp2_with fail
  refine HC.out.mono ?_
  rintro e w' ⟨a', c', rfl, hR, hc, hn, hRd, hG⟩
  have HJ := Lib.hid (join_uint32 a' 4 c' _ w' hR (Nat.le_refl _))
  clear HC hn hR hc
  replace hRd := Lib.hid hRd
  replace hG := Lib.hid hG
  go_wp2_with fail
  refine HJ.out.mono ?_
  rintro e w2 ⟨rfl, rfl⟩
  clear HJ
  go_wp2_with fail
  go_ret
  exact ⟨rfl, hRd.out, hG.out⟩
end Go.Proofs.YtbdhdedlemndeaaDoor
namespace Go.Proofs.YtbdhdedlemndeaaDoor
open Go.RowKit Go.Shelf
set_option maxRecDepth 100000
set_option maxHeartbeats 1000000

/-- What lies in the box x, if there is one. -/
def BoxAt (w : World) (x : Option Nat) (t : TypeId) (cs : Array Value) : Prop := ∀ y, x = some y → Whole w y t cs
theorem Only2.kept {b : Nat} {x : Option Nat} {w w' : World} (h : Only2 b x w w') {y : Nat} (h1 : y < w.heap.size) (h2 : y ≠ b) (h3 : x ≠ some y) : w'.heap[y]? = w.heap[y]? := h.block y h1 h2 (fun e => h3 e.symm)
theorem rattempt_ok {b k : Nat} {caps : Array Value} {v : Value} {s s' : RS} {x : Option Nat} {t : TypeId} {cs : Array Value} (w : World) (h : Rd w b v s) (hx : ∀ y, x = some y → y < w.heap.size ∧ y ≠ b) (hen : ∀ (args : Array Value) (W : World), (callFunc k args).run Tryd.prog W = .ok (.enter k args) W)
    (hdo : Calls Tryd.prog k caps (w.alloc (.cells #[.int .i64 0] 40)) fun e w' => e = .returned (.tuple #[]) ∧ Rd w' b v s' ∧ Only2 b x (w.alloc (.cells #[.int .i64 0] 40)) w' ∧ BoxAt w' x t cs) :
    Calls Tryd.prog 46 #[.pointer (some ⟨b, 0, none⟩), .func (.func k) #[] caps] w fun e w' => e = .returned (.int .i64 0) ∧ Rd w' b v s' ∧ Only2 b x w w' ∧ BoxAt w' x t cs := by
  have c1 := h.head.c1
  have hbl := h.head.lt
  have hol := h.body.lt
  have HA := Lib.hid (attempt_any w (fun V => Rd V b v s' ∧ Only2 b x (w.alloc (.cells #[.int .i64 0] 40)) V ∧ BoxAt V x t cs) (fun _ _ => False) hen (hdo.mono (by
    rintro e w' ⟨rfl, h1, h2, h3⟩
    exact ⟨(h2.block w.heap.size (by simp) (by omega) (fun e => by have := (hx _ e.symm).1; omega)).trans (Whole.fresh w _ _), .inl ⟨rfl, h1, h2, h3⟩⟩)))
  clear hdo hen h
  go_enter Tryd.func46, Tryd.ntmps46
  go_wp2_with fail
  refine HA.out.mono ?_
  rintro e w' (⟨rfl, V, ⟨h1, h2, h3⟩, rfl⟩ | ⟨c, V, _, hF, _⟩)
  · have h4 := h1.away (x := w.heap.size) (by omega) (fun e => by have := hol _ e; omega) 0 (.int .i64 0)
    have o1 : Only2 b x w (V.setCell ⟨w.heap.size, 0, none⟩ (.int .i64 0)) := by
      have o0 : Only2 b x w V := (Only2.of_below ((Below.refl _ w).alloc (Nat.le_refl _) _)).trans h2 (.inl rfl)
      exact ⟨o0.os, o0.tape, o0.output, by simp [World.setCell]; exact o0.size, fun k hk hb ho => (Below.heap_setCell _ _ _ _ (by simp; omega)).trans (o0.block k hk hb ho)⟩
    have h5 : BoxAt (V.setCell ⟨w.heap.size, 0, none⟩ (.int .i64 0)) x t cs := fun y hy => (h3 y hy).away (p := ⟨w.heap.size, 0, none⟩) (by have := (hx y hy).1; show y ≠ w.heap.size; omega) _
    clear h1 h2 h3 HA c1
    replace h4 := Lib.hid h4
    go_wp2_with fail
    go_ret
    exact ⟨rfl, h4.out, o1, h5⟩
  · exact hF.elim
theorem rattempt_no {b k c : Nat} {caps : Array Value} {v : Value} {s : RS} {x : Option Nat} {t : TypeId} {cs : Array Value} (w : World) (h : Rd w b v s) (hc : c ≠ 0) (hx : ∀ y, x = some y → y < w.heap.size ∧ y ≠ b) (hen : ∀ (args : Array Value) (W : World), (callFunc k args).run Tryd.prog W = .ok (.enter k args) W)
    (hdo : Calls Tryd.prog k caps (w.alloc (.cells #[.int .i64 0] 40)) fun e w' => e = fault c ∧ (∃ p, Rd w' b v { s with at_ := p }) ∧ Only2 b x (w.alloc (.cells #[.int .i64 0] 40)) w' ∧ BoxAt w' x t cs) :
    Calls Tryd.prog 46 #[.pointer (some ⟨b, 0, none⟩), .func (.func k) #[] caps] w fun e w' => e = .returned (.int .i64 (c : Nat)) ∧ Rd w' b v s ∧ Only2 b x w w' ∧ BoxAt w' x t cs := by
  have c1 := h.head.c1
  have hbl := h.head.lt
  have hol := h.body.lt
  have HA := Lib.hid (attempt_any w (fun _ => False) (fun q V => q = c ∧ (∃ p, Rd V b v { s with at_ := p }) ∧ Only2 b x (w.alloc (.cells #[.int .i64 0] 40)) V ∧ BoxAt V x t cs) hen (hdo.mono (by
    rintro e w' ⟨rfl, h1, h2, h3⟩
    exact ⟨(h2.block w.heap.size (by simp) (by omega) (fun e => by have := (hx _ e.symm).1; omega)).trans (Whole.fresh w _ _), .inr ⟨c, rfl, rfl, h1, h2, h3⟩⟩)))
  have t1 : ((c : Int) != 0) = true := by rw [bne_iff_ne]; omega
  clear hdo hen h hc
  go_enter Tryd.func46, Tryd.ntmps46
  go_wp2_with fail
  refine HA.out.mono ?_
  rintro e w' (⟨_, V, hF, _⟩ | ⟨q, V, rfl, ⟨rfl, ⟨p, h1⟩, h2, h3⟩, rfl⟩)
  · exact hF.elim
  · have hVs : w.heap.size < V.heap.size := by have := h2.size; simp at this; omega
    have hW1 := Below.alloc (Below.refl V.heap.size V) (Nat.le_refl _) (.cells #[.int .i64 (c : Nat)] 96)
    have h4 := (h1.below hW1).away (x := w.heap.size) (by omega) (fun e => by have := hol _ e; omega) 0 (.int .i64 (c : Nat))
    have o1 : Only2 b x w ((V.alloc (.cells #[.int .i64 (c : Nat)] 96)).setCell ⟨w.heap.size, 0, none⟩ (.int .i64 (c : Nat))) := by
      have o0 : Only2 b x w (V.alloc (.cells #[.int .i64 (c : Nat)] 96)) := ((Only2.of_below ((Below.refl _ w).alloc (Nat.le_refl _) _)).trans h2 (.inl rfl)).trans (Only2.of_below hW1) (.inl rfl)
      exact ⟨o0.os, o0.tape, o0.output, by simp only [World.setCell, Array.size_modify]; exact o0.size, fun k hk hb ho => (Below.heap_setCell _ _ _ _ (by show k ≠ w.heap.size; omega)).trans (o0.block k hk hb ho)⟩
    have h5 : BoxAt ((V.alloc (.cells #[.int .i64 (c : Nat)] 96)).setCell ⟨w.heap.size, 0, none⟩ (.int .i64 (c : Nat))) x t cs := fun y hy => ((h3 y hy).alloc _).away (p := ⟨w.heap.size, 0, none⟩) (by have := (hx y hy).1; show y ≠ w.heap.size; omega) _
    have d1 := h4.head.c1
    have f1 := h4.head.free 1
    have h6 : Rd _ b v s := h4.set1 s.at_
    have o2 := o1.trans (Only2.of_set (o := x) _ 1 (.int .i64 (s.at_ : Nat))) (.inl rfl)
    have h7 : BoxAt (((V.alloc (.cells #[.int .i64 (c : Nat)] 96)).setCell ⟨w.heap.size, 0, none⟩ (.int .i64 (c : Nat))).setCell ⟨b, 1, none⟩ (.int .i64 (s.at_ : Nat))) x t cs := fun y hy => (h5 y hy).away (p := ⟨b, 1, none⟩) (hx y hy).2 _
    clear h1 h2 h3 h4 h5 HA c1 hW1 o1
    replace h6 := Lib.hid h6
    replace h7 := Lib.hid h7
    replace o2 := Lib.hid o2
    generalize (V.alloc (.cells #[.int .i64 (c : Nat)] 96)).setCell ⟨w.heap.size, 0, none⟩ (.int .i64 (c : Nat)) = W at *
    go_wp2_with fail
    go_ret
    exact ⟨rfl, h6.out, o2.out, h7.out⟩
end Go.Proofs.YtbdhdedlemndeaaDoor
namespace Go.Proofs.YtbdhdedlemndeaaDoor
open Go.RowKit Go.Shelf
set_option maxRecDepth 100000
set_option maxHeartbeats 1000000

/-- So many bytes further. -/
def RS.adv (s : RS) (z : Nat) : RS := { s with at_ := s.at_ + z }
/-- The number of so many bytes at the place. -/
def RS.num (s : RS) (z : Nat) : Nat := numN (shiftF s.at_ s.f) z
theorem only2_grown {b x : Nat} {w w' w'' : World} (h : Only2 b (some x) w' w'') (hb : Below w.heap.size w w') (hx : w.heap.size ≤ x) : w.grownBy w'' (some b) :=
  ⟨h.os.trans hb.os, h.tape.trans hb.tape, h.output.trans hb.output, Nat.le_trans hb.size h.size, fun k hk hne => (h.block k (Nat.lt_of_lt_of_le hk hb.size) (fun e => hne (by rw [e])) (fun e => by injection e with e; omega)).trans (hb.block k hk)⟩
theorem only2_grown0 {b : Nat} {w w' w'' : World} (h : Only2 b none w' w'') (hb : Below w.heap.size w w') : w.grownBy w'' (some b) :=
  ⟨h.os.trans hb.os, h.tape.trans hb.tape, h.output.trans hb.output, Nat.le_trans hb.size h.size, fun k hk hne => (h.block k (Nat.lt_of_lt_of_le hk hb.size) (fun e => hne (by rw [e])) (fun e => by cases e)).trans (hb.block k hk)⟩
theorem Rd.drewN {w : World} {b : Nat} {v : Value} {s : RS} (h : Rd w b v s) (q : Nat) : Rd (w.drewN q) b v s := h.below (below_drewN (Below.refl _ w) q)
theorem take1_uint8_no {b p0 p1 : Nat} {v : Value} {s : RS} (w : World) (h : Rd w b v s) (hg : s.Good) (hm : s.left < 1) (q0 : w.cell? ⟨p0, 0, none⟩ = some (.pointer (some ⟨b, 0, none⟩))) :
    Calls Tryd.prog 89 #[.pointer (some ⟨p0, 0, none⟩), .pointer (some ⟨p1, 0, none⟩)] w fun e w' => e = fault 56 ∧ ∃ q, w' = w.drewN q := by
  have HC := Lib.hid (next_uint8_no w h hg hm)
  clear h hg hm
  go_enter Tryd.func89, Tryd.ntmps89
  go_wp2_with fail
  refine HC.out.mono ?_
  rintro e w' ⟨rfl, q, rfl⟩
  unfold fault
  go_wp2_with fail
  exact ⟨rfl, by rfl, q, rfl⟩
theorem take1_uint8_ok {b p0 p1 : Nat} {v : Value} {s : RS} (w : World) (h : Rd w b v s) (hg : s.Good) (hm : 1 ≤ s.left) (q0 : w.cell? ⟨p0, 0, none⟩ = some (.pointer (some ⟨b, 0, none⟩))) (q1 : Whole w p1 5 #[.int .u8 0]) (hne : p1 ≠ b) (ho : v.ownBlock ≠ some p1) :
    Calls Tryd.prog 89 #[.pointer (some ⟨p0, 0, none⟩), .pointer (some ⟨p1, 0, none⟩)] w fun e w' => e = .returned (.tuple #[]) ∧ Rd w' b v (s.adv 1) ∧ Only2 b (some p1) w w' ∧ BoxAt w' (some p1) 5 #[.int .u8 (s.num 1 : Nat)] := by
  have HC := Lib.hid (next_uint8_ok w h hg hm)
  have hl := q1.lt
  clear h hg hm
  go_enter Tryd.func89, Tryd.ntmps89
  go_wp2_with fail
  refine HC.out.mono ?_
  rintro e w' ⟨rfl, hRd, hG⟩
  have hq := q1.only hG hne
  have d0 := hq.cell 0
  have f0 := hq.free 0
  simp only [List.getElem?_toArray, List.getElem?_cons_zero] at d0
  have hR2 := Lib.hid (hRd.away (x := p1) hne ho 0 (.int .u8 (numN (shiftF s.at_ s.f) 1 : Nat)))
  have hO2 := Lib.hid ((Only2.of_grownb (o := some p1) hG).trans (Only2.of_grown (o := some p1) (b := b) (only_set (g := p1) (Below.only (Below.refl _ w') p1) 0 (.int .u8 (numN (shiftF s.at_ s.f) 1 : Nat)))) (.inl rfl))
  have hB2 := Lib.hid (hq.put 0 (.int .u8 (numN (shiftF s.at_ s.f) 1 : Nat)))
  clear HC hRd hG hq q0 q1 hl
  go_wp2_with fail
  go_end0
  exact ⟨rfl, hR2.out, hO2.out, fun y hy => by injection hy with hy; subst hy; exact hB2.out.as rfl⟩
theorem take_uint8_no {b : Nat} {v : Value} {s : RS} (w : World) (h : Rd w b v s) (hg : s.Good) (hm : s.left < 1) :
    Calls Tryd.prog 76 #[.pointer (some ⟨b, 0, none⟩)] w fun e w' => e = .returned (.tuple #[.int .u8 0, .int .i64 56]) ∧ Rd w' b v s ∧ w.grownBy w' (some b) := by
  have hmf := makeF
  have hP := (Whole.fresh w 51 #[.pointer (some ⟨b, 0, none⟩)]).alloc (.cells #[.int .u8 0] 5)
  have hS := Whole.fresh (w.alloc (.cells #[.pointer (some ⟨b, 0, none⟩)] 51)) 5 #[.int .u8 0]
  have hB := ((Below.refl w.heap.size w).alloc (Nat.le_refl _) (.cells #[.pointer (some ⟨b, 0, none⟩)] 51)).alloc (by simp) (.cells #[.int .u8 0] 5)
  have hs1 : (w.alloc (.cells #[.pointer (some ⟨b, 0, none⟩)] 51)).heap.size = w.heap.size + 1 := by simp
  rw [hs1] at hS
  have hbl := h.head.lt
  have h2 := Lib.hid (h.below hB)
  have hg2 := Lib.hid hg
  have hm2 := Lib.hid hm
  clear h hg hm
  go_enter Tryd.func76, Tryd.ntmps76
  go_upto_region 2 with (fail)
  generalize (w.alloc (.cells #[.pointer (some ⟨b, 0, none⟩)] 51)).alloc (.cells #[.int .u8 0] 5) = W at *
  have hbW := h2.out.head.lt
  have hSl := hS.lt
  have p0 := hP.cell 0
  simp only [List.getElem?_toArray, List.getElem?_cons_zero] at p0
  have HA := Lib.hid (rattempt_no (k := 89) (c := 56) (caps := #[.pointer (some ⟨w.heap.size, 0, none⟩), .pointer (some ⟨w.heap.size + 1, 0, none⟩)]) (x := some (w.heap.size + 1)) (t := 5) (cs := #[.int .u8 0]) W h2.out (by decide) (fun y hy => by injection hy with hy; omega) (enters_of Tryd.func89 (by kernel_rfl) rfl)
    ((take1_uint8_no _ (h2.out.below ((Below.refl _ W).alloc (Nat.le_refl _) _)) hg2.out hm2.out (by rw [(hP.alloc _).cell 0]; rfl)).mono (by
      rintro e w' ⟨rfl, q, rfl⟩
      exact ⟨rfl, ⟨s.at_, ((h2.out.below ((Below.refl _ W).alloc (Nat.le_refl _) _)).drewN q)⟩, Only2.of_below (below_drewN (Below.refl _ _) q), fun y hy => by injection hy with hy; subst hy; exact (hS.alloc _).drewN q⟩)))
  clear hP hS hs1 h2 hg2 hm2
  replace hB := Lib.hid hB
  go_wp2_with fail
  refine HA.out.mono ?_
  rintro e w' ⟨rfl, h3, h4, h5⟩
  have b0 := (h5 _ rfl).cell 0
  simp only [List.getElem?_toArray, List.getElem?_cons_zero] at b0
  have hG := Lib.hid (only2_grown h4 hB.out (Nat.le_succ _))
  replace h3 := Lib.hid h3
  clear HA h4 h5 hmf p0
  go_wp2_with fail
  go_ret2
  exact ⟨rfl, h3.out, hG.out⟩
theorem take_uint8_ok {b : Nat} {v : Value} {s : RS} (w : World) (h : Rd w b v s) (hg : s.Good) (hm : 1 ≤ s.left) :
    Calls Tryd.prog 76 #[.pointer (some ⟨b, 0, none⟩)] w fun e w' => e = .returned (.tuple #[.int .u8 (s.num 1 : Nat), .int .i64 0]) ∧ Rd w' b v (s.adv 1) ∧ w.grownBy w' (some b) := by
  have hmf := makeF
  have hP := (Whole.fresh w 51 #[.pointer (some ⟨b, 0, none⟩)]).alloc (.cells #[.int .u8 0] 5)
  have hS := Whole.fresh (w.alloc (.cells #[.pointer (some ⟨b, 0, none⟩)] 51)) 5 #[.int .u8 0]
  have hB := ((Below.refl w.heap.size w).alloc (Nat.le_refl _) (.cells #[.pointer (some ⟨b, 0, none⟩)] 51)).alloc (by simp) (.cells #[.int .u8 0] 5)
  have hs1 : (w.alloc (.cells #[.pointer (some ⟨b, 0, none⟩)] 51)).heap.size = w.heap.size + 1 := by simp
  rw [hs1] at hS
  have hbl := h.head.lt
  have hol := h.body.lt
  have h2 := Lib.hid (h.below hB)
  have hg2 := Lib.hid hg
  have hm2 := Lib.hid hm
  clear h hg hm
  go_enter Tryd.func76, Tryd.ntmps76
  go_upto_region 2 with (fail)
  generalize (w.alloc (.cells #[.pointer (some ⟨b, 0, none⟩)] 51)).alloc (.cells #[.int .u8 0] 5) = W at *
  have hbW := h2.out.head.lt
  have hSl := hS.lt
  have p0 := hP.cell 0
  simp only [List.getElem?_toArray, List.getElem?_cons_zero] at p0
  have hoW := h2.out.body.lt
  have hoS : v.ownBlock ≠ some (w.heap.size + 1) := fun e => by have := hol _ e; omega
  have HA := Lib.hid (rattempt_ok (k := 89) (caps := #[.pointer (some ⟨w.heap.size, 0, none⟩), .pointer (some ⟨w.heap.size + 1, 0, none⟩)]) (s' := s.adv 1) (x := some (w.heap.size + 1)) (t := 5) (cs := #[.int .u8 (s.num 1 : Nat)]) W h2.out (fun y hy => by injection hy with hy; omega) (enters_of Tryd.func89 (by kernel_rfl) rfl)
    (take1_uint8_ok _ (h2.out.below ((Below.refl _ W).alloc (Nat.le_refl _) _)) hg2.out hm2.out (by rw [(hP.alloc _).cell 0]; rfl) (hS.alloc _) (by omega) hoS))
  clear hoW hoS
  clear hP hS hs1 h2 hg2 hm2
  replace hB := Lib.hid hB
  go_wp2_with fail
  refine HA.out.mono ?_
  rintro e w' ⟨rfl, h3, h4, h5⟩
  have b0 := (h5 _ rfl).cell 0
  simp only [List.getElem?_toArray, List.getElem?_cons_zero] at b0
  have hG := Lib.hid (only2_grown h4 hB.out (Nat.le_succ _))
  replace h3 := Lib.hid h3
  clear HA h4 h5 hmf p0
  go_wp2_with fail
  go_ret2
  exact ⟨rfl, h3.out, hG.out⟩
theorem rbyte_no {b : Nat} {v : Value} {s : RS} (w : World) (h : Rd w b v s) (hg : s.Good) (hm : s.left < 1) :
    Calls Tryd.prog 64 #[.pointer (some ⟨b, 0, none⟩)] w fun e w' => e = .returned (.tuple #[.int .u8 0, .int .i64 56]) ∧ Rd w' b v s ∧ w.grownBy w' (some b) := by
  have HT := Lib.hid (take_uint8_no w h hg hm)
  clear h hg hm
  go_enter Tryd.func64, Tryd.ntmps64
  go_wp2_with fail
  refine HT.out.mono ?_
  rintro e w' ⟨rfl, h1, h2⟩
  clear HT
  replace h1 := Lib.hid h1
  replace h2 := Lib.hid h2
  go_wp2_with fail
  go_ret2
  exact ⟨rfl, h1.out, h2.out⟩
theorem rbyte_ok {b : Nat} {v : Value} {s : RS} (w : World) (h : Rd w b v s) (hg : s.Good) (hm : 1 ≤ s.left) :
    Calls Tryd.prog 64 #[.pointer (some ⟨b, 0, none⟩)] w fun e w' => e = .returned (.tuple #[.int .u8 (s.num 1 : Nat), .int .i64 0]) ∧ Rd w' b v (s.adv 1) ∧ w.grownBy w' (some b) := by
  have HT := Lib.hid (take_uint8_ok w h hg hm)
  clear h hg hm
  go_enter Tryd.func64, Tryd.ntmps64
  go_wp2_with fail
  refine HT.out.mono ?_
  rintro e w' ⟨rfl, h1, h2⟩
  clear HT
  replace h1 := Lib.hid h1
  replace h2 := Lib.hid h2
  go_wp2_with fail
  go_ret2
  exact ⟨rfl, h1.out, h2.out⟩
end Go.Proofs.YtbdhdedlemndeaaDoor
