/-
  lanthornlaw01.same: a clock says of all threads, and of one number, what the document does.
-/
import Derived.Test.YtijcfpdcijpenaaCall2
import Derived.Test.YtijcfpdcijpenaaRunMath
import Derived.Test.YtijcfpdcijpenaaRfLeast
import Derived.Test.YtijcfpdcijpenaaKeepsWalk
import Derived.Deep.RegionHeld3
namespace Go.Proofs.Ytijcfpdcijpenaa
open Go.RowKit Go.Shelf
attribute [local go_sem] Oper.semAt_some
set_option maxRecDepth 100000
set_option maxHeartbeats 4000000
set_option linter.unusedVariables false
theorem longs_at (a1 a2 : Option Addr) (c1 c2 n : Nat) (zs : List Int) (w : World) (h1 : Lies .i64 w a1 zs) (h2 : Lies .i64 w a2 zs) (hl : zs.length = n) (hm : n ≤ maxLen) :
    Calls Try.prog 16 #[.slice a1 n c1, .slice a2 n c2] w fun e w' => e = .returned (.bool true) ∧ ∃ q, w' = w.drewN q := by
  subst hl
  exact longs_any a1 a2 c1 c2 zs w h1 h2 hm
theorem Rf.lies {w : World} {p q : Nat} {ss ts : List Int} (h : Rf w p q ss ts) : Lies .i64 w (some ⟨q, 0, none⟩) ts :=
  .inr ⟨q, 0, rfl, h.ql, fun i hi => by rw [Nat.zero_add]; exact h.tm i (by rw [← h.size]; exact hi)⟩
theorem row_lies {w : World} {B g cap n : Nat} {ts : List Int} (h : w.ownsRow B 2 1 (.slice (some ⟨g, 0, none⟩) n cap) n (vals .i64 ts)) (hl : ts.length = n) : Lies .i64 w (some ⟨g, 0, none⟩) ts :=
  .inr ⟨g, 0, rfl, (h.lt g rfl).2, fun i hi => by rw [Nat.zero_add]; exact row_cell h hl (by omega)⟩
theorem room_bad (i : Int) (w : World) {B c bt capT bm : Nat} {ss ts : List Int} (h : Clk w B c bt capT bm ss ts) (hn : ss.length ≤ 16) (hi : ¬ (0 ≤ i ∧ i < ss.length)) :
    Calls Try.prog 24 #[.pointer (some ⟨c, 0, none⟩), .int .i64 i] w fun e w' => e = .returned (.tuple #[.int .i64 0, .int .i64 3]) ∧ Below w.heap.size w w' := by
  have HK := Lib.hid (fun W (hW : Clk W B c bt capT bm ss ts) => check_bad i W hW hn hi)
  clear hi
  have hB0 : Below w.heap.size w ((((w.alloc (.cells #[.pointer (some ⟨c, 0, none⟩)] 30)).alloc (.cells #[.int .i64 i] 3)).alloc (.cells #[.int .i64 0] 3)).alloc (.cells #[.int .i64 0] 26)) := ((((Below.refl _ _).alloc (Nat.le_refl _) _).alloc (by simp) _).alloc (by simp; omega) _).alloc (by simp; omega) _
  have hC := h.below hB0
  refine (callsIn_wide (n := 5)).1 ?_
  refine callsIn_of_wp_marks Try.func24 rfl trivial ?_ rfl
  simp only [Try.ntmps24, List.size_toArray, List.length_cons, List.length_nil, Nat.reduceAdd, Nat.reduceSub, Array.replicate_succ, Array.replicate_zero, List.push_toArray, List.append_toArray, List.nil_append, List.cons_append]
  gi_wp2_with fail
  refine ⟨trivial, ?_⟩
  refine (callsIn_wide.2 (HK.out _ hC)).mono ?_; rintro e w' ⟨rfl, rfl⟩
  gi_wp2_with fail
  have hBf : Below w.heap.size w ((((w.alloc (.cells #[.pointer (some ⟨c, 0, none⟩)] 30)).alloc (.cells #[.int .i64 i] 3)).alloc (.cells #[.int .i64 0] 3)).alloc (.cells #[.int .i64 3] 26)) := ((((Below.refl _ _).alloc (Nat.le_refl _) _).alloc (by simp) _).alloc (by simp; omega) _).alloc (by simp; omega) _
  have a3 := (Whole.fresh ((w.alloc (.cells #[.pointer (some ⟨c, 0, none⟩)] 30)).alloc (.cells #[.int .i64 i] 3)) 3 #[.int .i64 0]).alloc (.cells #[.int .i64 3] 26)
  have a4 := Whole.fresh (((w.alloc (.cells #[.pointer (some ⟨c, 0, none⟩)] 30)).alloc (.cells #[.int .i64 i] 3)).alloc (.cells #[.int .i64 0] 3)) 26 #[.int .i64 3]
  rw [World.size_alloc, World.size_alloc] at a3
  rw [World.size_alloc, World.size_alloc, World.size_alloc] at a4
  have e3 := a3.cell 0
  have e4 := a4.cell 0
  simp only [List.getElem?_toArray, List.getElem?_cons_zero] at e3 e4
  generalize ((((w.alloc (.cells #[.pointer (some ⟨c, 0, none⟩)] 30)).alloc (.cells #[.int .i64 i] 3)).alloc (.cells #[.int .i64 0] 3)).alloc (.cells #[.int .i64 3] 26)) = W9 at *
  exact ⟨.tuple #[.int .i64 0, .int .i64 3], by simp [results, Try.f24, go_sem, e3, e4], rfl, hBf⟩
/-- What lies about the loop over the order. -/
def Here (u m g p q cp cq n k : Nat) (ls : List Int) (W : World) : Prop :=
  W.cell? ⟨u, 0, none⟩ = some (.slice (some ⟨p, 0, none⟩) n cp) ∧ W.cell? ⟨u, 1, none⟩ = some (.slice (some ⟨q, 0, none⟩) n cq) ∧ (W.cell? ⟨u + 1, 0, none⟩ = some (.bool false) ∧ W.frozen? ⟨u + 1, 0, none⟩ = false) ∧
  W.cell? ⟨m, 0, none⟩ = some (.slice (some ⟨g, 0, none⟩) n n) ∧ (W.cell? ⟨m + 1, 0, none⟩ = some (.int .i64 k) ∧ W.frozen? ⟨m + 1, 0, none⟩ = false) ∧ ∀ j, j < n → W.cell? ⟨g, j, none⟩ = some (.int .i64 (ls[j]?.getD 0))
theorem here_kept {u m g p q cp cq n k : Nat} {ls : List Int} {A B : World} {row : Option Nat} (h : Here u m g p q cp cq n k ls A) (hg : A.grownBy B row) (hr : ∀ r, row = some r → ∃ o : Obj, A.heap[r]? = some o ∧ o.isCells = false) : Here u m g p q cp cq n k ls B :=
  ⟨cell_kept h.1 hg hr, cell_kept h.2.1 hg hr, ⟨cell_kept h.2.2.1.1 hg hr, (frozen_kept h.2.2.1.1 hg hr).trans h.2.2.1.2⟩, cell_kept h.2.2.2.1 hg hr, ⟨cell_kept h.2.2.2.2.1.1 hg hr, (frozen_kept h.2.2.2.2.1.1 hg hr).trans h.2.2.2.2.1.2⟩, fun j hj => cell_kept (h.2.2.2.2.2 j hj) hg hr⟩
theorem here_next {u m g p q cp cq n k : Nat} {ls : List Int} {A : World} (h : Here u m g p q cp cq n k ls A) (hu : u + 1 < m) (hgm : g < m) : Here u m g p q cp cq n (k + 1) ls (A.setCell ⟨m + 1, 0, none⟩ (.int .i64 ((k + 1 : Nat) : Int))) := by
  have e : ∀ (b o : Nat), b ≠ m + 1 → (A.setCell ⟨m + 1, 0, none⟩ (.int .i64 ((k + 1 : Nat) : Int))).cell? ⟨b, o, none⟩ = A.cell? ⟨b, o, none⟩ := fun b o hb => World.cell?_of_block (Below.heap_setCell A ⟨m + 1, 0, none⟩ _ b hb)
  refine ⟨(e _ _ (by omega)).trans h.1, (e _ _ (by omega)).trans h.2.1, ⟨(e _ _ (by omega)).trans h.2.2.1.1, ?_⟩, (e _ _ (by omega)).trans h.2.2.2.1, ⟨?_, ?_⟩, fun j hj => (e _ _ (by omega)).trans (h.2.2.2.2.2 j hj)⟩
  · exact (by simp : (A.setCell ⟨m + 1, 0, none⟩ (.int .i64 ((k + 1 : Nat) : Int))).frozen? ⟨u + 1, 0, none⟩ = A.frozen? ⟨u + 1, 0, none⟩).trans h.2.2.1.2
  · exact World.cell?_setCell_same' _ _ _ (by rw [h.2.2.2.2.1.1]; rfl)
  · exact (by simp : (A.setCell ⟨m + 1, 0, none⟩ (.int .i64 ((k + 1 : Nat) : Int))).frozen? ⟨m + 1, 0, none⟩ = A.frozen? ⟨m + 1, 0, none⟩).trans h.2.2.2.2.1.2
theorem here_below {u m g p q cp cq n k : Nat} {ls : List Int} {A B : World} (h : Here u m g p q cp cq n k ls A) (hb : Below A.heap.size A B) : Here u m g p q cp cq n k ls B :=
  here_kept (row := none) h ⟨hb.os, hb.tape, hb.output, hb.size, fun k hk _ => hb.block k hk⟩ (fun r e => by cases e)
theorem obj_below {A B : World} {D : Nat} {o : Obj} (h : A.heap[D]? = some o) (hb : Below A.heap.size A B) : B.heap[D]? = some o := (hb.block D (Array.getElem?_eq_some_iff.1 h).1).trans h
theorem spares_set {n₀ : Nat} (W : World) (a : Addr) (v : Value) (h : a.block < n₀) : Spares n₀ W (W.setCell a v) :=
  ⟨by simp [World.setCell], fun k cs t f hk hh => (Below.heap_setCell W a v k (by omega)).trans hh⟩
theorem same_any (i : Int) (w : World) {B c bt capT bm p q cp cq : Nat} {ss ts : List Int} (h : Clk w B c bt capT bm ss ts) (hr : Rf w p q ss ts) (hg : Good ss) (ht : Timed ts) (hi0 : -9223372036854775808 ≤ i) (hi1 : i ≤ 9223372036854775807) :
    Calls Try.prog 19 #[.pointer (some ⟨c, 0, none⟩), rv p q ss.length cp cq, .int .i64 i] w fun e w' => e = .returned (.bool true) ∧ Below w.heap.size w w' := by
  unfold rv
  refine (callsIn_wide (n := 5)).1 ?_
  refine callsIn_of_wp_marks Try.func19 rfl trivial ?_ rfl
  simp only [Try.ntmps19, List.size_toArray, List.length_cons, List.length_nil, Nat.reduceAdd, Nat.reduceSub, Array.replicate_succ, Array.replicate_zero, List.push_toArray, List.append_toArray, List.nil_append, List.cons_append]
  have hn := hg.2.1
  have HLen := Lib.hid (fun W (hW : Clk W B c bt capT bm ss ts) => len_any W hW hn)
  have HTim := Lib.hid (fun W (hW : Clk W B c bt capT bm ss ts) => times_any W hW hg)
  gi_wp2_with fail
  have hB0 : Below w.heap.size w ((w.alloc (Obj.cells #[.slice (some ⟨p, 0, none⟩) ss.length cp, .slice (some ⟨q, 0, none⟩) ss.length cq] 25)).alloc (Obj.cells #[Value.bool false] 4)) := ((Below.refl _ _).alloc (Nat.le_refl _) _).alloc (by simp) _
  have kb := (Whole.fresh w 25 #[.slice (some ⟨p, 0, none⟩) ss.length cp, .slice (some ⟨q, 0, none⟩) ss.length cq]).alloc (Obj.cells #[Value.bool false] 4)
  have kr := Whole.fresh (w.alloc (Obj.cells #[.slice (some ⟨p, 0, none⟩) ss.length cp, .slice (some ⟨q, 0, none⟩) ss.length cq] 25)) 4 #[Value.bool false]
  rw [World.size_alloc] at kr
  generalize (w.alloc (Obj.cells #[.slice (some ⟨p, 0, none⟩) ss.length cp, .slice (some ⟨q, 0, none⟩) ss.length cq] 25)).alloc (Obj.cells #[Value.bool false] 4) = W0 at hB0 kb kr ⊢
  have hC := h.below hB0
  have hR := hr.below hB0
  have c0 := kb.cell 0
  have c1 := kb.cell 1
  simp only [List.getElem?_toArray, List.getElem?_cons_zero, List.getElem?_cons_succ] at c0 c1
  refine wpIn_wide.2 ?_
  go_region_held3 (fun W => W.cell? ⟨w.heap.size, 0, none⟩ = some (.slice (some ⟨p, 0, none⟩) ss.length cp) ∧ W.cell? ⟨w.heap.size, 1, none⟩ = some (.slice (some ⟨q, 0, none⟩) ss.length cq))
    (first | go_keep | exact ⟨x0, x1⟩ | exact ⟨c0, c1⟩)
    (first
      | (go_at_call 23; refine (HLen.out _ (by first | exact hC | exact hC.drew)).mono ?_; rintro e W1 ⟨rfl, rfl⟩)
      | (go_at_call 20; refine (HTim.out _ (by first | exact hC | exact hC.drew)).mono ?_; rintro e W1 ⟨g1, cap1, rfl, hown1, hB1⟩; have hB2 := hB0.trans ((Below.trans (Below.drew (Below.refl _ _)) hB1).mono hB0.size); have x0 := (kb.drew.below hB1 kb.drew.lt).cell 0; have x1 := (kb.drew.below hB1 kb.drew.lt).cell 1; simp only [List.getElem?_toArray, List.getElem?_cons_zero, List.getElem?_cons_succ] at x0 x1; have hC1 := hC.drew.below hB1; have hR1 := hR.drew.below hB1; have kr1 := kr.drew.below hB1 kr.drew.lt; have kb1 := kb.drew.below hB1 kb.drew.lt; have l1 := row_lies hown1 h.size; have l2 := hR1.lies)
      | (go_at_call 16; refine (longs_at _ _ _ _ _ ts _ l1 l2 h.size (by unfold maxLen; omega)).mono ?_; rintro e W2 ⟨rfl, q2, rfl⟩))
  have hC2 := hC1.drewN q2
  have hR2 := hR1.drewN q2
  have hB3 := below_drewN hB2 q2
  have kr2 := kr1.drewN q2
  have kb2 := kb1.drewN q2
  have y0 := kb2.cell 0
  have y1 := kb2.cell 1
  simp only [List.getElem?_toArray, List.getElem?_cons_zero, List.getElem?_cons_succ] at y0 y1
  clear hown1 hB1 hB2 x0 x1 hC1 hR1 kr1 kb1 l1 l2 hB0 kb kr hC hR c0 c1 HLen HTim
  generalize W1.drewN q2 = W2 at *
  have HOrd := Lib.hid (fun W (hW : Rf W p q ss ts) => rorder_any (cp := cp) (cq := cq) W hW hn)
  unfold rv at HOrd
  gi_wp2_with fail
  refine ⟨trivial, ?_⟩
  refine (callsIn_wide.2 (HOrd.out _ hR2)).mono ?_; rintro e W3 ⟨g, ls, rfl, hL, hLd, hgl, hB4⟩
  have hB5 := hB3.trans (hB4.mono hB3.size)
  have kr3 := kr2.below hB4 kr2.lt
  have kb3 := kb2.below hB4 kb2.lt
  have hmu : w.heap.size + 1 < W3.heap.size := kr3.lt
  have hgm := hL.lt
  have HLd := Lib.hid hLd
  clear hC2 hR2 hB3 kr2 kb2 y0 y1 hB4 HOrd hLd hgl
  gi_wp2_with fail
  refine ⟨trivial, ?_⟩
  refine (callsIn_wide.2 (order_any c _)).mono ?_; rintro e w' ⟨rfl, rfl⟩
  gi_wp2_with fail
  have a1 := Whole.fresh W3 45 #[.slice (some ⟨g, 0, none⟩) ss.length ss.length]
  have a2 := Whole.fresh (W3.alloc (.cells #[.slice (some ⟨g, 0, none⟩) ss.length ss.length] 45)) 3 #[.int .i64 0]
  have a3 := Whole.fresh ((W3.alloc (.cells #[.slice (some ⟨g, 0, none⟩) ss.length ss.length] 45)).alloc (.cells #[.int .i64 0] 3)) 30 #[.pointer (some ⟨c, 0, none⟩)]
  rw [World.size_alloc] at a2
  rw [World.size_alloc, World.size_alloc] at a3
  have b1 := (a1.alloc (.cells #[.int .i64 0] 3)).alloc (.cells #[.pointer (some ⟨c, 0, none⟩)] 30)
  have b2 := a2.alloc (.cells #[.pointer (some ⟨c, 0, none⟩)] 30)
  have hL4 := ((hL.alloc (.cells #[.slice (some ⟨g, 0, none⟩) ss.length ss.length] 45)).alloc (.cells #[.int .i64 0] 3)).alloc (.cells #[.pointer (some ⟨c, 0, none⟩)] 30)
  have kr4 := ((kr3.alloc (.cells #[.slice (some ⟨g, 0, none⟩) ss.length ss.length] 45)).alloc (.cells #[.int .i64 0] 3)).alloc (.cells #[.pointer (some ⟨c, 0, none⟩)] 30)
  have kb4 := ((kb3.alloc (.cells #[.slice (some ⟨g, 0, none⟩) ss.length ss.length] 45)).alloc (.cells #[.int .i64 0] 3)).alloc (.cells #[.pointer (some ⟨c, 0, none⟩)] 30)
  have hB6 := ((hB5.alloc hB5.size (.cells #[.slice (some ⟨g, 0, none⟩) ss.length ss.length] 45)).alloc (by have := hB5.size; simp; omega) (.cells #[.int .i64 0] 3)).alloc (by have := hB5.size; simp; omega) (.cells #[.pointer (some ⟨c, 0, none⟩)] 30)
  have hsz : (((W3.alloc (.cells #[.slice (some ⟨g, 0, none⟩) ss.length ss.length] 45)).alloc (.cells #[.int .i64 0] 3)).alloc (.cells #[.pointer (some ⟨c, 0, none⟩)] 30)).heap.size = W3.heap.size + 3 := by simp
  generalize ((W3.alloc (.cells #[.slice (some ⟨g, 0, none⟩) ss.length ss.length] 45)).alloc (.cells #[.int .i64 0] 3)).alloc (.cells #[.pointer (some ⟨c, 0, none⟩)] 30) = W4 at *
  have hlsl : ls.length = ss.length := HLd.out.1
  have h0 : Here w.heap.size W3.heap.size g p q cp cq ss.length 0 ls W4 := ⟨by simpa using kb4.cell 0, by simpa using kb4.cell 1, ⟨by simpa using kr4.cell 0, kr4.free 0⟩, by simpa using b1.cell 0, ⟨by simpa using b2.cell 0, b2.free 0⟩, fun j hj => by
    rw [hL4.cell j]
    have : j < ls.length := by omega
    simp [vals, this]⟩
  have k4 : W4.cell? ⟨W3.heap.size + 1 + 1, 0, none⟩ = some (.pointer (some ⟨c, 0, none⟩)) := by simpa using a3.cell 0
  clear hL hB5 kr3 kb3 a1 a2 a3 b1 b2 hL4 kr4 kb4
  obtain ⟨m, hm⟩ : ∃ m, W3.heap.size = m := ⟨_, rfl⟩
  rw [hm] at h0 k4 hmu hgm hsz ⊢
  clear hm
  have hC4 := h.below hB6
  refine wpIn_rangeFunc_ownF (Kp := Spares W4.heap.size) rfl (by omega) (gf := 38) (lb := #[.pointer (some ⟨m + 1 + 1, 0, none⟩)]) rfl trivial (enters_of Try.func38 (by kernel_rfl) rfl)
    (order_stops (m + 1 + 1) W4 hC4 hg k4 (by omega) _ (by omega)) Spares.trans (fun W l o o' _ h1 h2 _ => spares_b W l o o' h1 h2) (Below.refl _ _) (fun _ => rfl)
    (fun (pre : List (Fin ss.length)) W => Here w.heap.size m g p q cp cq ss.length pre.length ls W ∧ Below w.heap.size w W)
    (fun cd (pre : List (Fin ss.length)) W => (cd = .ret ∧ ∃ (o : List (Fin ss.length)) (x : Fin ss.length), pre = o ++ [x] ∧ ls[o.length]?.getD 0 ≠ (x.1 : Nat)) ∧ Below w.heap.size w W)
    (OwnFrom.and (show OwnFrom W4.heap.size (fun (pre : List (Fin ss.length)) W => Here w.heap.size m g p q cp cq ss.length pre.length ls W) from Own.from (fun s A B row hs hg hr => here_kept (show Here w.heap.size m g p q cp cq ss.length s.length ls A from hs) hg hr) _) (ownFrom_below (Nat.le_refl _) (by omega)))
    (fun cd => OwnFrom.and (Own.from (fun s A B row hs hg hr => hs) _) (ownFrom_below (Nat.le_refl _) (by omega)))
    ⟨h0, hB6⟩
    (fun (x : Fin ss.length) => { tmps := #[Value.pointer (some ⟨c, 0, none⟩), Value.agg #[.slice (some ⟨p, 0, none⟩) ss.length cp, .slice (some ⟨q, 0, none⟩) ss.length cq], Value.int .i64 i, undef, Value.pointer (some ⟨w.heap.size, 0, none⟩), undef, Value.pointer (some ⟨w.heap.size + 1, 0, none⟩), Value.pointer (some ⟨m, 0, none⟩), Value.pointer (some ⟨m + 1, 0, none⟩), Value.int .i64 (x.1 : Nat), undef, undef, undef, undef, undef, undef, Value.pointer (some ⟨c, 0, none⟩), Value.int .i64 ss.length, Value.pointer (some ⟨w.heap.size, 0, none⟩), Value.slice (some ⟨p, 0, none⟩) ss.length cp, Value.int .i64 ss.length, Value.bool false, Value.bool false, Value.pointer (some ⟨c, 0, none⟩), Value.slice (some ⟨g1, 0, none⟩) ss.length cap1, Value.pointer (some ⟨w.heap.size, 1, none⟩), Value.slice (some ⟨q, 0, none⟩) ss.length cq, Value.bool true, Value.bool false, Value.bool false, Value.agg #[.slice (some ⟨p, 0, none⟩) ss.length cp, .slice (some ⟨q, 0, none⟩) ss.length cq], Value.slice (some ⟨g, 0, none⟩) ss.length ss.length, Value.pointer (some ⟨c, 0, none⟩), Value.func (.func 38) #[] #[.pointer (some ⟨m + 1 + 1, 0, none⟩)], Value.int .i64 (x.1 : Nat), undef, undef, undef, undef, undef, undef, undef, undef, undef, undef, undef, undef, undef, undef, undef, undef, undef, undef, undef, undef, undef, undef, undef, undef, undef, undef, undef, undef, undef, undef, undef, undef, undef, undef, undef, undef, undef, undef, undef, undef, undef, undef, undef, undef, undef, undef, undef, undef, undef, undef, undef, undef, undef, undef, undef, undef, undef, undef, undef, undef, undef, undef, undef, undef, undef, undef, undef, undef, undef, undef, undef, undef, undef, undef, undef, undef, undef, undef, undef, undef, undef, undef, undef, undef, undef, undef, undef, undef, undef, undef, undef, undef, undef, undef, undef, undef, undef, undef, undef, undef, undef, undef, undef, undef, undef], defers := [] }) ?assign ?body ?done ?stop
  case assign =>
    intro l x W K hK
    gi_wp2
    exact hK
  case body =>
    rintro l pre x W ⟨hh, hB⟩ hpl
    obtain ⟨g0, g1, ⟨g2, g2'⟩, g3, ⟨g4, g4'⟩, g5⟩ := id hh
    have g6 := g5 pre.length hpl
    clear g5
    by_cases hx : ls[pre.length]?.getD 0 = (x.1 : Nat)
    · rw [hx] at g6
      have hNx := here_next hh hmu hgm
      have HNx := Lib.hid hNx
      have hB2 := hB.setCell (p := ⟨m + 1, 0, none⟩) (by simp; omega) (.int .i64 ((pre.length + 1 : Nat) : Int))
      have t1 : decide (ss.length ≤ pre.length) = false := decide_eq_false (by omega)
      clear hx hNx hh
      gi_wp2
      have ec : ((pre.length : Int) + 1) = ((pre.length + 1 : Nat) : Int) := by omega
      rw [ec]
      exact ⟨KeepsOthers.setCell _ _ _, spares_set _ _ _ (by simp; omega), by rw [List.length_append]; exact HNx.out, hB2⟩
    · have hx2 := Lib.hid hx
      have t1 : decide (ss.length ≤ pre.length) = false := decide_eq_false (by omega)
      have hB2 := hB.setCell (p := ⟨w.heap.size + 1, 0, none⟩) (by simp) (.bool false)
      generalize ls[pre.length]?.getD 0 = z at g6 hx
      have t2 : (z != (x.1 : Int)) = true := by rw [bne_iff_ne]; exact hx
      clear hx hh
      gi_wp2
      exact ⟨KeepsOthers.setCell _ _ _, ⟨rfl, pre, x, rfl, hx2.out⟩, hB2⟩
  case stop =>
    rintro D cd pre W hD ⟨L, hL, hpre⟩ ⟨⟨rfl, o, x, rfl, hne⟩, hB⟩ hK
    exfalso
    obtain ⟨t, ht2⟩ := hpre
    have hlen : o.length < ss.length := by
      have : L.length = ss.length := by simpa using hL.1.length_eq
      rw [← ht2] at this
      simp at this
      omega
    apply hne
    rw [laid_ord HLd.out hL o.length hlen, ← ht2]
    simp
  case done =>
    rintro D ys W hD hys ⟨hh, hB⟩ hK
    have hyl : ys.length = ss.length := by simpa using hys.1.length_eq
    rw [hyl] at hh
    have hC := h.below hB
    have hR := hr.below hB
    have HNext := Lib.hid (fun W (hW : Clk W B c bt capT bm ss ts) => next_any W hW hg)
    have hb0 : ls[0]?.getD 0 = ((best ts ss.length : Nat) : Int) := laid_best HLd.out hg.1
    obtain ⟨g0, g1, ⟨g2, g2'⟩, g3, ⟨g4, g4'⟩, g5⟩ := id hh
    have g6 := g5 0 hg.1
    rw [hb0] at g6
    have hpos := hg.1
    have HH := Lib.hid hh
    have hDw : w.heap.size ≤ D := by omega
    clear g5 hb0 hyl hys h0 k4 hC4 hB6 hsz hh
    gi_wp2_with fail
    refine wpIn_wide.2 ?_
    go_region_held3 (fun W => W.cell? ⟨m + 1, 0, none⟩ = some (.int .i64 ss.length) ∧ W.cell? ⟨m, 0, none⟩ = some (.slice (some ⟨g, 0, none⟩) ss.length ss.length) ∧ W.cell? ⟨g, 0, none⟩ = some (.int .i64 (best ts ss.length : Nat)))
      (first | go_keep | exact ⟨x0, x1, x2⟩ | exact ⟨g4, g3, g6⟩)
      (first
        | (go_at_call 22; refine (HNext.out _ (by first | exact hC | exact hC.drew)).mono ?_; rintro e W1 ⟨rfl, hB1⟩; have hh1 := here_below (A := W.drew) HH.out hB1; have x0 := hh1.2.2.2.2.1.1; have x1 := hh1.2.2.2.1; have x2 := (hB1.cell (p := ⟨g, 0, none⟩) (World.block_lt_of_cell? W _ g6)).trans g6))
    have hBW := hB.trans ((Below.trans (Below.drew (Below.refl _ _)) hB1).mono hB.size)
    have hK1 := obj_below (A := W.drew) hK hB1
    have hC1 := hC.drew.below hB1
    have hR1 := hR.drew.below hB1
    have HH1 := Lib.hid hh1
    have y0 := hh1.1
    have y1 := hh1.2.1
    have y2 := hh1.2.2.1.1
    have y3 := hh1.2.2.1.2
    clear hK hB hC hR HNext g0 g1 g2 g2' g3 g4 g4' g6 HH hB1 hh1 x0 x1 x2 HLd hlsl
    by_cases hi : 0 ≤ i ∧ i < ss.length
    · obtain ⟨k, rfl⟩ : ∃ k : Nat, i = k := ⟨i.toNat, by omega⟩
      have hk : k < ss.length := by omega
      have hs : 1 ≤ ss[k]?.getD 0 ∧ ss[k]?.getD 0 ≤ 16777216 := by
        rw [List.getElem?_eq_getElem hk]; exact hg.2.2 _ (List.getElem_mem hk)
      have hx := ht k
      have HSc := Lib.hid (fun W (hW : Clk W B c bt capT bm ss ts) => scale_any k W hW hk hn)
      have HAt := Lib.hid (fun W (hW : Clk W B c bt capT bm ss ts) => at_any k W hW hk hn)
      have HRo := Lib.hid (fun W (hW : Clk W B c bt capT bm ss ts) => room_any k W hW hg ht hk)
      have HIs := Lib.hid (fun W => is_any p q ss.length cp cq (k : Int) W hi0 hi1 hn)
      rw [show (decide ((0 : Int) ≤ k) && decide ((k : Int) < ss.length)) = true by simp; exact hk] at HIs
      have HRr := Lib.hid (fun (r : Int) (W : World) (hW : Rf W p q ss ts) (hr : RoomOK ts ss k r) => rroom_any (cp := cp) (cq := cq) k r W hW hn hk hs.1 hs.2 hx.1 hx.2 hr)
      have HRok := Lib.hid (fun (r : Int) (h : RoomIs ts ss ss.length k r) => room_ok hs.1 h)
      unfold rv at HIs HRr
      obtain ⟨s, hS⟩ : ∃ s, ss[k]?.getD 0 = s := ⟨_, rfl⟩
      obtain ⟨x, hX⟩ : ∃ x, ts[k]?.getD 0 = x := ⟨_, rfl⟩
      rw [hS] at HSc
      rw [hX] at HAt
      have HSv := Lib.hid hS
      have HXv := Lib.hid hX
      clear hi hs hx hS hX
      gi_wp2_with fail
      refine ⟨trivial, ?_⟩
      refine (callsIn_wide.2 (HSc.out _ hC1)).mono ?_; rintro e w' ⟨rfl, rfl⟩
      gi_wp2_with fail
      refine ⟨trivial, ?_⟩
      refine (callsIn_wide.2 (HAt.out _ hC1)).mono ?_; rintro e w' ⟨rfl, rfl⟩
      gi_wp2_with fail
      refine ⟨trivial, ?_⟩
      refine (callsIn_wide.2 (HRo.out _ hC1)).mono ?_; rintro e W5 ⟨r, rfl, hrm, hB5⟩
      have hok := Lib.hid (HRok.out r hrm)
      have hBX := hBW.trans (hB5.mono hBW.size)
      have hK5 := obj_below hK1 hB5
      have hR5 := hR1.below hB5
      have hh5 := here_below HH1.out hB5
      clear HSc HAt HRo hC1 hR1 hB5 hBW hK1 y0 y1 y2 y3 HH1 hrm HRok
      have y0 := hh5.1
      have y1 := hh5.2.1
      gi_wp2_with fail
      refine ⟨trivial, ?_⟩
      refine (callsIn_wide.2 (HIs.out _)).mono ?_; rintro e W6 ⟨rfl, hB6⟩
      have hBY := hBX.trans (hB6.mono hBX.size)
      have hK6 := obj_below hK5 hB6
      have hR6 := hR5.below hB6
      have hh6 := here_below hh5 hB6
      clear HIs hR5 hB6 hBX hK5 y0 y1 hh5
      have y0 := hh6.1
      have y1 := hh6.2.1
      have v0 := hR6.sc k hk
      have v1 := hR6.tm k hk
      rw [HSv.out] at v0
      rw [HXv.out] at v1
      have HH6 := Lib.hid hh6
      clear hh6
      gi_wp2_with fail
      refine ⟨trivial, ?_⟩
      refine (callsIn_wide.2 (HRr.out r _ hR6 hok.out)).mono ?_; rintro e W7 ⟨rfl, hB7⟩
      have hBZ := hBY.trans (hB7.mono hBY.size)
      have hK7 := obj_below hK6 hB7
      have hh7 := here_below HH6.out hB7
      clear HRr hB7 hBY hK6 y0 y1 HH6 hR6 v0 v1
      have y2 := hh7.2.2.1.1
      have y3 := hh7.2.2.1.2
      clear hh7
      gi_wp2_with fail
      have hBf := hBZ.setCell (p := ⟨w.heap.size + 1, 0, none⟩) (by simp) (.bool true)
      have hKf := (KeepsOthers.setCell W7 ⟨w.heap.size + 1, 0, none⟩ (.bool true)).same D _ hK7 rfl
      have cf : (W7.setCell ⟨w.heap.size + 1, 0, none⟩ (.bool true)).cell? ⟨w.heap.size + 1, 0, none⟩ = some (.bool true) := World.cell?_setCell_same' _ _ _ (by rw [y2]; rfl)
      generalize W7.setCell ⟨w.heap.size + 1, 0, none⟩ (.bool true) = W8 at hBf hKf cf ⊢
      refine ⟨by simp, .inl ⟨_, _, rfl, run_takeDeferred hKf, ?_⟩⟩
      have c5 := cell_kept cf (grownBy_putObj' _ D (.deferred none)) (fun r e => by cases e; exact ⟨_, hKf, rfl⟩)
      exact ⟨.bool true, by simp [results, Try.f19, go_sem, c5], rfl, hBf.trans (belowK_b (w := w) (Nat.le_refl _) _ D _ _ (by omega) hKf rfl rfl)⟩
    · have HSc := Lib.hid (fun W (hW : Clk W B c bt capT bm ss ts) => scale_bad i W hW hn hi)
      have HAt := Lib.hid (fun W (hW : Clk W B c bt capT bm ss ts) => at_bad i W hW hn hi)
      have HRo := Lib.hid (fun W (hW : Clk W B c bt capT bm ss ts) => room_bad i W hW hn hi)
      have HIs := Lib.hid (fun W => is_any p q ss.length cp cq i W hi0 hi1 hn)
      rw [show (decide (0 ≤ i) && decide (i < ss.length)) = false by
        rw [Bool.and_eq_false_iff]
        by_cases a : 0 ≤ i
        · exact .inr (decide_eq_false (by omega))
        · exact .inl (decide_eq_false a)] at HIs
      unfold rv at HIs
      clear hi
      gi_wp2_with fail
      refine ⟨trivial, ?_⟩
      refine (callsIn_wide.2 (HSc.out _ hC1)).mono ?_; rintro e w' ⟨rfl, rfl⟩
      gi_wp2_with fail
      refine ⟨trivial, ?_⟩
      refine (callsIn_wide.2 (HAt.out _ hC1)).mono ?_; rintro e w' ⟨rfl, rfl⟩
      gi_wp2_with fail
      refine ⟨trivial, ?_⟩
      refine (callsIn_wide.2 (HRo.out _ hC1)).mono ?_; rintro e W5 ⟨rfl, hB5⟩
      have hBX := hBW.trans (hB5.mono hBW.size)
      have hK5 := obj_below hK1 hB5
      have hh5 := here_below HH1.out hB5
      clear HSc HAt HRo hC1 hR1 hB5 hBW hK1 y0 y1 y2 y3 HH1
      have y0 := hh5.1
      have y1 := hh5.2.1
      gi_wp2_with fail
      refine ⟨trivial, ?_⟩
      refine (callsIn_wide.2 (HIs.out _)).mono ?_; rintro e W7 ⟨rfl, hB6⟩
      have hBZ := hBX.trans (hB6.mono hBX.size)
      have hK7 := obj_below hK5 hB6
      have hh7 := here_below hh5 hB6
      clear HIs hB6 hBX hK5 y0 y1 hh5
      have y2 := hh7.2.2.1.1
      have y3 := hh7.2.2.1.2
      clear hh7
      gi_wp2_with fail
      have hBf := hBZ.setCell (p := ⟨w.heap.size + 1, 0, none⟩) (by simp) (.bool true)
      have hKf := (KeepsOthers.setCell W7 ⟨w.heap.size + 1, 0, none⟩ (.bool true)).same D _ hK7 rfl
      have cf : (W7.setCell ⟨w.heap.size + 1, 0, none⟩ (.bool true)).cell? ⟨w.heap.size + 1, 0, none⟩ = some (.bool true) := World.cell?_setCell_same' _ _ _ (by rw [y2]; rfl)
      generalize W7.setCell ⟨w.heap.size + 1, 0, none⟩ (.bool true) = W8 at hBf hKf cf ⊢
      refine ⟨by simp, .inl ⟨_, _, rfl, run_takeDeferred hKf, ?_⟩⟩
      have c5 := cell_kept cf (grownBy_putObj' _ D (.deferred none)) (fun r e => by cases e; exact ⟨_, hKf, rfl⟩)
      exact ⟨.bool true, by simp [results, Try.f19, go_sem, c5], rfl, hBf.trans (belowK_b (w := w) (Nat.le_refl _) _ D _ _ (by omega) hKf rfl rfl)⟩
end Go.Proofs.Ytijcfpdcijpenaa
