/-
  The reads of Where's iterator: all, called; the list that it gives; the outer yield, called.
-/
import Derived.Test.YthhahhmdpjchkaaRangeO
import Derived.Test.YthhahhmdpjchkaaAcc
namespace Go.Proofs.Ythhahhmdpjchkaa
open Go.RowKit Go.Shelf
attribute [local go_sem] Oper.semAt_some
set_option maxRecDepth 100000
set_option maxHeartbeats 1000000

/-- all gives the iterator over two new boxes. -/
theorem allf_any {b k : Nat} (w : World) :
    Calls Try.prog 31 #[.pointer (some ⟨b, 0, none⟩), .int .u8 k] w fun e w' => ∃ B1 K1, e = .returned (.func (.func 34) #[] #[.pointer (some ⟨B1, 0, none⟩), .pointer (some ⟨K1, 0, none⟩)]) ∧ w.heap.size ≤ B1 ∧ w.heap.size ≤ K1 ∧
      Whole w' B1 25 #[.pointer (some ⟨b, 0, none⟩)] ∧ Whole w' K1 5 #[.int .u8 k] ∧ Below w.heap.size w w' := by
  go_enter Try.func31, Try.ntmps31
  go_wp2_with fail
  refine bodyPost_ret (results_tmp rfl _ _ _) rfl ?_
  refine ⟨_, _, rfl, Nat.le_refl _, Nat.le_succ _, (Whole.fresh w 25 _).alloc _, ?_, ((Below.refl _ w).alloc (Nat.le_refl _) _).alloc (by simp) _⟩
  have := Whole.fresh (w.alloc (.cells #[.pointer (some ⟨b, 0, none⟩)] 25)) 5 #[.int .u8 k]
  rwa [World.size_alloc] at this

/-- What of a list holds the spot (K, Z). -/
def hits (l n m K : Nat) (Z : Int) (xs : List Ad) : List Ad := xs.filter fun q => decide ((spot l n m q.1).1 = K ∧ ((spot l n m q.1).2 : Int) = Z)
theorem hits_append (l n m K : Nat) (Z : Int) (xs ys : List Ad) : hits l n m K Z (xs ++ ys) = hits l n m K Z xs ++ hits l n m K Z ys := List.filter_append ..
theorem hits_one {l n m K : Nat} {Z : Int} {x : Ad} (h : (spot l n m x.1).1 = K ∧ ((spot l n m x.1).2 : Int) = Z) (xs : List Ad) : hits l n m K Z (xs ++ [x]) = hits l n m K Z xs ++ [x] := by rw [hits_append]; congr 1; simp [hits, h]
theorem hits_none {l n m K : Nat} {Z : Int} {x : Ad} (h : ¬ ((spot l n m x.1).1 = K ∧ ((spot l n m x.1).2 : Int) = Z)) (xs : List Ad) : hits l n m K Z (xs ++ [x]) = hits l n m K Z xs := by
  rw [hits_append, show hits l n m K Z [x] = [] by simp only [hits, List.filter, decide_eq_false h], List.append_nil]
theorem hits_prefix (l n m K : Nat) (Z : Int) {xs ys : List Ad} (h : xs <+: ys) : hits l n m K Z xs <+: hits l n m K Z ys := by
  obtain ⟨zs, rfl⟩ := h
  exact ⟨_, (hits_append ..).symm⟩
/-- How many bytes there are of a kind. -/
def lenK (n m K : Nat) : Nat := if K = 1 then n else if K = 2 then m else 0
/-- What Where gives. -/
def allHits (l n m K : Nat) (Z : Int) : List Ad := if 0 ≤ Z ∧ Z < lenK n m K then hits l n m K Z (upA (fun q => (spot l n m q).1) K 2048) else []
/-- A call of yield, at whatever depth, within whatever round. -/
theorem yieldAt_any {p p' lo li : Nat} {args : Array Value} {W : World} {R : Ending → World → Prop} (h : YieldAt Fence.wide p Try.prog lo args W R) : YieldAt (Fence.wide.inRound li) p' Try.prog lo args W R := by
  obtain ⟨fn, tmps, assign, body, hy, hR⟩ := h
  exact ⟨fn, tmps, assign, body, hy, hR.1, fun c cs _ => hR.2 c cs (room_wide _)⟩

/-- What Where's iterator reads: what all's reads, and the box of the spot. -/
structure WhereAt (b R M X l n cap m S0 B0 K : Nat) (Z : Int) (x y z : Nat) (f g : Nat → Nat) (W : World) : Prop where
  brd : Brd W b R M X l n cap m f g
  hS : Whole W S0 33 #[.int .u8 K, .int .i64 Z]
  hB : Whole W B0 25 #[.pointer (some ⟨b, 0, none⟩)]
  ne : ∀ v, v = x ∨ v = y ∨ v = z → b ≠ v ∧ R ≠ v ∧ M ≠ v ∧ (l ≠ 1 → X ≠ v) ∧ B0 ≠ v ∧ S0 ≠ v
theorem WhereAt.below {b R M X l n cap m S0 B0 K x y z : Nat} {Z : Int} {f g : Nat → Nat} {W W' : World} (h : WhereAt b R M X l n cap m S0 B0 K Z x y z f g W) (hb : Below W.heap.size W W') : WhereAt b R M X l n cap m S0 B0 K Z x y z f g W' :=
  ⟨h.brd.below hb, h.hS.below hb h.hS.lt, h.hB.below hb h.hB.lt, h.ne⟩
theorem WhereAt.keeps {b R M X l n cap m S0 B0 K x y z : Nat} {Z : Int} {f g : Nat → Nat} {W W' : World} (h : WhereAt b R M X l n cap m S0 B0 K Z x y z f g W) (k : Keeps3 x y z W W') : WhereAt b R M X l n cap m S0 B0 K Z x y z f g W' := by
  obtain ⟨a1, a2, a3, a4, a5, a6⟩ := h.ne x (.inl rfl)
  obtain ⟨b1, b2, b3, b4, b5, b6⟩ := h.ne y (.inr (.inl rfl))
  obtain ⟨c1, c2, c3, c4, c5, c6⟩ := h.ne z (.inr (.inr rfl))
  exact ⟨⟨h.brd.lay, h.brd.head.keeps k a1 b1 c1, h.brd.rom.keeps k a2 b2 c2, h.brd.ram.keeps k a3 b3 c3, fun e => (h.brd.more e).keeps k (a4 e) (b4 e) (c4 e), h.brd.n1, h.brd.n2, h.brd.m2, h.brd.hb, h.brd.hR, h.brd.hX⟩,
    h.hS.keeps k a6 b6 c6, h.hB.keeps k a5 b5 c5, h.ne⟩
end Go.Proofs.Ythhahhmdpjchkaa
