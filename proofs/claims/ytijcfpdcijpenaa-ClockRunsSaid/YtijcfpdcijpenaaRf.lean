/-
  The document's clock: what is met where its scales and times lie; Is, Ahead.
-/
import Derived.Test.YtijcfpdcijpenaaAhead
namespace Go.Proofs.Ytijcfpdcijpenaa
open Go.RowKit Go.Shelf
set_option maxRecDepth 100000
set_option maxHeartbeats 1000000
set_option linter.unusedVariables false

/-- The document's clock by value: scales at block p, times at block q. -/
structure Rf (w : World) (p q : Nat) (ss ts : List Int) : Prop where
  ne : p ≠ q
  pl : p < w.heap.size
  ql : q < w.heap.size
  sc : ∀ i, i < ss.length → w.cell? ⟨p, i, none⟩ = some (.int .i64 (ss[i]?.getD 0))
  tm : ∀ i, i < ss.length → w.cell? ⟨q, i, none⟩ = some (.int .i64 (ts[i]?.getD 0))
  fr : ∀ i, w.frozen? ⟨q, i, none⟩ = false
  size : ts.length = ss.length
section
variable {w w' : World} {p q : Nat} {ss ts : List Int}
theorem Rf.below (h : Rf w p q ss ts) (hb : Below w.heap.size w w') : Rf w' p q ss ts :=
  ⟨h.ne, Nat.lt_of_lt_of_le h.pl hb.size, Nat.lt_of_lt_of_le h.ql hb.size, fun i hi => (hb.cell (p := ⟨p, i, none⟩) h.pl).trans (h.sc i hi), fun i hi => (hb.cell (p := ⟨q, i, none⟩) h.ql).trans (h.tm i hi),
    fun i => (hb.frozen (p := ⟨q, i, none⟩) h.ql).trans (h.fr i), h.size⟩
theorem Rf.alloc (h : Rf w p q ss ts) (o : Obj) : Rf (w.alloc o) p q ss ts := h.below ((Below.refl _ _).alloc (Nat.le_refl _) _)
theorem Rf.drewN (h : Rf w p q ss ts) (n : Nat) : Rf (w.drewN n) p q ss ts := h.below (below_drewN (Below.refl _ _) n)
end
/-- Its value. -/
def rv (p q n cp cq : Nat) : Value := .agg #[.slice (some ⟨p, 0, none⟩) n cp, .slice (some ⟨q, 0, none⟩) n cq]
theorem is_any (p q n cp cq : Nat) (i : Int) (w : World) (h1 : -9223372036854775808 ≤ i) (h2 : i ≤ 9223372036854775807) (hn : n ≤ 16) :
    Calls Try.prog 31 #[rv p q n cp cq, .int .i64 i] w fun e w' => e = .returned (.bool (decide (0 ≤ i) && decide (i < n))) ∧ Below w.heap.size w w' := by
  unfold rv
  by_cases a1 : 0 ≤ i
  · have d1 : decide (0 ≤ i) = true := decide_eq_true a1
    by_cases a2 : i < n
    · have d2 : decide (i < n) = true := decide_eq_true a2
      clear a1 a2
      go_enter Try.func31, Try.ntmps31
      go_wp2
      go_ret
      exact ⟨by rw [d1, d2]; rfl, (Below.refl _ _).alloc (Nat.le_refl _) _⟩
    · have d2 : decide (i < n) = false := decide_eq_false a2
      clear a1 a2
      go_enter Try.func31, Try.ntmps31
      go_wp2
      go_ret
      exact ⟨by rw [d1, d2]; rfl, (Below.refl _ _).alloc (Nat.le_refl _) _⟩
  · have d1 : decide (0 ≤ i) = false := decide_eq_false a1
    clear a1
    go_enter Try.func31, Try.ntmps31
    go_wp2
    go_ret
    exact ⟨by rw [d1]; rfl, (Below.refl _ _).alloc (Nat.le_refl _) _⟩
theorem rahead_any (i j : Nat) (w : World) {p q cp cq : Nat} {ss ts : List Int} (h : Rf w p q ss ts) (hi : i < ss.length) (hj : j < ss.length) (_hn : ss.length ≤ 16) :
    Calls Try.prog 43 #[rv p q ss.length cp cq, .int .i64 i, .int .i64 j] w fun e w' => e = .returned (.bool (ahd ts i j)) ∧ Below w.heap.size w w' := by
  unfold rv
  have h2 := (h.alloc (.cells #[.slice (some ⟨p, 0, none⟩) ss.length cp, .slice (some ⟨q, 0, none⟩) ss.length cq] 25)).tm i hi
  have h3 := (h.alloc (.cells #[.slice (some ⟨p, 0, none⟩) ss.length cp, .slice (some ⟨q, 0, none⟩) ss.length cq] 25)).tm j hj
  unfold ahd
  generalize ts[i]?.getD 0 = x at *
  generalize ts[j]?.getD 0 = y at *
  clear h
  by_cases a1 : x < y
  · have d1 : decide (x < y) = true := by simpa using a1
    go_enter Try.func43, Try.ntmps43
    go_wp2
    go_quiet (fail)
    go_wp2
    go_ret
    exact ⟨by simp [a1], below_drewN ((Below.refl _ _).alloc (Nat.le_refl _) _) _⟩
  · have d1 : decide (x < y) = false := by simpa using a1
    by_cases a2 : x = y
    · have d2 : (x == y) = true := by simpa using a2
      clear a2
      by_cases a3 : (i : Int) < (j : Int)
      · have d3 : decide (i < j) = true := by simp; omega
        go_enter Try.func43, Try.ntmps43
        go_wp2
        go_quiet (fail)
        go_wp2
        go_ret
        exact ⟨by simp [d2, d3], below_drewN ((Below.refl _ _).alloc (Nat.le_refl _) _) _⟩
      · have d3 : decide (i < j) = false := by simp; omega
        go_enter Try.func43, Try.ntmps43
        go_wp2
        go_quiet (fail)
        go_wp2
        go_ret
        exact ⟨by simp [d1, d3], below_drewN ((Below.refl _ _).alloc (Nat.le_refl _) _) _⟩
    · have d2 : (x == y) = false := by simpa using a2
      go_enter Try.func43, Try.ntmps43
      go_wp2
      go_quiet (fail)
      go_wp2
      go_ret
      exact ⟨by simp [d1, d2], below_drewN ((Below.refl _ _).alloc (Nat.le_refl _) _) _⟩
end Go.Proofs.Ytijcfpdcijpenaa
