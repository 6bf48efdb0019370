/-
  The closure that the threads are sorted by.
-/
import Derived.Test.YtijcfpdcijpenaaAhead
import Derived.Test.YtijcfpdcijpenaaSort
namespace Go.Proofs.Ytijcfpdcijpenaa
open Go.RowKit Go.Shelf
set_option maxRecDepth 100000
set_option maxHeartbeats 1000000

/-- What the closure tells. -/
def cmpOf (ts : List Int) (i j : Nat) : Int := if ahd ts i j then -1 else if ahd ts j i then 1 else 0

theorem grow4 (w : World) (a b c d : Obj) (q : Nat) : ((((w.alloc a).alloc b).alloc c).alloc d).drewN q = Go.Sort.grow (w.drewN q) #[a, b, c, d] := by
  simp only [Go.Sort.alloc_eq_grow, Go.Sort.grow_grow]; rfl
theorem grow6 (w : World) (a b c d e f : Obj) (q q2 : Nat) : ((((((((w.alloc a).alloc b).alloc c).alloc d).drewN q).alloc e).alloc f).drewN q2) = Go.Sort.grow (w.drewN (q + q2)) #[a, b, c, d, e, f] := by
  have h : (((((w.heap.push a).push b).push c).push d).push e).push f = w.heap ++ #[a, b, c, d, e, f] := by simp [← Array.append_singleton]
  simp only [World.alloc, World.drewN, Go.Sort.grow, h, Nat.add_assoc]

theorem load4 (w : World) (a b c d : Obj) (q : Nat) (p : Addr) (hp : p.block < w.heap.size) : (((((w.alloc a).alloc b).alloc c).alloc d).drewN q).cell? p = w.cell? p := by
  have h1 := World.cell?_alloc_lt w a p hp
  have h2 := World.cell?_alloc_lt (w.alloc a) b p (by simp; omega)
  have h3 := World.cell?_alloc_lt ((w.alloc a).alloc b) c p (by simp; omega)
  have h4 := World.cell?_alloc_lt (((w.alloc a).alloc b).alloc c) d p (by simp; omega)
  exact h4.trans (h3.trans (h2.trans h1))

theorem cmp_any (i j : Nat) (si sj : Int) (Bx : Nat) (w : World) {c bm n : Nat} {ts : List Int} (h : Tm w c bm n ts) (hb : w.cell? ⟨Bx, 0, none⟩ = some (.func (.func 36) #[.pointer (some ⟨c, 0, none⟩)] #[])) (hl : Bx < w.heap.size) (hi : i < n) (hj : j < n) (hn : n ≤ 16) :
    Calls Try.prog 47 #[.agg #[.int .i64 i, .int .i64 si], .agg #[.int .i64 j, .int .i64 sj], .pointer (some ⟨Bx, 0, none⟩)] w fun e w' => e = .returned (.int .i64 (cmpOf ts i j)) ∧ ∃ q os', w' = Go.Sort.grow (w.drewN q) os' := by
  have H1 := fun W hW => Lib.hid (ahead_any i j si sj W (c := c) (bm := bm) (n := n) (ts := ts) hW hi hj hn)
  have H2 := fun W hW => Lib.hid (ahead_any j i sj si W (c := c) (bm := bm) (n := n) (ts := ts) hW hj hi hn)
  unfold cmpOf
  have K1 := H1 _ ((h.alloc (.cells #[.int .i64 i, .int .i64 si] 61)).alloc (.cells #[.int .i64 j, .int .i64 sj] 61))
  clear H1
  cases b1 : ahd ts i j
  · rw [b1] at K1
    cases b2 : ahd ts j i
    all_goals
      rw [b2] at H2
      clear b1 b2
      go_enter Try.func47, Try.ntmps47
      go_wp2_with fail
      refine K1.out.mono ?_
      rintro e w2 ⟨rfl, q, rfl⟩
      have hb4 := (load4 w (.cells #[.int .i64 i, .int .i64 si] 61) (.cells #[.int .i64 j, .int .i64 sj] 61) (.cells #[.int .i64 i, .int .i64 si] 61) (.cells #[.int .i64 j, .int .i64 sj] 61) q ⟨Bx, 0, none⟩ hl).trans hb
      go_wp2_with fail
      refine (H2 _ (((((h.alloc _).alloc _).alloc _).alloc _).drewN q)).out.mono ?_
      rintro e w2 ⟨rfl, q2, rfl⟩
      clear H2 K1
      go_wp2
      go_ret
      exact ⟨rfl, _, _, grow6 _ _ _ _ _ _ _ _ _⟩
  · rw [b1] at K1
    clear b1
    go_enter Try.func47, Try.ntmps47
    go_wp2_with fail
    refine K1.out.mono ?_
    rintro e w2 ⟨rfl, q, rfl⟩
    clear K1 H2
    go_wp2
    go_ret
    exact ⟨rfl, _, _, grow4 _ _ _ _ _ _⟩
end Go.Proofs.Ytijcfpdcijpenaa
