/-
  What a call leaves as it was; times that may be.
-/
import Derived.Test.YtijcfpdcijpenaaSame
import Derived.Test.YtijcfpdcijpenaaRfNew
import Derived.Test.YtijcfpdcijpenaaOps
namespace Go.Proofs.Ytijcfpdcijpenaa
open Go.RowKit Go.Shelf
set_option maxRecDepth 100000
set_option maxHeartbeats 1000000
set_option linter.unusedVariables false
theorem Clk.only {w w' : World} {B c bt capT bm g : Nat} {ss ts : List Int} (h : Clk w B c bt capT bm ss ts) (hg : w.grownBy w' (some g)) (h1 : g ≠ c) (h2 : g ≠ bt) (h3 : g ≠ bm) : Clk w' B c bt capT bm ss ts :=
  ⟨h.head.grown hg (fun e => h1 (by injection e)), h.rows.kept hg (.inr (fun e => h2 (by injection e with e; exact e.symm))), h.times.grown hg (fun e => h3 (by injection e)), h.size, h.low⟩
theorem Clk.rowB {w : World} {B c bt capT bm : Nat} {ss ts : List Int} (h : Clk w B c bt capT bm ss ts) : B ≤ bt ∧ bt < w.heap.size := h.rows.lt bt rfl
theorem Rf.only {w w' : World} {p q g : Nat} {ss ts : List Int} (h : Rf w p q ss ts) (hg : w.grownBy w' (some g)) (h1 : g ≠ p) (h2 : g ≠ q) : Rf w' p q ss ts :=
  ⟨h.ne, Nat.lt_of_lt_of_le h.pl hg.size, Nat.lt_of_lt_of_le h.ql hg.size, fun i hi => (World.cell?_of_block (hg.block p h.pl (fun e => h1 (by injection e with e; exact e.symm)))).trans (h.sc i hi),
    fun i hi => (World.cell?_of_block (hg.block q h.ql (fun e => h2 (by injection e with e; exact e.symm)))).trans (h.tm i hi), fun i => (World.frozen?_of_block (hg.block q h.ql (fun e => h2 (by injection e with e; exact e.symm)))).trans (h.fr i), h.size⟩
theorem Whole.only {w w' : World} {g k : Nat} {t : TypeId} {cs : Array Value} (h : Whole w k t cs) (hg : w.grownBy w' (some g)) (h1 : g ≠ k) : Whole w' k t cs := h.grown hg (fun e => h1 (by injection e))
theorem Lies.only {w w' : World} {g : Nat} {a : Option Addr} {zs : List Int} (h : Lies .i64 w a zs) (hg : w.grownBy w' (some g)) (h1 : ∀ b o, a = some ⟨b, o, none⟩ → b ≠ g) : Lies .i64 w' a zs := by
  rcases h with h | ⟨b, o, rfl, hlt, hc⟩
  · exact .inl h
  · exact .inr ⟨b, o, rfl, Nat.lt_of_lt_of_le hlt hg.size, fun i hi => (World.cell?_of_block (hg.block b hlt (fun e => h1 b o rfl (by injection e)))).trans (hc i hi)⟩
theorem timed_add {ss ts us : List Int} {i n E : Int} (ht : Timed ts) (hts : ts.length = ss.length) (hs : ∀ k, k < ss.length → 1 ≤ ss[k]?.getD 0) (hE : addErr ss ts i n = E) (hU : (if E = 0 then ts.set i.toNat (ts[i.toNat]?.getD 0 + ss[i.toNat]?.getD 0 * n) else ts) = us) : Timed us := by
  by_cases h : E = 0
  · rw [if_pos h] at hU
    subst hU
    unfold addErr at hE
    by_cases h1 : ¬ (0 ≤ i ∧ i < ss.length)
    · rw [if_pos h1] at hE; omega
    · rw [if_neg h1] at hE
      by_cases h2 : n < 0 ∨ 1073741824 < n
      · rw [if_pos h2] at hE; omega
      · rw [if_neg h2] at hE
        by_cases h3 : 1152921504606846976 < ts[i.toNat]?.getD 0 + ss[i.toNat]?.getD 0 * n
        · rw [if_pos h3] at hE; omega
        · have hi : i.toNat < ss.length := by omega
          have hp : 0 ≤ ss[i.toNat]?.getD 0 * n := Int.mul_nonneg (by have := hs _ hi; omega) (by omega)
          intro k
          rw [set_read ts _ _ _ (by omega)]
          have h4 := ht i.toNat
          split
          · omega
          · exact ht k
  · rw [if_neg h] at hU
    subst hU
    exact ht
theorem good_at {ss : List Int} (h : Good ss) : ∀ k, k < ss.length → 1 ≤ ss[k]?.getD 0 ∧ ss[k]?.getD 0 ≤ 16777216 := fun k hk => by
  rw [List.getElem?_eq_getElem hk]; exact h.2.2 _ (List.getElem_mem hk)
theorem radd_at (i n : Int) (w : World) {p q cp cq : Nat} {ss ts : List Int} (h : Rf w p q ss ts) (hg : Good ss) (hi0 : -9223372036854775808 ≤ i) (hi1 : i ≤ 9223372036854775807) (hn0 : -9223372036854775808 ≤ n) (hn1 : n ≤ 9223372036854775807)
    (ht : Timed ts) (E : Int) (us : List Int) (hE : addErr ss ts i n = E) (hU : (if E = 0 then ts.set i.toNat (ts[i.toNat]?.getD 0 + ss[i.toNat]?.getD 0 * n) else ts) = us) :
    Calls Try.prog 13 #[.agg #[.slice (some ⟨p, 0, none⟩) ss.length cp, .slice (some ⟨q, 0, none⟩) ss.length cq], .int .i64 i, .int .i64 n] w fun e w' => e = .returned (.int .i64 E) ∧ w.grownBy w' (some q) ∧ Rf w' p q ss us := by
  have := radd_any (cp := cp) (cq := cq) i n w h hg.2.1 hi0 hi1 hn0 hn1 (good_at hg) ht
  rw [hE, hU] at this
  exact this
theorem cset_at (g cap : Nat) (zs : List Int) (w : World) {B c bt capT bm : Nat} {ss ts : List Int} (h : Clk w B c bt capT bm ss ts) (hg : Good ss) (hz : Whole w g 2 (vals .i64 zs).toArray) (hm : zs.length ≤ maxLen) (E : Int) (us : List Int) (hE : setErr ss.length zs = E) (hU : (if E = 0 then zs else ts) = us) :
    Calls Try.prog 14 #[.pointer (some ⟨c, 0, none⟩), .slice (some ⟨g, 0, none⟩) zs.length cap] w fun e w' => e = .returned (.int .i64 E) ∧ w.grownBy w' (some bm) ∧ Clk w' B c bt capT bm ss us := by
  refine (cset_any g cap zs w h hg hz hm).mono ?_
  rintro e w' ⟨rfl, hG, h1, h2⟩
  refine ⟨by rw [hE], hG, ?_⟩
  by_cases e : E = 0
  · rw [if_pos e] at hU
    subst hU
    exact h1 (hE.trans e)
  · rw [if_neg e] at hU
    subst hU
    exact h2 (fun h => e (hE.symm.trans h))
theorem timed_set {ss ts zs us : List Int} {E : Int} (ht : Timed ts) (hE : setErr ss.length zs = E) (hU : (if E = 0 then zs else ts) = us) : Timed us := by
  by_cases e : E = 0
  · rw [if_pos e] at hU
    subst hU
    exact (timed_of (hE.trans e)).2
  · rw [if_neg e] at hU
    subst hU
    exact ht
end Go.Proofs.Ytijcfpdcijpenaa
