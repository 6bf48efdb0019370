/-
  All by the document.
-/
import Derived.Test.YtekjcgckniopdaaBAll
namespace Go.Proofs.Ytekjcgckniopdaa
open Go.RowKit Go.Shelf Go.Sort
set_option maxRecDepth 100000
set_option maxHeartbeats 2000000
set_option linter.unusedVariables false
set_option linter.unusedSimpArgs false

theorem allF_last (g : Nat → Nat) (i : Nat) : allF g (16 * (i + 1) - 1) = (pqA g (i + 1)).1 ∧ allF g (16 * (i + 1) - 2) = (pqA g (i + 1)).2 := by
  unfold allF
  rw [show (16 * (i + 1) - 1) / 16 = i by omega, show (16 * (i + 1) - 1) % 16 = 15 by omega, show (16 * (i + 1) - 2) / 16 = i by omega, show (16 * (i + 1) - 2) % 16 = 14 by omega]
  exact ⟨rfl, rfl⟩
/-- The sample that stands k from the end: none there. -/
theorem rahead_no (w : World) (a : Option Addr) (n c k : Nat) (hn : n < k) : Calls Try.prog 29 #[.slice a n c, .int .i64 (k : Int)] w fun e w' => e = .returned (.int .i16 0) ∧ w' = w := by
  have hd : decide ((n : Int) < (k : Int)) = true := decide_eq_true (by omega)
  go_enter Try.func29, Try.ntmps29
  go_wp2_with fail
  go_ret
  exact ⟨rfl, rfl⟩
theorem rahead_at (w : World) (b o n c k : Nat) (x : Int) (hk : 0 < k) (hn : k ≤ n) (hN : n ≤ 140737488355328) (hx : w.cell? ⟨b, o + (n - k), none⟩ = some (.int .i16 x)) : Calls Try.prog 29 #[.slice (some ⟨b, o, none⟩) n c, .int .i64 (k : Int)] w fun e w' => e = .returned (.int .i16 x) ∧ w' = w := by
  have hd : decide ((n : Int) < (k : Int)) = false := decide_eq_false (by omega)
  have e1 : (n : Int) - (k : Int) = ((n - k : Nat) : Int) := by omega
  have l1 : n - k < n := by omega
  generalize n - k = j at *
  have hw : wrap64 (j : Int) = (j : Int) := by simp only [wrap64]; omega
  go_enter Try.func29, Try.ntmps29
  go_wp2_with fail
  go_ret
  exact ⟨rfl, rfl⟩
theorem rahead_any (w : World) (B i : Nat) (s : Value) (g : Nat → Nat) (h : w.ownsRow B 23 1 s (16 * i) (allL g i)) (hN : 16 * i ≤ 140737488355328) :
    (Calls Try.prog 29 #[s, .int .i64 1] w fun e w' => e = .returned (.int .i16 (pqA g i).1) ∧ w' = w) ∧
    (Calls Try.prog 29 #[s, .int .i64 2] w fun e w' => e = .returned (.int .i16 (pqA g i).2) ∧ w' = w) := by
  cases i with
  | zero =>
    rcases h.2 with ⟨rfl, _⟩ | ⟨gg, cap, cur, rfl, _⟩
    · exact ⟨rahead_no w none 0 0 1 (by decide), rahead_no w none 0 0 2 (by decide)⟩
    · exact ⟨rahead_no w _ 0 cap 1 (by decide), rahead_no w _ 0 cap 2 (by decide)⟩
  | succ i =>
    obtain ⟨e1, e2⟩ := allF_last g i
    obtain ⟨a, c, rfl, hI⟩ := own_irow (f := allF g) h (fun j hj => allL_at g (i + 1) j hj)
    rcases hI with h0 | ⟨b, o, rfl, hb, hc⟩
    · omega
    have c1 := hc (16 * (i + 1) - 1) (by omega)
    have c2 := hc (16 * (i + 1) - 2) (by omega)
    rw [e1] at c1
    rw [e2] at c2
    exact ⟨rahead_at w b o _ c 1 _ (by decide) (by omega) hN c1, rahead_at w b o _ c 2 _ (by decide) (by omega) hN c2⟩
/-- What a row owns, as what is put behind another. -/
theorem own_news {w : World} {B n : Nat} {v : Value} {xs : List Value} (h : w.ownsRow B 23 1 v n xs) (hn : 0 < n) : ∃ gs cap, v = .slice (some ⟨gs, 0, none⟩) n cap ∧ xs.length = n ∧ ∀ j u, xs[j]? = some u → w.cell? ((⟨gs, 0, none⟩ : Addr).add j) = some u := by
  have hl : xs.length = n := h.1.trans (Nat.mul_one n)
  rcases h.2 with ⟨_, h0⟩ | ⟨g, cap, cur, rfl, hb, hg, hx⟩
  · exact absurd h0 (by omega)
  · refine ⟨_, _, rfl, hl, fun j u hu => ?_⟩
    have hj : j < n := by
      rcases Nat.lt_or_ge j n with h' | h'
      · exact h'
      · rw [List.getElem?_eq_none (by omega)] at hu
        cases hu
    rw [Addr.add_lit, Nat.zero_add, h.cellAt j (by omega)]
    exact hu
theorem outL_one (g : Nat → Nat) (p q : Int) (k : Nat) : ∀ u ∈ outL g p q k, u.oneCell' = true := by
  intro u hu
  unfold outL at hu
  rw [List.mem_map] at hu
  obtain ⟨i, _, rfl⟩ := hu
  rfl
end Go.Proofs.Ytekjcgckniopdaa
