/-
  The document's Does: whatever the call is.
-/
import Derived.Test.YtacnmnodbmbplaaRDoesB
import Derived.Test.YtacnmnodbmbplaaNilPut
namespace Go.Proofs.Ytacnmnodbmbplaa
open Go.RowKit Go.Shelf
set_option maxRecDepth 100000
set_option maxHeartbeats 1000000
theorem St.when_ok {s t : St} (h : s.e = 0) : s.when t = t := if_pos h
theorem St.when_no {s t : St} (h : s.e ≠ 0) : s.when t = s := if_neg h
theorem rdoes_any {a ao : Option Addr} {c co : Nat} {s : St} (what n : Int) (pa : Option Addr) (len cap : Nat) (f : Nat → Nat) (w : World) (h : RW w a c ao co s) (hR : Row w pa len f) (hl : len ≤ 140737488355328) :
    Calls Try.prog 10 #[rwV a c ao co s, putV what n pa len cap] w fun e w' => ∃ a' c' ao' co', e = .returned (rwV a' c' ao' co' (s.when (s.step what n len f))) ∧ RW w' a' c' ao' co' (s.when (s.step what n len f)) ∧ Below w.heap.size w w' ∧ NewRow w.heap.size w' a a' ∧ NewRow w.heap.size w' ao ao' := by
  by_cases he : s.e = 0
  · rw [St.when_ok he]
    rcases what_ways what with rfl | rfl | rfl | rfl | rfl | rfl | rfl | ⟨t0, t1, t2, t3, t4, t5, t6⟩
    · exact (rdoes_0 n pa len cap w h he).mono fun e w' ⟨a', c', h1, h2, h3, h4⟩ => ⟨a', c', ao, co, h1, h2, h3, h4, .inl rfl⟩
    · exact (rdoes_1 n pa len cap w h he).mono fun e w' ⟨a', c', h1, h2, h3, h4⟩ => ⟨a', c', ao, co, h1, h2, h3, h4, .inl rfl⟩
    · exact (rdoes_2 n pa len cap w h he).mono fun e w' ⟨a', c', h1, h2, h3, h4⟩ => ⟨a', c', ao, co, h1, h2, h3, h4, .inl rfl⟩
    · exact (rdoes_3 n pa len cap w h he).mono fun e w' ⟨a', c', h1, h2, h3, h4⟩ => ⟨a', c', ao, co, h1, h2, h3, h4, .inl rfl⟩
    · exact (rdoes_4 n pa len cap w h he).mono fun e w' ⟨a', c', h1, h2, h3, h4⟩ => ⟨a', c', ao, co, h1, h2, h3, h4, .inl rfl⟩
    · exact (rdoes_5 n pa len cap f w h he hR hl).mono fun e w' ⟨a', c', h1, h2, h3, h4⟩ => ⟨a', c', ao, co, h1, h2, h3, h4, .inl rfl⟩
    · exact rdoes_6 n pa len cap w h he
    · have hs : s.step what n len f = s.closeW := by
        have g : ∀ k : Int, (what == k) = false → ¬ what = k := fun k e h => by rw [h] at e; simp at e
        unfold St.step
        rw [if_neg (g 0 t0), if_neg (g 1 t1), if_neg (g 2 t2), if_neg (g 3 t3), if_neg (g 4 t4), if_neg (g 5 t5), if_neg (g 6 t6)]
      rw [hs]
      exact rdoes_7 what n pa len cap w h he t0 t1 t2 t3 t4 t5 t6
  · rw [St.when_no he]
    exact (rdoes_wrong what n pa len cap w he).mono fun e w' ⟨h1, h2⟩ => ⟨a, c, ao, co, h1, h.below h2, h2, .inl rfl, .inl rfl⟩
end Go.Proofs.Ytacnmnodbmbplaa
