/-
  What stands at an address, by the document.
-/
import Derived.Test.YthhahhmdpjchkaaDecH
namespace Go.Proofs.Ythhahhmdpjchkaa
open Go.RowKit Go.Shelf
set_option maxRecDepth 100000
set_option maxHeartbeats 1000000

theorem fin12 {s : Nat × Nat} {tmps : Array Value} {w W : World} {G : Nat} {K A : Int} {cs : Array Value} (hp : tmps.getD 8 undef = .pointer (some ⟨G, 0, none⟩)) (hW : Whole W G 33 cs) (hB : Below w.heap.size w W)
    (hc : cs = #[.int .u8 K, .int .i64 A]) (hK : K = (s.1 : Nat)) (hA : A = (s.2 : Nat)) :
    bodyPost Try.prog Try.f12 (fun e w' => e = .returned (spotV s) ∧ Below w.heap.size w w') Exit.ret { tmps := tmps, defers := [] } W := by
  subst hc hK hA
  exact bodyPost_ret (results_cell_row (fn := Try.f12) (p := 8) (ty := 33) rfl _ _ _ _ _ (0, 0) _ hp hW Try.underlying33 rfl (by kernel_rfl)) rfl ⟨rfl, hB⟩
theorem mod_eq {s : Nat × Nat} {k Y m : Nat} {X : Int} (e : s = (k, Y % m)) (h : X = (Y : Int)) : X % (m : Int) = ((s.2 : Nat) : Int) := by
  subst e
  rw [h]
  rfl
theorem refN (t s : Nat) (x : Int) (w : World) (hx : x = (t : Int)) (ht : t < 2 ^ 63) (h0 : 1 ≤ s) (h1 : s < 2 ^ 63) :
    Calls Try.prog 25 #[.int .i64 x, .int .i64 s] w fun e w' => e = .returned (.int .i64 (lead t s : Nat)) ∧ w' = w := by
  subst hx
  exact ref_any s t w ht h0 h1
end Go.Proofs.Ythhahhmdpjchkaa
