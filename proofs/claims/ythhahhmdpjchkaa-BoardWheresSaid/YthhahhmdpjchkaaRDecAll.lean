/-
  What stands at an address, by the document, at any layout.
-/
import Derived.Test.YthhahhmdpjchkaaRDecLo
import Derived.Test.YthhahhmdpjchkaaRDecHi
namespace Go.Proofs.Ythhahhmdpjchkaa
open Go.RowKit Go.Shelf

theorem rdec_any (l n m a : Nat) (w : World) (hl : 1 ≤ l ∧ l ≤ 3) (hn : 1 ≤ n) (hn2 : n ≤ 8388608) (ha : a < 4294967296) :
    Calls Try.prog 12 #[.int .u8 l, .int .i64 n, .int .i64 m, .int .u32 a] w fun e w' => e = .returned (spotV (spot l n m a)) ∧ Below w.heap.size w w' := by
  by_cases h1 : l = 1
  · subst h1
    exact rdec_lo n m a w hn hn2 ha
  · exact rdec_hi l n m a w (by omega) hn hn2 ha
end Go.Proofs.Ythhahhmdpjchkaa
