/-
  Read, by the document: of all bytes.
-/
import Derived.Test.YtggjaoihfhianaaDoorRRead
import Derived.Test.YtggjaoihfhianaaDoorRReadO
namespace Go.Proofs.YtggjaoihfhianaaDoor
open Go.RowKit Go.Shelf Go.Sort
set_option maxRecDepth 100000
set_option maxHeartbeats 40000000
/-- Of all bytes. -/
theorem rreadAll_any (b o n c sl sc : Nat) (sa : Option Addr) (f : Nat → Nat) (w : World) (hc : n ≤ c) (hr : Row w (some ⟨b, o, none⟩) n f) :
    Calls Tryd.prog 8 #[.slice (some ⟨b, o, none⟩) n c, .slice sa sl sc] w fun e w' => ∃ bR oR, (∃ cR, e = .returned (.tuple #[pick (readE (n - headN n) (at2 f (headN n)) sl = 0) (readV (n - headN n) (at2 f (headN n)) (.slice (some ⟨bR, oR, none⟩) (n - headN n) cR) (pick (chipN (gotG (n - headN n) (at2 f (headN n)) 22) = 1) (.slice sa sl sc) (.slice none 0 0))) zeroCart, .int .i64 (readE (n - headN n) (at2 f (headN n)) sl)])) ∧ Below w.heap.size w w' ∧
      ∀ W, Below w.heap.size w W → Row W (some ⟨bR, oR, none⟩) (n - headN n) (at2 f (headN n)) := by
  by_cases h0 : 32768 ≤ n - headN n
  · by_cases h1 : n - headN n ≤ 8388608
    · exact rread_any b o n c sl sc sa f w hc hr h0 h1
    · exact rreadOut_any b o n c sl sc sa f w hc hr (.inr (by omega))
  · exact rreadOut_any b o n c sl sc sa f w hc hr (.inl (by omega))
end Go.Proofs.YtggjaoihfhianaaDoor
