/-
  The layout whose card fits best.
-/
import Derived.Test.YtggjaoihfhianaaDoorRScore
import Derived.RegionTactic
import Derived.WalkMore
import Derived.Scope
namespace Go.Proofs.YtggjaoihfhianaaDoor
open Go.RowKit Go.Shelf
set_option maxRecDepth 100000
set_option maxHeartbeats 4000000

/-- The score of the card at a layout's place. -/
def scN (f : Nat → Nat) (l : Nat) : Int :=
  let g := at' f (posOf l)
  scoreV (titleS g) (g 21) (g 28 + g 29 * 256) (g 30 + g 31 * 256) (g 60 + g 61 * 256) l
def best2 (n : Nat) (f : Nat → Nat) : Nat := if posOf 2 + 64 ≤ n ∧ scN f 1 < scN f 2 then 2 else 1
/-- The layout. -/
def bestN (n : Nat) (f : Nat → Nat) : Nat := if posOf 3 + 64 ≤ n ∧ scN f (best2 n f) < scN f 3 then 3 else best2 n f
theorem card_parts (f : Nat → Nat) (l : Nat) (h : ∀ i, i < 64 → at' f (posOf l) i < 256) : ∃ (t : ByteArray) (m k r c s z : Nat), cardV (at' f (posOf l)) = cardA t m k r c s z ∧ scN f l = scoreV t m c s z l ∧ t.size ≤ 9223372036854775807 ∧ m < 256 ∧ c < 65536 ∧ s < 65536 := by
  refine ⟨_, _, _, _, _, _, _, rfl, rfl, ?_, h 21 (by decide), ?_, ?_⟩
  · unfold titleS
    have : ∀ g n, (strN g n).size = n := fun g n => by simp [strN, strOfNums, ByteArray.size]
    rw [this]
    have := trimN_le (at' f (posOf l)) 21
    omega
  · have h1 := h 28 (by decide)
    have h2 := h 29 (by decide)
    omega
  · have h1 := h 30 (by decide)
    have h2 := h 31 (by decide)
    omega
theorem scoreB_low (a b c d : Bool) : -4 ≤ scoreB a b c d := by cases a <;> cases b <;> cases c <;> cases d <;> decide
theorem scoreV_low (t : ByteArray) (m c s z l : Nat) : -4 ≤ scoreV t m c s z l := by
  unfold scoreV
  split
  · decide
  · exact scoreB_low _ _ _ _
theorem scoreB_high (a b c d : Bool) : scoreB a b c d ≤ 9 := by cases a <;> cases b <;> cases c <;> cases d <;> decide
theorem scoreV_high (t : ByteArray) (m c s z l : Nat) : scoreV t m c s z l ≤ 9 := by
  unfold scoreV
  split
  · decide
  · exact scoreB_high _ _ _ _

theorem results_pair2 {P : Program} {fn : Func} {p u : Tmp} {ty : TypeId} (h : fn.results = #[.tmp u, .cell p ty]) (tmps : Array Value) (w : World) (g : Nat) (t : TypeId) (cs : Array Value) (d : TypeDesc)
    (hp : tmps.getD p undef = .pointer (some ⟨g, 0, none⟩)) (hg : Whole w g t cs) (hu : P.underlying ty = some d) (hd : (match d with | .struct _ | .array _ _ => true | _ => false) = true) (hi : (P.info? ty).map (·.size) = some cs.size) :
    (results fn tmps).run P w = .ok (.tuple #[tmps.getD u undef, .agg cs]) w := by
  have hp' : tmps[p]?.getD undef = .pointer (some ⟨g, 0, none⟩) := by simpa using hp
  simp [results, h, hp', asAddr, Result.andThen, run_loadVar_row w g t ty cs (0, 0) d hg hu hd hi]
end Go.Proofs.YtggjaoihfhianaaDoor
