/-
  No cell of these rows narrows 'for every input' (looked for: loops, veiled, ifaces, maps, wideKeys, modest, calm, conditions, laid).
  DERIVED. THE GIVEN ROWS OF THIS SEAT. 3 by the template 'for every input the law returns true; each argument reads behind the call as it read before'; 0 by the template 'total and deterministic' (their statements: YtggjaoihfhianaaTotals.lean).
  GIVEN WITH THE SEED: the statements are not yours to turn. If you find one false, say at which input.
  Laid BY PROGRAM, IN A SANDBOX (cutbox-rows.mjs): the forced cells as the released guide's own fill.sh prints them over the translation d71954ea3982ada6… (all of the seat's roots in one cut). By AI agents, Wed Nov 11 2026. No macro, syntax, notation, axiom, sorry.
-/
import Derived.Test.YtggjaoihfhianaaChecked
import GoSem.Claim
import GoSem.ClaimJoined
import GoSem.ClaimMapViews
import Derived.JoinedTies
import Derived.KernelRfl
namespace Go.Proofs.Ytggjaoihfhianaa
/- THE CELL 'sum', in the pinned program and in every row, IS THE sha256 OF THE DUMP (.gsa) THAT YtggjaoihfhianaaProg.lean LOADS. Nothing in Lean hashes anything: it is a label: what it is worth is what the hold of that sum in a sandbox is worth. -/
noncomputable def Try.pinned : Pinned := { name := "ytggjaoihfhianaa", sum := "d71954ea3982ada6080df326c31b4b67485bb134b9acf30e2faf130964503cf3", checked := Try.checked }
namespace Rows
def none {H : Type} : Left H := { results := [], args := [] }

/-- 'lanthornlaw03.CartMakes': WHATEVER THE INPUT: true; the input reads as it did. -/
def cartMakesSpec : ChangeSpec := { name := "cartMakes", fn := fun _ => fun
  | [d1, d2] => { results := [.lit (.bool true)], args := [d1, d2] }
  | _ => none }
def cartMakesRow : OpenClaim := { program := "ytggjaoihfhianaa", sum := "d71954ea3982ada6080df326c31b4b67485bb134b9acf30e2faf130964503cf3", func := "lanthorn/lanthornlaw03.CartMakes", spec := "cartMakes", inPlace := ["internal/abi.NoEscape", "internal/bytealg.MakeNoZero"], unfollowed := true, recurses := true, apart := false }
def CartMakesSaid : Prop := cartMakesRow.holds Try.pinned (OpenSpec.ofChange cartMakesSpec)

/-- ITS FALSE NEIGHBOUR: 'it returns false'. Refute it at one input. -/
def cartMakesWrong : ChangeSpec := { name := "cartMakes", fn := fun _ => fun
  | [d1, d2] => { results := [.lit (.bool false)], args := [d1, d2] }
  | _ => none }
def CartMakesWrongFalsely : Prop := cartMakesRow.holds Try.pinned (OpenSpec.ofChange cartMakesWrong)

/-- 'lanthornlaw03.CartPlaces': WHATEVER THE INPUT: true; the input reads as it did. -/
def cartPlacesSpec : ChangeSpec := { name := "cartPlaces", fn := fun _ => fun
  | [d1, d2] => { results := [.lit (.bool true)], args := [d1, d2] }
  | _ => none }
def cartPlacesRow : OpenClaim := { program := "ytggjaoihfhianaa", sum := "d71954ea3982ada6080df326c31b4b67485bb134b9acf30e2faf130964503cf3", func := "lanthorn/lanthornlaw03.CartPlaces", spec := "cartPlaces", recurses := true, apart := false }
def CartPlacesSaid : Prop := cartPlacesRow.holds Try.pinned (OpenSpec.ofChange cartPlacesSpec)

/-- ITS FALSE NEIGHBOUR: 'it returns false'. Refute it at one input. -/
def cartPlacesWrong : ChangeSpec := { name := "cartPlaces", fn := fun _ => fun
  | [d1, d2] => { results := [.lit (.bool false)], args := [d1, d2] }
  | _ => none }
def CartPlacesWrongFalsely : Prop := cartPlacesRow.holds Try.pinned (OpenSpec.ofChange cartPlacesWrong)

/-- 'lanthornlaw03.CartWithin': WHATEVER THE INPUT: true; the input reads as it did. -/
def cartWithinSpec : ChangeSpec := { name := "cartWithin", fn := fun _ => fun
  | [d1, d2, d3] => { results := [.lit (.bool true)], args := [d1, d2, d3] }
  | _ => none }
def cartWithinRow : OpenClaim := { program := "ytggjaoihfhianaa", sum := "d71954ea3982ada6080df326c31b4b67485bb134b9acf30e2faf130964503cf3", func := "lanthorn/lanthornlaw03.CartWithin", spec := "cartWithin", apart := false }
def CartWithinSaid : Prop := cartWithinRow.holds Try.pinned (OpenSpec.ofChange cartWithinSpec)

/-- ITS FALSE NEIGHBOUR: 'it returns false'. Refute it at one input. -/
def cartWithinWrong : ChangeSpec := { name := "cartWithin", fn := fun _ => fun
  | [d1, d2, d3] => { results := [.lit (.bool false)], args := [d1, d2, d3] }
  | _ => none }
def CartWithinWrongFalsely : Prop := cartWithinRow.holds Try.pinned (OpenSpec.ofChange cartWithinWrong)

/- THE SECOND FORM. 'bulk': how many values and letters a reading holds, each counted each time it is reached (what is shared counts as often as it is met; a slice's spare places count too). A statement '..UptoSaid' is the law's where the arguments, and the package variables that the reading takes, are together of bulk at most 1048576: NARROWER than '..Said'. Prove '..Said' where nothing that the law and all that it calls make is longer than what came in: it says more and counts as full. Else prove '..UptoSaid'. A law counts once. -/
mutual
def uptoBulk {H : Type} : DataW H → Nat
  | .lit (.string bytes) => bytes.length + 1
  | .lit _ => 1
  | .nil => 1
  | .ptr d => uptoBulk d + 1
  | .slice elems spare => uptoBulkAll elems + uptoBulkAll spare + 1
  | .agg parts => uptoBulkAll parts + 1
  | .iface _ d => uptoBulk d + 1
  | .map entries => uptoBulkEntries entries + 1
  | .held _ => 1
def uptoBulkAll {H : Type} : List (DataW H) → Nat
  | [] => 0
  | d :: r => uptoBulk d + uptoBulkAll r
def uptoBulkEntries {H : Type} : List (Lit × DataW H) → Nat
  | [] => 0
  | x :: r => uptoBulkEntry x + uptoBulkEntries r
def uptoBulkEntry {H : Type} : Lit × DataW H → Nat
  | (.string bytes, d) => bytes.length + uptoBulk d + 1
  | (_, d) => uptoBulk d + 1
 end
def uptoSmall : (H : Type) → List (DataW H) → Bool := fun _ ds => decide (uptoBulkAll ds ≤ 1048576)
def OpenSpec.upto (s : _root_.Go.ChangeSpec) : _root_.Go.OpenSpec := { _root_.Go.OpenSpec.ofChange s with cond := some uptoSmall }

/-- 'lanthornlaw03.CartMakes', WHERE WHAT IT READS IS OF BULK AT MOST 1048576: true; the input reads as it did. -/
def cartMakesUptoRow : OpenClaim := { program := "ytggjaoihfhianaa", sum := "d71954ea3982ada6080df326c31b4b67485bb134b9acf30e2faf130964503cf3", func := "lanthorn/lanthornlaw03.CartMakes", spec := "cartMakes", inPlace := ["internal/abi.NoEscape", "internal/bytealg.MakeNoZero"], unfollowed := true, recurses := true, apart := false, narrowed := true }
def CartMakesUptoSaid : Prop := cartMakesUptoRow.holds Try.pinned (OpenSpec.upto cartMakesSpec)

/-- 'lanthornlaw03.CartPlaces', WHERE WHAT IT READS IS OF BULK AT MOST 1048576: true; the input reads as it did. -/
def cartPlacesUptoRow : OpenClaim := { program := "ytggjaoihfhianaa", sum := "d71954ea3982ada6080df326c31b4b67485bb134b9acf30e2faf130964503cf3", func := "lanthorn/lanthornlaw03.CartPlaces", spec := "cartPlaces", recurses := true, apart := false, narrowed := true }
def CartPlacesUptoSaid : Prop := cartPlacesUptoRow.holds Try.pinned (OpenSpec.upto cartPlacesSpec)

/-- 'lanthornlaw03.CartWithin', WHERE WHAT IT READS IS OF BULK AT MOST 1048576: true; the input reads as it did. -/
def cartWithinUptoRow : OpenClaim := { program := "ytggjaoihfhianaa", sum := "d71954ea3982ada6080df326c31b4b67485bb134b9acf30e2faf130964503cf3", func := "lanthorn/lanthornlaw03.CartWithin", spec := "cartWithin", apart := false, narrowed := true }
def CartWithinUptoSaid : Prop := cartWithinUptoRow.holds Try.pinned (OpenSpec.upto cartWithinSpec)

end Rows
end Go.Proofs.Ytggjaoihfhianaa
