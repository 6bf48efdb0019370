/-
  PlayerParts' walk, as the proof takes it.
-/
import Derived.Test.YtknlbmjncginnaaGreatDoorPOs
namespace Go.Proofs.YtknlbmjncginnaaGreatDoor.playerParts
open Go.RowKit Go.Shelf Go.Proofs.YtknlbmjncginnaaGreatDoor
theorem walk (r : Rp) (hr : r.Ok) (a : Option Addr) (n c y : Nat) (g : Nat → Nat) (w0 : World) (hR : Row w0 a n g) (hn : n ≤ 140737488355328) (hnc : n ≤ c) (hy : y < 256) (ai : Option Addr) (len ci : Nat) (zs : List Int) (hI : Seen .i64 8 w0 ai len zs) :
    Calls Tryz.prog 10 #[songV r a n c y, .slice ai len ci] w0 fun e w' => e = .returned (.bool true) ∧ Below w0.heap.size w0 w' :=
  parts_walk w0 r hr a n c y g hR hn hnc hy hr.Pc ai len ci zs hI
end Go.Proofs.YtknlbmjncginnaaGreatDoor.playerParts
