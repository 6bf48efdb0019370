/-
  Read, by the document: what it answers.
-/
import Derived.Test.YtggjaoihfhianaaDoorReadV
import Derived.Lib.QuietBelow
namespace Go.Proofs.YtggjaoihfhianaaDoor
open Go.RowKit Go.Shelf Go.Sort
set_option maxRecDepth 100000
set_option maxHeartbeats 40000000

def tailE (kd rs sl : Nat) : Int := if chipN kd = 255 then 32 else if 9 < rs then 33 else if chipN kd = 1 ∧ sl ≠ 8192 then 34 else 0
def tailV (L kd rs sl : Nat) (tt : ByteArray) (z md : Nat) (R S : Value) : Value :=
  if tailE kd rs sl = 0 then cartA L (chipN kd) R (ramN rs) tt z (fastB md) (if chipN kd = 1 then S else .slice none 0 0) else zeroCart
def pick (c : Prop) [Decidable c] (a b : Value) : Value := if c then a else b
theorem fast_eq (md : Nat) : ((md : Int) / 16 % 2 == 1) = fastB md := by
  unfold fastB
  rw [Bool.eq_iff_iff, beq_iff_eq, decide_eq_true_eq]
  omega
theorem ram_of_pow (rs : Nat) (h : rs ≤ 9) (h0 : 0 < rs) : ramN rs = ((1024 * 2 ^ rs : Nat) : Int) := by
  unfold ramN
  rw [if_neg (by omega), if_neg (by omega), Int.natCast_mul, Int.natCast_pow]
  rfl
end Go.Proofs.YtggjaoihfhianaaDoor
