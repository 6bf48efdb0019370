/-
  A cartridge that comes in (its lists are not looked into).
-/
import Derived.Test.YtggjaoihfhianaaOpen
import Derived.ProofKit
import Derived.OpenShut
import Derived.SizedLaws
import Derived.Deep.Slices
import Derived.Deep.Fields
import Derived.ChangeSame
import Derived.Lib.SmallJoins
namespace Go.Proofs.Ytggjaoihfhianaa
open Go.RowKit Go.ChangeShapes Go.WideShapes Go.ChangeAt Go.Joins Go.Deep
set_option linter.unusedVariables false
set_option maxRecDepth 100000
theorem open_cart {H : Type} {enc : TypeId × Value → H} {w : World} {base : Nat} {spare : Nat → Bool} {held : Bool} {r : Reach} {b0 : Nat} {v : Value} {d : DataW H} {p : List MemPlace}
    (hv : Value.okWide Try.prog w r b0 28 v) (h : DataW.Trod enc Try.prog w base spare held 28 v d p) :
    ∃ (l c : Nat) (R S : Value) (ram : Int) (t : ByteArray) (z : Nat) (fast : Bool), v = .agg #[.int .u8 l, .int .u8 c, R, .int .i64 ram, .string t, .int .u16 z, .bool fast, S] ∧ l < 256 ∧ c < 256 ∧ t.size ≤ 9223372036854775807 ∧ z < 65536 := by
  obtain ⟨v0, v1, v2, v3, v4, v5, v6, v7, y0, y1, y2, y3, y4, y5, y6, y7, n, rfl, rfl, h0, h1, h2, h3, h4, h5, h6, h7⟩ := open_agg8 Try.underlying28 (by kernel_rfl) (by kernel_rfl) hv h
  obtain ⟨l, e0, -, w0⟩ := DataW.trod_int Try.underlying5 h0
  obtain ⟨c, e1, -, w1⟩ := DataW.trod_int Try.underlying5 h1
  obtain ⟨ram, e3, -, w3⟩ := DataW.trod_int Try.underlying3 h3
  obtain ⟨t, e4, -, w4⟩ := DataW.trod_string Try.underlying9 h4
  obtain ⟨z, e5, -, w5⟩ := DataW.trod_int Try.underlying26 h5
  obtain ⟨fast, e6, -⟩ := DataW.trod_bool Try.underlying4 h6
  obtain ⟨l, rfl, hl⟩ := nat8 w0
  obtain ⟨c, rfl, hc⟩ := nat8 w1
  obtain ⟨z, rfl, hz⟩ := nat16 w5
  injection e0 with e0
  injection e1 with e1
  injection e3 with e3
  injection e4 with e4
  injection e5 with e5
  injection e6 with e6
  subst e0 e1 e3 e4 e5 e6
  exact ⟨l, c, v2, v7, ram, t, z, fast, rfl, hl, hc, w4, hz⟩
end Go.Proofs.Ytggjaoihfhianaa
