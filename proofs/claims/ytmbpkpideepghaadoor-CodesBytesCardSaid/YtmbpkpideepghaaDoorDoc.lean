/-
  The document's rows, signs, widths and uses, for whatever argument.
-/
import Derived.Test.YtmbpkpideepghaaDoorRow
namespace Go.Proofs.YtmbpkpideepghaaDoor
open Go.RowKit
set_option maxRecDepth 1000000
set_option maxHeartbeats 400000
set_option linter.unusedVariables false

theorem row_any (k : Nat) (hk : k < 16) (w : World) : Calls Tryd.prog 31 #[.int .i64 k] w fun e w' => e = .returned (.string (bytesN (rowN k))) ∧ w = w' := by
  match k, hk with
  | 0, _ => exact row_0 w
  | 1, _ => exact row_1 w
  | 2, _ => exact row_2 w
  | 3, _ => exact row_3 w
  | 4, _ => exact row_4 w
  | 5, _ => exact row_5 w
  | 6, _ => exact row_6 w
  | 7, _ => exact row_7 w
  | 8, _ => exact row_8 w
  | 9, _ => exact row_9 w
  | 10, _ => exact row_10 w
  | 11, _ => exact row_11 w
  | 12, _ => exact row_12 w
  | 13, _ => exact row_13 w
  | 14, _ => exact row_14 w
  | 15, _ => exact row_15 w
  | k + 16, h => exact absurd h (by omega)
def signF (m : Nat) : ByteArray := partF (bytesN signN) m 124
attribute [local irreducible] partF inF bytesN
theorem sign_any (m : Nat) (w : World) (hm : m < 256) : Calls Tryd.prog 32 #[.int .u8 m] w fun e w' => e = .returned (.string (signF m)) ∧ w = w' := by
  have HP := part_any (bytesN signN) m 124 w (by decide +kernel) (by omega) (by decide)
  rw [show partF (bytesN signN) m 124 = signF m from rfl, show ((124 : Nat) : Int) = 124 from rfl] at HP
  generalize hT : bytesN signN = T at HP
  generalize signF m = q at *
  replace HP := Lib.hid HP
  go_enter Tryd.func32, Tryd.ntmps32
  go_upto_region 1 with (fail)
  show Code.wp _ (Code.region _ #[_, _, { dst := _, op := Op.call { callee := _, args := #[Operand.const (Value.string ?b), _, _], argTypes := _ }, type := _, pos := _, after := _, guard := _ }, _] _) _ _ _
  generalize hb : ?b = S
  have hl : S = T := by rw [← hT]; exact text_of (by rw [← hb]; decide +kernel)
  clear hb
  subst hl
  replace hT := Lib.hid hT
  go_wp2_with fail
  with_reducible refine HP.out.mono ?_
  rintro e w' ⟨rfl, rfl⟩
  clear HP
  go_wp2_with fail
  go_ret
  exact ⟨rfl, rfl⟩
def docWidthF (l : List UInt8) : Nat := if inF l (bytesN allM) = true then 1 else if inF l (bytesN allX) = true then 2 else if (l == [82, 69, 80]) = true then 3 else if (l == [83, 69, 80]) = true then 3 else 0
theorem rwidth_any (s : ByteArray) (w : World) : Calls Tryd.prog 33 #[.string s] w fun e w' => e = .returned (.int .u8 (docWidthF s.toList : Nat)) ∧ w = w' := by
  have H1 := in_any s (bytesN allM) w (by decide +kernel)
  have H2 := in_any s (bytesN allX) w (by decide +kernel)
  generalize hr : docWidthF s.toList = r
  unfold docWidthF at hr
  generalize hT1 : bytesN allM = T1 at *
  generalize hT2 : bytesN allX = T2 at *
  generalize inF s.toList T1 = b1 at *
  generalize inF s.toList T2 = b2 at *
  replace H1 := Lib.hid H1
  replace H2 := Lib.hid H2
  replace hr := Lib.hid hr
  go_enter Tryd.func33, Tryd.ntmps33
  go_upto_region 1 with (fail)
  show Code.wp _ (Code.region _ #[_, { dst := _, op := Op.call { callee := _, args := #[_, Operand.const (Value.string ?b)], argTypes := _ }, type := _, pos := _, after := _, guard := _ }] _) _ _ _
  generalize hb : ?b = S
  have hl : S = T1 := by rw [← hT1]; exact text_of (by rw [← hb]; decide +kernel)
  clear hb
  subst hl
  replace hT1 := Lib.hid hT1
  go_wp2_with fail
  with_reducible refine H1.out.mono ?_
  rintro e w' ⟨rfl, rfl⟩
  cases b1 with
  | true =>
    have hr := hr.out
    rw [if_pos rfl] at hr
    subst hr
    go_wp2_with fail
    go_ret
    exact ⟨rfl, rfl⟩
  | false =>
  go_upto_region 3 with (fail)
  show Code.wp _ (Code.region _ #[_, { dst := _, op := Op.call { callee := _, args := #[_, Operand.const (Value.string ?b2)], argTypes := _ }, type := _, pos := _, after := _, guard := _ }] _) _ _ _
  generalize hb : ?b2 = S2
  have hl : S2 = T2 := by rw [← hT2]; exact text_of (by rw [← hb]; decide +kernel)
  clear hb
  subst hl
  replace hT2 := Lib.hid hT2
  go_wp2_with fail
  with_reducible refine H2.out.mono ?_
  rintro e w' ⟨rfl, rfl⟩
  cases b2 with
  | true =>
    have hr := hr.out
    rw [if_neg (by decide), if_pos rfl] at hr
    subst hr
    go_wp2_with fail
    go_ret
    exact ⟨rfl, rfl⟩
  | false =>
  have hr := hr.out
  rw [if_neg (by decide), if_neg (by decide)] at hr
  cases h3 : s.toList == [82, 69, 80] with
  | true =>
    rw [if_pos h3] at hr
    subst hr
    go_wp2_with fail
    go_ret
    exact ⟨rfl, rfl⟩
  | false =>
  rw [if_neg (by rw [h3]; decide)] at hr
  cases h4 : s.toList == [83, 69, 80] with
  | true =>
    rw [if_pos h4] at hr
    subst hr
    go_wp2_with fail
    go_ret
    exact ⟨rfl, rfl⟩
  | false =>
    rw [if_neg (by rw [h4]; decide)] at hr
    subst hr
    go_wp2_with fail
    go_ret
    exact ⟨rfl, rfl⟩
end Go.Proofs.YtmbpkpideepghaaDoor
