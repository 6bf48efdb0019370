/-
  The document's uses; what is wide.
-/
import Derived.Test.YtmbpkpideepghaaDoorDoc
namespace Go.Proofs.YtmbpkpideepghaaDoor
open Go.RowKit
set_option maxRecDepth 1000000
set_option maxHeartbeats 400000
set_option linter.unusedVariables false

attribute [local irreducible] partF inF bytesN
def docUseF (l : List UInt8) (m wd : Nat) : Nat := if m ≤ 2 ∨ wd = 0 then 0 else if inF l (bytesN allW) = true then 2 else if inF l (bytesN allC) = true then 3 else 1
theorem ruse_any (s : ByteArray) (m wd : Nat) (w : World) : Calls Tryd.prog 34 #[.string s, .int .u8 m, .int .u8 wd] w fun e w' => e = .returned (.int .u8 (docUseF s.toList m wd : Nat)) ∧ w = w' := by
  have H1 := in_any s (bytesN allW) w (by decide +kernel)
  have H2 := in_any s (bytesN allC) w (by decide +kernel)
  generalize hr : docUseF s.toList m wd = r
  unfold docUseF at hr
  generalize hT1 : bytesN allW = T1 at *
  generalize hT2 : bytesN allC = T2 at *
  generalize inF s.toList T1 = b1 at *
  generalize inF s.toList T2 = b2 at *
  replace H1 := Lib.hid H1
  replace H2 := Lib.hid H2
  by_cases hm : m ≤ 2
  · rw [if_pos (.inl hm)] at hr
    subst hr
    replace hT1 := Lib.hid hT1
    replace hT2 := Lib.hid hT2
    go_enter Tryd.func34, Tryd.ntmps34
    go_wp2_with fail
    go_ret
    exact ⟨rfl, rfl⟩
  by_cases hw : wd = 0
  · rw [if_pos (.inr hw)] at hr
    subst hr hw
    replace hT1 := Lib.hid hT1
    replace hT2 := Lib.hid hT2
    go_enter Tryd.func34, Tryd.ntmps34
    go_wp2_with fail
    go_ret
    exact ⟨rfl, rfl⟩
  rw [if_neg (fun h => h.elim hm hw)] at hr
  have hw0 : ((wd : Int) == 0) = false := by rw [beq_eq_false_iff_ne]; omega
  replace hr := Lib.hid hr
  clear hw
  go_enter Tryd.func34, Tryd.ntmps34
  go_upto_region 3 with (fail)
  show Code.wp _ (Code.region _ #[_, { dst := _, op := Op.call { callee := _, args := #[_, Operand.const (Value.string ?b)], argTypes := _ }, type := _, pos := _, after := _, guard := _ }] _) _ _ _
  generalize hb : ?b = S
  have hl : S = T1 := by rw [← hT1]; exact text_of (by rw [← hb]; decide +kernel)
  clear hb
  subst hl
  replace hT1 := Lib.hid hT1
  go_wp2_with fail
  with_reducible refine H1.out.mono ?_
  rintro e w' ⟨rfl, rfl⟩
  cases b1 with
  | true =>
    have hr := hr.out
    rw [if_pos rfl] at hr
    subst hr
    go_wp2_with fail
    go_ret
    exact ⟨rfl, rfl⟩
  | false =>
  go_upto_region 5 with (fail)
  show Code.wp _ (Code.region _ #[_, { dst := _, op := Op.call { callee := _, args := #[_, Operand.const (Value.string ?b2)], argTypes := _ }, type := _, pos := _, after := _, guard := _ }] _) _ _ _
  generalize hb : ?b2 = S2
  have hl : S2 = T2 := by rw [← hT2]; exact text_of (by rw [← hb]; decide +kernel)
  clear hb
  subst hl
  replace hT2 := Lib.hid hT2
  go_wp2_with fail
  with_reducible refine H2.out.mono ?_
  rintro e w' ⟨rfl, rfl⟩
  have hr := hr.out
  rw [if_neg (by decide)] at hr
  cases b2 with
  | true =>
    rw [if_pos rfl] at hr
    subst hr
    go_wp2_with fail
    go_ret
    exact ⟨rfl, rfl⟩
  | false =>
    rw [if_neg (by decide)] at hr
    subst hr
    go_wp2_with fail
    go_ret
    exact ⟨rfl, rfl⟩
def wideF (wd p : Nat) : Bool := if wd = 1 then p / 32 % 2 == 0 else if wd = 2 then p / 16 % 2 == 0 else false
theorem bits_32 (p : Nat) (hp : p < 256) : (bits BinOp.and IntKind.u8 (p : Int) 32 == 0) = (p / 32 % 2 == 0) := (show ∀ p : Nat, p < 256 → (bits BinOp.and IntKind.u8 (p : Int) 32 == 0) = (p / 32 % 2 == 0) by decide +kernel) p hp
theorem bits_16 (p : Nat) (hp : p < 256) : (bits BinOp.and IntKind.u8 (p : Int) 16 == 0) = (p / 16 % 2 == 0) := (show ∀ p : Nat, p < 256 → (bits BinOp.and IntKind.u8 (p : Int) 16 == 0) = (p / 16 % 2 == 0) by decide +kernel) p hp
theorem int_32 (p : Nat) : ((p : Int) / 32 % 2 == 0) = (p / 32 % 2 == 0) := by
  rw [Bool.eq_iff_iff, beq_iff_eq, beq_iff_eq]; omega
theorem int_16 (p : Nat) : ((p : Int) / 16 % 2 == 0) = (p / 16 % 2 == 0) := by
  rw [Bool.eq_iff_iff, beq_iff_eq, beq_iff_eq]; omega
theorem wide_any (wd p : Nat) (w : World) (hp : p < 256) : Calls Tryd.prog 14 #[.int .u8 wd, .int .u8 p] w fun e w' => e = .returned (.bool (wideF wd p)) ∧ w = w' := by
  generalize hr : wideF wd p = r
  unfold wideF at hr
  by_cases h1 : wd = 1
  · subst h1
    rw [if_pos rfl] at hr
    have b1 := (bits_32 p hp).trans hr
    have b2 := (int_32 p).trans hr
    clear hr
    cases r
    all_goals
      go_enter Tryd.func14, Tryd.ntmps14
      go_wp2_with fail
      go_ret
      exact ⟨rfl, rfl⟩
  rw [if_neg h1] at hr
  have n1 : ((wd : Int) == 1) = false := by rw [beq_eq_false_iff_ne]; omega
  by_cases h2 : wd = 2
  · subst h2
    rw [if_pos rfl] at hr
    have b1 := (bits_16 p hp).trans hr
    have b2 := (int_16 p).trans hr
    clear hr
    cases r
    all_goals
      go_enter Tryd.func14, Tryd.ntmps14
      go_wp2_with fail
      go_ret
      exact ⟨rfl, rfl⟩
  rw [if_neg h2] at hr
  have n2 : ((wd : Int) == 2) = false := by rw [beq_eq_false_iff_ne]; omega
  subst hr
  clear h1 h2
  go_enter Tryd.func14, Tryd.ntmps14
  go_wp2_with fail
  go_ret
  exact ⟨rfl, rfl⟩
theorem rwide_any (wd p : Nat) (w : World) (hp : p < 256) : Calls Tryd.prog 15 #[.int .u8 wd, .int .u8 p] w fun e w' => e = .returned (.bool (wideF wd p)) ∧ w = w' := by
  generalize hr : wideF wd p = r
  unfold wideF at hr
  by_cases h1 : wd = 1
  · subst h1
    rw [if_pos rfl] at hr
    have b1 := (bits_32 p hp).trans hr
    have b2 := (int_32 p).trans hr
    clear hr
    cases r
    all_goals
      go_enter Tryd.func15, Tryd.ntmps15
      go_wp2_with fail
      go_ret
      exact ⟨rfl, rfl⟩
  rw [if_neg h1] at hr
  have n1 : ((wd : Int) == 1) = false := by rw [beq_eq_false_iff_ne]; omega
  by_cases h2 : wd = 2
  · subst h2
    rw [if_pos rfl] at hr
    have b1 := (bits_16 p hp).trans hr
    have b2 := (int_16 p).trans hr
    clear hr
    cases r
    all_goals
      go_enter Tryd.func15, Tryd.ntmps15
      go_wp2_with fail
      go_ret
      exact ⟨rfl, rfl⟩
  rw [if_neg h2] at hr
  have n2 : ((wd : Int) == 2) = false := by rw [beq_eq_false_iff_ne]; omega
  subst hr
  clear h1 h2
  go_enter Tryd.func15, Tryd.ntmps15
  go_wp2_with fail
  go_ret
  exact ⟨rfl, rfl⟩
end Go.Proofs.YtmbpkpideepghaaDoor
