/-
  A runner's methods that give up never: flags, places, the registers in pairs, sums; the program's next byte, the stack.
-/
import Derived.Test.YthecghmhohkcmaaGreatDoorTRd
namespace Go.Proofs.YthecghmhohkcmaaGreatDoor
open Go.RowKit Go.Shelf
set_option maxRecDepth 100000
set_option maxHeartbeats 1000000
set_option linter.unusedVariables false

def flagP (P f : Nat) (on : Bool) : Nat := if on then (P &&& (255 - f)) ||| f else P &&& (255 - f)
theorem and_lt256 (P q : Nat) (h : P < 256) : P &&& q < 256 := Nat.lt_of_le_of_lt Nat.and_le_left h
theorem or_lt256 (a b : Nat) (ha : a < 256) (hb : b < 256) : a ||| b < 256 := Nat.or_lt_two_pow (n := 8) ha hb
theorem flagP_lt (P f : Nat) (on : Bool) (h : P < 256) (hf : f < 256) : flagP P f on < 256 := by
  unfold flagP
  cases on
  · exact and_lt256 P _ h
  · exact or_lt256 _ _ (and_lt256 P _ h) hf
def hasP (P f : Nat) : Bool := !decide (P &&& f = 0)
/-- A method that only turns registers. -/
def Turns (K : Cx) (z : Zs) (s : Ts) (w : World) (r' : Rp) (v : Value) (e : Ending) (w' : World) : Prop := e = .returned v ∧ Tk K z { s with r := r' } w' ∧ Kp K w w'
section
variable {K : Cx} {z : Zs} {s : Ts} {w : World}
theorem flag_any (f : Nat) (F : Int) (hF : F = (f : Int)) (h : Tk K z s w) (hf : f < 256) :
    Calls Tryz.prog 117 #[.pointer (some ⟨K.b, 0, none⟩), .int .u8 F] w fun e w' => e = .returned (.bool (hasP s.r.P f)) ∧ w' = w := by
  subst hF
  have c4 := h.look.1.2.2.2.2
  have ha := u8_and_nat s.r.P f h.ok.P hf
  unfold hasP
  generalize s.r.P &&& f = q at *
  clear h hf
  by_cases hq : q = 0
  · subst hq
    go_enter Tryz.func117, Tryz.ntmps117
    go_wp2_with fail
    go_ret
    exact ⟨rfl, rfl⟩
  · have t1 : ((q : Int) != 0) = true := by rw [bne_iff_ne]; omega
    rw [decide_eq_false hq]
    replace hq := Lib.hid hq
    go_enter Tryz.func117, Tryz.ntmps117
    go_wp2_with fail
    go_ret
    exact ⟨rfl, rfl⟩
def putR (f : Nat) (on : Bool) (r : Rp) : Rp := { r with P := flagP r.P f on }
theorem put_any (f : Nat) (F : Int) (hF : F = (f : Int)) (on : Bool) (h : Tk K z s w) (hf : f < 256) :
    Calls Tryz.prog 115 #[.pointer (some ⟨K.b, 0, none⟩), .int .u8 F, .bool on] w (Turns K z s w (putR f on s.r) (.tuple #[])) := by
  subst hF
  obtain ⟨⟨_, _, _, _, c4⟩, _, hfz⟩ := h.look
  have f4 := hfz 4
  have hP := h.ok.P
  have e1 := u8_andNot_nat s.r.P f hP hf
  have hq := and_lt256 s.r.P (255 - f) hP
  have e2 := u8_or_nat (s.r.P &&& (255 - f)) f hq hf
  have hq2 := or_lt256 (s.r.P &&& (255 - f)) f hq hf
  unfold Turns putR flagP
  generalize s.r.P &&& (255 - f) = q at *
  have h1 := h.toP q hq
  have k1 := (Kp.refl K w).set 4 (.int .u8 (q : Nat))
  obtain ⟨⟨_, _, _, _, d4⟩, _, df⟩ := h1.look
  have g4 := df 4
  dsimp only at d4
  cases on with
  | false =>
    rw [if_neg (by decide)]
    have hfin := Lib.hid (And.intro h1 k1)
    clear hfz df h h1 k1 hP hq hf e2 hq2
    generalize s.r.P = P at *
    go_enter Tryz.func115, Tryz.ntmps115
    go_wp2_with fail
    go_end0
    exact ⟨rfl, hfin.out⟩
  | true =>
    rw [if_pos rfl]
    generalize q ||| f = y at *
    have h2 := h1.toP y hq2
    have hfin := Lib.hid (And.intro h2 (k1.set 4 (.int .u8 (y : Nat))))
    clear hfz df h h1 h2 k1 hP hq hf hq2
    generalize s.r.P = P at *
    go_enter Tryz.func115, Tryz.ntmps115
    go_wp2_with fail
    go_end0
    exact ⟨rfl, hfin.out⟩
/-- N and Z by a byte. -/
def tellR (v : Nat) (r : Rp) : Rp := putR 2 (decide (v = 0)) (putR 128 (hasP v 128) r)
theorem tell_any (v : Nat) (h : Tk K z s w) (hv : v < 256) :
    Calls Tryz.prog 113 #[.pointer (some ⟨K.b, 0, none⟩), .int .u8 (v : Nat)] w (Turns K z s w (tellR v s.r) (.tuple #[])) := by
  have H1 := Lib.hid (put_any 128 128 rfl (hasP v 128) h (by decide))
  have H2 := Lib.hid fun (W : World) (hW : Tk K z { s with r := putR 128 (hasP v 128) s.r } W) => put_any 2 2 rfl (decide (v = 0)) hW (by decide)
  have ha : bits .and .u8 (v : Int) 128 = ((v &&& 128 : Nat) : Int) := u8_and_nat v 128 hv (by decide)
  have t0 : ((v : Int) == 0) = decide (v = 0) := by by_cases e : v = 0 <;> simp [e]
  have t1 : (((v &&& 128 : Nat) : Int) != 0) = hasP v 128 := by unfold hasP; by_cases e : v &&& 128 = 0 <;> simp [e]
  unfold Turns tellR
  generalize decide (v = 0) = o2 at *
  generalize hasP v 128 = o1 at *
  generalize v &&& 128 = q at *
  clear h
  go_enter Tryz.func113, Tryz.ntmps113
  go_wp2_with fail
  with_reducible refine H1.out.mono ?_
  rintro e w1 ⟨rfl, h1, k1⟩
  clear H1
  replace k1 := Lib.hid k1
  replace H2 := Lib.hid (H2.out _ h1)
  clear h1
  go_wp2_with fail
  with_reducible refine H2.out.mono ?_
  rintro e w2 ⟨rfl, h2, k2⟩
  have hfin := Lib.hid (And.intro h2 (k1.out.trans k2))
  clear H2 h2 k2 k1
  go_wp2_with fail
  go_end0
  exact ⟨rfl, hfin.out⟩
/-- N and Z by a word. -/
def tellWR (v : Nat) (r : Rp) : Rp := putR 2 (decide (v = 0)) (putR 128 (hasP v 32768) r)
theorem tellWord_any (v : Nat) (h : Tk K z s w) (hv : v < 65536) :
    Calls Tryz.prog 124 #[.pointer (some ⟨K.b, 0, none⟩), .int .u16 (v : Nat)] w (Turns K z s w (tellWR v s.r) (.tuple #[])) := by
  have H1 := Lib.hid (put_any 128 128 rfl (hasP v 32768) h (by decide))
  have H2 := Lib.hid fun (W : World) (hW : Tk K z { s with r := putR 128 (hasP v 32768) s.r } W) => put_any 2 2 rfl (decide (v = 0)) hW (by decide)
  have ha : bits .and .u16 (v : Int) 32768 = ((v &&& 32768 : Nat) : Int) := u16_and_nat v 32768 hv (by decide)
  have t0 : ((v : Int) == 0) = decide (v = 0) := by by_cases e : v = 0 <;> simp [e]
  have t1 : (((v &&& 32768 : Nat) : Int) != 0) = hasP v 32768 := by unfold hasP; by_cases e : v &&& 32768 = 0 <;> simp [e]
  unfold Turns tellWR
  generalize decide (v = 0) = o2 at *
  generalize hasP v 32768 = o1 at *
  generalize v &&& 32768 = q at *
  clear h
  go_enter Tryz.func124, Tryz.ntmps124
  go_wp2_with fail
  with_reducible refine H1.out.mono ?_
  rintro e w1 ⟨rfl, h1, k1⟩
  clear H1
  replace k1 := Lib.hid k1
  replace H2 := Lib.hid (H2.out _ h1)
  clear h1
  go_wp2_with fail
  with_reducible refine H2.out.mono ?_
  rintro e w2 ⟨rfl, h2, k2⟩
  have hfin := Lib.hid (And.intro h2 (k1.out.trans k2))
  clear H2 h2 k2 k1
  go_wp2_with fail
  go_end0
  exact ⟨rfl, hfin.out⟩
/-- Where a place of the direct page stands. -/
def placeR (r : Rp) (v : Nat) : Nat := if hasP r.P 32 then 256 + v else v
theorem placeR_lt (r : Rp) (v : Nat) (hv : v < 256) : placeR r v < 65536 := by unfold placeR; split <;> omega
theorem place_any (v : Nat) (h : Tk K z s w) (hv : v < 256) :
    Calls Tryz.prog 145 #[.pointer (some ⟨K.b, 0, none⟩), .int .u8 (v : Nat)] w fun e w' => e = .returned (.int .u16 (placeR s.r v : Nat)) ∧ w' = w := by
  have H1 := Lib.hid (flag_any 32 32 rfl h (by decide))
  have e3 : 256 ||| v = 256 + v := by rw [show (256 : Nat) = 1 <<< 8 from rfl, Nat.shiftLeft_add_eq_or_of_lt (show v < 2 ^ 8 from hv)]
  have e1 : bits .or .u16 256 (v : Int) = ((256 + v : Nat) : Int) := (u16_or_nat 256 v (by decide) (by omega)).trans (by rw [e3])
  have e2 : IntKind.u16.wrap (v : Int) = (v : Int) := by simp only [IntKind.wrap_u16]; omega
  unfold placeR
  clear h e3
  cases hp : hasP s.r.P 32
  · rw [hp] at H1
    rw [if_neg (by decide)]
    clear hp e1
    go_enter Tryz.func145, Tryz.ntmps145
    go_wp2_with fail
    with_reducible refine H1.out.mono ?_
    rintro e w1 ⟨rfl, rfl⟩
    clear H1
    go_wp2_with fail
    go_ret
    exact ⟨rfl, rfl⟩
  · rw [hp] at H1
    rw [if_pos rfl]
    clear hp
    generalize 256 + v = x at *
    go_enter Tryz.func145, Tryz.ntmps145
    go_wp2_with fail
    with_reducible refine H1.out.mono ?_
    rintro e w1 ⟨rfl, rfl⟩
    clear H1
    go_wp2_with fail
    go_ret
    exact ⟨rfl, rfl⟩
end
end Go.Proofs.YthecghmhohkcmaaGreatDoor
