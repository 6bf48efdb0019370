/-
  A runner enters an interrupt.
-/
import Derived.Test.YtnacdaodjgdnnaaGreatXStkA
import Derived.Deep.RegionHeld3
namespace Go.Proofs.YtnacdaodjgdnnaaGreat
open Go.RowKit Go.Shelf
set_option maxRecDepth 100000
set_option maxHeartbeats 400000
set_option linter.unusedVariables false

def bankX : X Unit := fun s => if s.r.E then ((), s) else pushX s.r.K s
def enterX (vec fl : Nat) : X Unit := bindX bankX fun _ => bindX getX fun r => bindX (pushWordX r.PC) fun _ => bindX (pushX fl) fun _ => bindX (flagX 4 true) fun _ => bindX (flagX 8 false) fun _ => bindX (readAtX 0 vec 2) farX
theorem Cost.bank : Cost bankX 1 := fun s => by
  unfold bankX
  split
  · exact Nat.le_succ _
  · exact Cost.push _ s
theorem Cost.enter (vec fl : Nat) : Cost (enterX vec fl) 6 :=
  (Cost.bind (c := 1) (d := 5) Cost.bank fun _ => Cost.bind (c := 0) (d := 5) Cost.get fun r => Cost.bind (c := 2) (d := 3) (Cost.pushWord _) fun _ => Cost.bind (c := 1) (d := 2) (Cost.push _) fun _ => Cost.bind (c := 0) (d := 2) (Cost.flag _ _) fun _ => Cost.bind (c := 0) (d := 2) (Cost.flag _ _) fun _ => Cost.bind (c := 2) (d := 0) (Cost.readAt _ _ _) fun _ => Cost.far _).le (by decide)
theorem enter_any {W0 w : World} {B b vec fl : Nat} {s : Xs} (h : Xk W0 B b s w) (hl : s.l.length ≤ 90) (hv : vec < 65536) :
    Calls Tryz.prog 150 #[.pointer (some ⟨b, 0, none⟩), .int .u32 (vec : Nat), .int .u8 (fl : Nat)] w fun e w' => e = .returned (.tuple #[]) ∧ Xk W0 B b (enterX vec fl s).2 w' ∧ Keeps b w w' := by
  have c1 := Cost.bank s
  obtain ⟨s1, hs1⟩ : ∃ s1, (bankX s).2 = s1 := ⟨_, rfl⟩
  obtain ⟨c7, c9⟩ : w.cell? ⟨b, 7, none⟩ = some (.int .u8 s.r.K) ∧ w.cell? ⟨b, 9, none⟩ = some (.bool s.r.E) := ⟨h.look.2.1.2.2.1, h.look.2.1.2.2.2.2⟩
  have HB := fun (W : World) (hW : Xk W0 B b s W) => push_any (v := s.r.K) hW (by omega)
  rw [show (enterX vec fl s).2 = (farX (readAtX 0 vec 2 (flagX 8 false (flagX 4 true (pushX fl (pushWordX (bankX s).2.r.PC (bankX s).2).2).2).2).2).1 (readAtX 0 vec 2 (flagX 8 false (flagX 4 true (pushX fl (pushWordX (bankX s).2.r.PC (bankX s).2).2).2).2).2).2).2 from rfl]
  rw [hs1] at c1 ⊢
  have H1 := fun (W : World) (hW : Xk W0 B b s1 W) => pushWord_any (v := s1.r.PC) hW (by omega) hW.ok.PC
  have c2 := Cost.pushWord s1.r.PC s1
  generalize (pushWordX s1.r.PC s1).2 = s2 at *
  have H2 := fun (W : World) (hW : Xk W0 B b s2 W) => push_any (v := fl) hW (by omega)
  have c3 := Cost.push fl s2
  generalize (pushX fl s2).2 = s3 at *
  have H3 := fun (W : World) (hW : Xk W0 B b s3 W) => flags_any (f := 4) (on := true) hW (by decide)
  have c4 := Cost.flag 4 true s3
  generalize (flagX 4 true s3).2 = s4 at *
  have H4 := fun (W : World) (hW : Xk W0 B b s4 W) => flags_any (f := 8) (on := false) hW (by decide)
  have c5 := Cost.flag 8 false s4
  generalize (flagX 8 false s4).2 = s5 at *
  have H5 := fun (W : World) (hW : Xk W0 B b s5 W) => xreadAt_any (bk := 0) (n := vec) (m := 2) hW (by decide) (by omega) (by omega) (by decide)
  rw [show numX (at1X 0 vec) 2 s5 = readAtX 0 vec 2 s5 from rfl] at H5
  generalize readAtX 0 vec 2 s5 = p at *
  obtain ⟨a, s6⟩ := p
  dsimp only at *
  have H6 := fun (W : World) (hW : Xk W0 B b s6 W) (ha : a < 4294967296) => goFar_any (a := a) hW ha
  generalize (farX a s6).2 = s7 at *
  simp only [show ((0 : Nat) : Int) = 0 from rfl, show ((2 : Nat) : Int) = 2 from rfl, show ((4 : Nat) : Int) = 4 from rfl, show ((8 : Nat) : Int) = 8 from rfl] at H3 H4 H5
  replace H1 := Lib.hid H1
  replace H2 := Lib.hid H2
  replace H3 := Lib.hid H3
  replace H4 := Lib.hid H4
  replace H5 := Lib.hid H5
  replace H6 := Lib.hid H6
  replace HB := Lib.hid HB
  clear c1 c2 c3 c4 c5 hl hv
  have hbk : bankX s = if s.r.E then ((), s) else pushX s.r.K s := rfl
  rw [hbk] at hs1
  clear hbk
  have hh := Lib.hid h
  clear h
  have tail : ∀ (W1 : World), Xk W0 B b s1 W1 → Keeps b w W1 → W1.cell? ⟨b, 5, none⟩ = some (.int .u16 s1.r.PC) ∧ (Hid (Xk W0 B b s1 W1 ∧ Keeps b w W1)) := fun W1 h1 k1 => by
    exact ⟨h1.look.2.1.1, Lib.hid ⟨h1, k1⟩⟩
  replace tail := Lib.hid tail
  generalize s1.r.PC = PC at *
  cases hE : s.r.E with
  | true =>
    rw [hE, if_pos rfl] at hs1
    rw [hE] at c9
    dsimp only at hs1
    subst hs1
    clear HB
    obtain ⟨d5, hk1⟩ := tail.out w hh.out (Keeps.refl _ _)
    clear tail hh hE
    generalize s.r.K = K at *
    go_enter Tryz.func150, Tryz.ntmps150
    go_wp2_with fail
    refine (H1.out _ hk1.out.1).mono ?_
    rintro e W2 ⟨rfl, h2, k2⟩
    have hh2 := Lib.hid (And.intro h2 (hk1.out.2.trans k2))
    clear h2 k2 H1 hk1 c7 c9 d5
    go_wp2_with fail
    refine (H2.out _ hh2.out.1).mono ?_
    rintro e W3 ⟨rfl, h3, k3⟩
    have hh3 := Lib.hid (And.intro h3 (hh2.out.2.trans k3))
    clear h3 k3 H2 hh2
    go_wp2_with fail
    refine (H3.out _ hh3.out.1).mono ?_
    rintro e W4 ⟨rfl, h4, k4⟩
    have hh4 := Lib.hid (And.intro h4 (hh3.out.2.trans k4))
    clear h4 k4 H3 hh3
    go_wp2_with fail
    refine (H4.out _ hh4.out.1).mono ?_
    rintro e W5 ⟨rfl, h5, k5⟩
    have hh5 := Lib.hid (And.intro h5 (hh4.out.2.trans k5))
    clear h5 k5 H4 hh4
    go_wp2_with fail
    refine (H5.out _ hh5.out.1).mono ?_
    rintro e W6 ⟨rfl, h6, k6, ha⟩
    have hh6 := Lib.hid (And.intro h6 (hh5.out.2.trans k6))
    have ha2 : a < 4294967296 := by have : a < 256 ^ 2 := ha; omega
    replace ha2 := Lib.hid ha2
    clear h6 k6 H5 hh5 ha
    go_wp2_with fail
    refine (H6.out _ hh6.out.1 ha2.out).mono ?_
    rintro e W7 ⟨rfl, h7, k7⟩
    have hh7 := Lib.hid (And.intro h7 (hh6.out.2.trans k7))
    clear h7 k7 H6 hh6
    go_wp2_with fail
    go_end0
    exact ⟨rfl, hh7.out⟩
  | false =>
    rw [hE, if_neg (by decide)] at hs1
    rw [hE] at c9
    clear hE
    have HBc := Lib.hid (HB.out w hh.out)
    rw [hs1] at HBc
    clear HB hs1 hh
    generalize s.r.K = K at *
    go_enter Tryz.func150, Tryz.ntmps150
    go_wp2_with fail
    refine HBc.out.mono ?_
    rintro e W1 ⟨rfl, h1, k1⟩
    obtain ⟨d5, hk1⟩ := tail.out W1 h1 k1
    clear h1 k1 tail HBc c7 c9
    go_wp2_with fail
    refine (H1.out _ hk1.out.1).mono ?_
    rintro e W2 ⟨rfl, h2, k2⟩
    have hh2 := Lib.hid (And.intro h2 (hk1.out.2.trans k2))
    clear h2 k2 H1 hk1 d5
    go_wp2_with fail
    refine (H2.out _ hh2.out.1).mono ?_
    rintro e W3 ⟨rfl, h3, k3⟩
    have hh3 := Lib.hid (And.intro h3 (hh2.out.2.trans k3))
    clear h3 k3 H2 hh2
    go_wp2_with fail
    refine (H3.out _ hh3.out.1).mono ?_
    rintro e W4 ⟨rfl, h4, k4⟩
    have hh4 := Lib.hid (And.intro h4 (hh3.out.2.trans k4))
    clear h4 k4 H3 hh3
    go_wp2_with fail
    refine (H4.out _ hh4.out.1).mono ?_
    rintro e W5 ⟨rfl, h5, k5⟩
    have hh5 := Lib.hid (And.intro h5 (hh4.out.2.trans k5))
    clear h5 k5 H4 hh4
    go_wp2_with fail
    refine (H5.out _ hh5.out.1).mono ?_
    rintro e W6 ⟨rfl, h6, k6, ha⟩
    have hh6 := Lib.hid (And.intro h6 (hh5.out.2.trans k6))
    have ha2 : a < 4294967296 := by have : a < 256 ^ 2 := ha; omega
    replace ha2 := Lib.hid ha2
    clear h6 k6 H5 hh5 ha
    go_wp2_with fail
    refine (H6.out _ hh6.out.1 ha2.out).mono ?_
    rintro e W7 ⟨rfl, h7, k7⟩
    have hh7 := Lib.hid (And.intro h7 (hh6.out.2.trans k7))
    clear h7 k7 H6 hh6
    go_wp2_with fail
    go_end0
    exact ⟨rfl, hh7.out⟩
end Go.Proofs.YtnacdaodjgdnnaaGreat
namespace Go.Proofs.YtnacdaodjgdnnaaGreat
open Go.RowKit Go.Shelf
set_option maxRecDepth 100000
set_option maxHeartbeats 400000
set_option linter.unusedVariables false

/-- Where an interrupt's address stands. -/
def vectorF (why : Nat) (e : Bool) : Nat := if why = 0 then 65532 else if why = 1 then (if e then 65530 else 65514) else if why = 2 then (if e then 65534 else 65518) else 0
theorem vectorF_lt (why : Nat) (e : Bool) : vectorF why e < 65536 := by
  unfold vectorF
  cases e <;> (repeat' split) <;> first | decide | (rename_i h; cases h)
theorem either_any (e : Bool) (x y : Nat) (w : World) : Calls Tryz.prog 76 #[.bool e, .int .u32 (x : Nat), .int .u32 (y : Nat)] w fun e' w' => e' = .returned (.int .u32 ((if e then x else y : Nat) : Nat)) ∧ w = w' := by
  cases e with
  | false =>
    rw [if_neg (by decide)]
    go_enter Tryz.func76, Tryz.ntmps76
    go_wp2_with fail
    go_ret
    exact ⟨rfl, rfl⟩
  | true =>
    rw [if_pos rfl]
    go_enter Tryz.func76, Tryz.ntmps76
    go_wp2_with fail
    go_ret
    exact ⟨rfl, rfl⟩
theorem vector_any (why : Nat) (e : Bool) (w : World) (hw : why < 256) : Calls Tryz.prog 23 #[.int .u8 (why : Nat), .bool e] w fun e' w' => e' = .returned (.int .u32 (vectorF why e : Nat)) ∧ w = w' := by
  have H1 := Lib.hid fun W => either_any e 65530 65514 W
  have H2 := Lib.hid fun W => either_any e 65534 65518 W
  unfold vectorF
  rcases (show why = 0 ∨ why = 1 ∨ why = 2 ∨ 2 < why by omega) with rfl | rfl | rfl | h
  · rw [if_pos rfl]
    go_enter Tryz.func23, Tryz.ntmps23
    go_wp2_with fail
    go_ret
    exact ⟨rfl, rfl⟩
  · rw [if_neg (by decide), if_pos rfl]
    generalize (if e = true then 65530 else 65514) = x at *
    simp only [show ((65530 : Nat) : Int) = 65530 from rfl, show ((65514 : Nat) : Int) = 65514 from rfl] at H1
    go_enter Tryz.func23, Tryz.ntmps23
    go_wp2_with fail
    refine (H1.out _).mono ?_
    rintro e' W ⟨rfl, rfl⟩
    go_wp2_with fail
    go_ret
    exact ⟨rfl, rfl⟩
  · rw [if_neg (by decide), if_neg (by decide), if_pos rfl]
    generalize (if e = true then 65534 else 65518) = x at *
    simp only [show ((65534 : Nat) : Int) = 65534 from rfl, show ((65518 : Nat) : Int) = 65518 from rfl] at H2
    go_enter Tryz.func23, Tryz.ntmps23
    go_wp2_with fail
    refine (H2.out _).mono ?_
    rintro e' W ⟨rfl, rfl⟩
    go_wp2_with fail
    go_ret
    exact ⟨rfl, rfl⟩
  · rw [if_neg (by omega), if_neg (by omega), if_neg (by omega)]
    have t0 : ((why : Int) == 0) = false := by rw [beq_eq_false_iff_ne]; omega
    have t1 : ((why : Int) == 1) = false := by rw [beq_eq_false_iff_ne]; omega
    have t2 : ((why : Int) == 2) = false := by rw [beq_eq_false_iff_ne]; omega
    go_enter Tryz.func23, Tryz.ntmps23
    go_wp2_with fail
    go_ret
    exact ⟨rfl, rfl⟩
def interruptX (why : Nat) : X Unit := bindX (idlesX 2) fun _ => bindX getX fun r => enterX (vectorF why r.E) (if r.E then r.P &&& 239 else r.P)
theorem Cost.interrupt (why : Nat) : Cost (interruptX why) 8 := Cost.bind (c := 2) (d := 6) (Cost.idles 2) fun _ => Cost.bind (c := 0) (d := 6) Cost.get fun r => Cost.enter _ _
theorem interrupt_any {W0 w : World} {B b why : Nat} {s : Xs} (h : Xk W0 B b s w) (hl : s.l.length ≤ 80) (hw : why < 256) :
    Calls Tryz.prog 70 #[.pointer (some ⟨b, 0, none⟩), .int .u8 (why : Nat)] w fun e w' => e = .returned (.tuple #[]) ∧ Xk W0 B b (interruptX why s).2 w' ∧ Keeps b w w' := by
  have HI := idles_any (n := 2) h (by omega)
  have c1 := Cost.idles 2 s
  rw [show (interruptX why s).2 = (enterX (vectorF why (idlesX 2 s).2.r.E) (if (idlesX 2 s).2.r.E then (idlesX 2 s).2.r.P &&& 239 else (idlesX 2 s).2.r.P) (idlesX 2 s).2).2 from rfl]
  generalize (idlesX 2 s).2 = s1 at *
  have HV := fun W => vector_any why s1.r.E W hw
  have HE := fun (fl : Nat) (W : World) (hW : Xk W0 B b s1 W) => enter_any (vec := vectorF why s1.r.E) (fl := fl) hW (by omega) (vectorF_lt _ _)
  have hlook := fun (W : World) (hW : Xk W0 B b s1 W) => (show W.cell? ⟨b, 8, none⟩ = some (.int .u8 s1.r.P) ∧ W.cell? ⟨b, 9, none⟩ = some (.bool s1.r.E) ∧ s1.r.P < 256 from ⟨hW.look.2.1.2.2.2.1, hW.look.2.1.2.2.2.2, hW.ok.P⟩)
  generalize vectorF why s1.r.E = vec at *
  simp only [show ((2 : Nat) : Int) = 2 from rfl] at HI
  have hand : s1.r.P < 256 → bits .andNot .u8 (s1.r.P : Int) 16 = ((s1.r.P &&& 239 : Nat) : Int) := fun h => u8_andNot_nat s1.r.P 16 h (by decide)
  replace HI := Lib.hid HI
  replace HV := Lib.hid HV
  replace hand := Lib.hid hand
  replace hlook := Lib.hid hlook
  clear h hl c1
  cases hE : s1.r.E with
  | false =>
    rw [if_neg (by decide)]
    replace HE := Lib.hid (HE s1.r.P)
    rw [hE] at HV hlook
    clear hE hand
    generalize s1.r.P = P at *
    go_enter Tryz.func70, Tryz.ntmps70
    go_wp2_with fail
    refine HI.out.mono ?_
    rintro e W1 ⟨rfl, h1, k1⟩
    obtain ⟨d8, d9, _⟩ := hlook.out W1 h1
    have hh := Lib.hid (And.intro h1 k1)
    clear h1 k1 HI hlook
    go_wp2_with fail
    refine (HV.out _).mono ?_
    rintro e W2 ⟨rfl, rfl⟩
    go_wp2_with fail
    refine (HE.out _ hh.out.1).mono ?_
    rintro e W3 ⟨rfl, h3, k3⟩
    have hh3 := Lib.hid (And.intro h3 (hh.out.2.trans k3))
    clear h3 k3 hh HE HV
    go_wp2_with fail
    go_end0
    exact ⟨rfl, hh3.out⟩
  | true =>
    rw [if_pos rfl]
    replace HE := Lib.hid (HE (s1.r.P &&& 239))
    rw [hE] at HV hlook
    clear hE
    generalize s1.r.P = P at *
    go_enter Tryz.func70, Tryz.ntmps70
    go_wp2_with fail
    refine HI.out.mono ?_
    rintro e W1 ⟨rfl, h1, k1⟩
    obtain ⟨d8, d9, hP⟩ := hlook.out W1 h1
    have hq := hand.out hP
    have hh := Lib.hid (And.intro h1 k1)
    clear h1 k1 HI hlook hP hand
    generalize hqe : P &&& 239 = q at *
    replace hqe := Lib.hid hqe
    go_wp2_with fail
    refine (HV.out _).mono ?_
    rintro e W2 ⟨rfl, rfl⟩
    go_wp2_with fail
    refine (HE.out _ hh.out.1).mono ?_
    rintro e W3 ⟨rfl, h3, k3⟩
    have hh3 := Lib.hid (And.intro h3 (hh.out.2.trans k3))
    clear h3 k3 hh HE HV
    go_wp2_with fail
    go_end0
    exact ⟨rfl, by rw [hqe.out]; exact hh3.out⟩
end Go.Proofs.YtnacdaodjgdnnaaGreat
namespace Go.Proofs.YtnacdaodjgdnnaaGreat
open Go.RowKit Go.Shelf
set_option maxRecDepth 100000
set_option maxHeartbeats 400000
set_option linter.unusedVariables false

def anewX : X Unit := setX fun r => { r with S := (r.S + 65533) % 65536, E := true, D := 0, B := 0 }
def resetX : X Unit := bindX (idlesX 5) fun _ => bindX anewX fun _ => bindX (flagX 4 true) fun _ => bindX (flagX 8 false) fun _ => bindX (readAtX 0 65532 2) farX
theorem Cost.reset : Cost resetX 7 := Cost.bind (c := 5) (d := 2) (Cost.idles 5) fun _ => Cost.bind (c := 0) (d := 2) (Cost.set _) fun _ => Cost.bind (c := 0) (d := 2) (Cost.flag _ _) fun _ => Cost.bind (c := 0) (d := 2) (Cost.flag _ _) fun _ => Cost.bind (c := 2) (d := 0) (Cost.readAt _ _ _) fun _ => Cost.far _
theorem anew_is (s : Xs) : (anewX s).2 = { s with r := { s.r with S := (s.r.S + 65533) % 65536, E := true, D := 0, B := 0 } } := rfl
theorem anew_E (s : Xs) : (anewX s).2.r.E = true := rfl
theorem anew_l (s : Xs) : (anewX s).2.l = s.l := by simp only [anewX, setX]
theorem numX_r {F : Nat → X Nat} (h : ∀ i s, (F i s).2.r = s.r) : ∀ m s, (numX F m s).2.r = s.r
  | 0, s => rfl
  | k + 1, s => by
    show (F k (numX F k s).2).2.r = s.r
    rw [h, numX_r h k s]
theorem readAt_r (bk n m : Nat) (s : Xs) : (readAtX bk n m s).2.r = s.r := numX_r (fun i s => xread_r _ s) m s
theorem far_E (a : Nat) (s : Xs) : (farX a s).2.r.E = s.r.E := by simp only [farX, setX]
theorem anew_len (s : Xs) : (anewX s).2.l.length ≤ s.l.length := by rw [anew_l]; exact Nat.le_refl _
theorem flag_E (f : Nat) (on : Bool) (s : Xs) : (flagX f on s).2.r.E = s.r.E := rfl
theorem reset_is (s : Xs) : (resetX s).2 = (farX (readAtX 0 65532 2 (flagX 8 false (flagX 4 true (anewX (idlesX 5 s).2).2).2).2).1 (readAtX 0 65532 2 (flagX 8 false (flagX 4 true (anewX (idlesX 5 s).2).2).2).2).2).2 := rfl
theorem readAt_is (bk n m : Nat) (s : Xs) : numX (at1X bk n) m s = readAtX bk n m s := rfl
attribute [local irreducible] idlesX flagX readAtX farX anewX numX resetX
theorem reset_any {W0 w : World} {B b : Nat} {s : Xs} (h : Xk W0 B b s w) (hl : s.l.length ≤ 80) :
    Calls Tryz.prog 69 #[.pointer (some ⟨b, 0, none⟩)] w fun e w' => e = .returned (.tuple #[]) ∧ Xk W0 B b (resetX s).2 w' ∧ Keeps b w w' := by
  have HI := idles_any (n := 5) h (by omega)
  have c1 := Cost.idles 5 s
  rw [reset_is]
  generalize (idlesX 5 s).2 = s1 at *
  obtain ⟨v, hv⟩ : ∃ v, (s1.r.S + 65533) % 65536 = v := ⟨_, rfl⟩
  have hvl : v < 65536 := by omega
  have hsteps : ∀ (W : World), Xk W0 B b s1 W → Xk W0 B b (anewX s1).2 ((((W.setCell ⟨b, 3, none⟩ (.int .u16 (v : Nat))).setCell ⟨b, 9, none⟩ (.bool true)).setCell ⟨b, 4, none⟩ (.int .u16 0)).setCell ⟨b, 6, none⟩ (.int .u8 0)) := fun W hW => by
    have ok := hW.ok
    have h1 := hW.reg 3 (.int .u16 (v : Nat)) { s1.r with S := v } ⟨ok.A, ok.X, ok.Y, hvl, ok.D, ok.PC, ok.B, ok.K, ok.P⟩ (fun _ _ => rfl)
    have h2 := h1.reg 9 (.bool true) { s1.r with S := v, E := true } ⟨ok.A, ok.X, ok.Y, hvl, ok.D, ok.PC, ok.B, ok.K, ok.P⟩ (fun _ _ => rfl)
    have h3 := h2.reg 4 (.int .u16 0) { s1.r with S := v, E := true, D := 0 } ⟨ok.A, ok.X, ok.Y, hvl, (show (0 : Nat) < 65536 by decide), ok.PC, ok.B, ok.K, ok.P⟩ (fun _ _ => rfl)
    have h4 := h3.reg 6 (.int .u8 0) { s1.r with S := v, E := true, D := 0, B := 0 } ⟨ok.A, ok.X, ok.Y, hvl, (show (0 : Nat) < 65536 by decide), ok.PC, (show (0 : Nat) < 256 by decide), ok.K, ok.P⟩ (fun _ _ => rfl)
    rw [anew_is, hv]
    exact h4
  have hfree : ∀ (W : World), Xk W0 B b s1 W → W.cell? ⟨b, 3, none⟩ = some (.int .u16 s1.r.S) ∧ W.frozen? ⟨b, 3, none⟩ = false ∧
      ((W.setCell ⟨b, 3, none⟩ (.int .u16 (v : Nat))).cell? ⟨b, 9, none⟩ = some (.bool s1.r.E) ∧ (W.setCell ⟨b, 3, none⟩ (.int .u16 (v : Nat))).frozen? ⟨b, 9, none⟩ = false) ∧
      (((W.setCell ⟨b, 3, none⟩ (.int .u16 (v : Nat))).setCell ⟨b, 9, none⟩ (.bool true)).cell? ⟨b, 4, none⟩ = some (.int .u16 s1.r.D) ∧ ((W.setCell ⟨b, 3, none⟩ (.int .u16 (v : Nat))).setCell ⟨b, 9, none⟩ (.bool true)).frozen? ⟨b, 4, none⟩ = false) ∧
      ((((W.setCell ⟨b, 3, none⟩ (.int .u16 (v : Nat))).setCell ⟨b, 9, none⟩ (.bool true)).setCell ⟨b, 4, none⟩ (.int .u16 0)).cell? ⟨b, 6, none⟩ = some (.int .u8 s1.r.B) ∧ (((W.setCell ⟨b, 3, none⟩ (.int .u16 (v : Nat))).setCell ⟨b, 9, none⟩ (.bool true)).setCell ⟨b, 4, none⟩ (.int .u16 0)).frozen? ⟨b, 6, none⟩ = false) := fun W hW => by
    have ok := hW.ok
    have h1 := hW.reg 3 (.int .u16 (v : Nat)) { s1.r with S := v } ⟨ok.A, ok.X, ok.Y, hvl, ok.D, ok.PC, ok.B, ok.K, ok.P⟩ (fun _ _ => rfl)
    have h2 := h1.reg 9 (.bool true) { s1.r with S := v, E := true } ⟨ok.A, ok.X, ok.Y, hvl, ok.D, ok.PC, ok.B, ok.K, ok.P⟩ (fun _ _ => rfl)
    have h3 := h2.reg 4 (.int .u16 0) { s1.r with S := v, E := true, D := 0 } ⟨ok.A, ok.X, ok.Y, hvl, (show (0 : Nat) < 65536 by decide), ok.PC, ok.B, ok.K, ok.P⟩ (fun _ _ => rfl)
    exact ⟨hW.look.1.2.2.2.1, hW.look.2.2 3, ⟨h1.look.2.1.2.2.2.2, h1.look.2.2 9⟩, ⟨h2.look.1.2.2.2.2, h2.look.2.2 4⟩, ⟨h3.look.2.1.2.1, h3.look.2.2 6⟩⟩
  have e1 : ((s1.r.S : Int) - 3) % 65536 = (v : Int) := by omega
  have e2 : IntKind.u16.wrap ((s1.r.S : Int) - 3) = (v : Int) := by simp only [IntKind.wrap_u16]; omega
  have c2 := anew_len s1
  have hE2 := anew_E s1
  generalize (anewX s1).2 = s2 at *
  have H3 := fun (W : World) (hW : Xk W0 B b s2 W) => flags_any (f := 4) (on := true) hW (by decide)
  have c4 := Cost.flag 4 true s2
  have hE3 := flag_E 4 true s2
  generalize (flagX 4 true s2).2 = s3 at *
  have H4 := fun (W : World) (hW : Xk W0 B b s3 W) => flags_any (f := 8) (on := false) hW (by decide)
  have c5 := Cost.flag 8 false s3
  have hE4 := flag_E 8 false s3
  generalize (flagX 8 false s3).2 = s4 at *
  have hE : s4.r.E = true := by rw [hE4, hE3, hE2]
  have hlook := fun (W : World) (hW : Xk W0 B b s4 W) => (show W.drew.cell? ⟨b, 9, none⟩ = some (.bool true) from by rw [← hE]; exact hW.drew.look.2.1.2.2.2.2)
  have HV := fun W => vector_any 0 true W (by decide)
  rw [show vectorF 0 true = 65532 from rfl] at HV
  have H5 := fun (W : World) (hW : Xk W0 B b s4 W) => xreadAt_any (bk := 0) (n := 65532) (m := 2) hW (by decide) (by omega) (by decide) (by decide)
  simp only [readAt_is] at H5
  have hr6 := readAt_r 0 65532 2 s4
  generalize readAtX 0 65532 2 s4 = p at *
  obtain ⟨a, s6⟩ := p
  dsimp only at *
  have H6 := fun (W : World) (hW : Xk W0 B b s6 W) (ha : a < 4294967296) => goFar_any (a := a) hW ha
  have hr7 := far_E a s6
  generalize (farX a s6).2 = s7 at *
  have hl6 := fun (W : World) (hW : Xk W0 B b s6 W) => (show W.cell? ⟨b, 9, none⟩ = some (.bool true) from by rw [← hE, ← hr6]; exact hW.look.2.1.2.2.2.2)
  have hl7 := fun (W : World) (hW : Xk W0 B b s7 W) => (show W.cell? ⟨b, 9, none⟩ = some (.bool true) from by rw [← hE, ← hr6, ← hr7]; exact hW.look.2.1.2.2.2.2)
  replace hl6 := Lib.hid hl6
  replace hl7 := Lib.hid hl7
  clear hr6 hr7
  simp only [show ((0 : Nat) : Int) = 0 from rfl, show ((2 : Nat) : Int) = 2 from rfl, show ((4 : Nat) : Int) = 4 from rfl, show ((5 : Nat) : Int) = 5 from rfl, show ((8 : Nat) : Int) = 8 from rfl, show ((65532 : Nat) : Int) = 65532 from rfl] at HI H3 H4 H5 HV
  replace HI := Lib.hid HI
  replace H3 := Lib.hid H3
  replace H4 := Lib.hid H4
  replace H5 := Lib.hid H5
  replace H6 := Lib.hid H6
  replace HV := Lib.hid HV
  replace hsteps := Lib.hid hsteps
  replace hfree := Lib.hid hfree
  replace hlook := Lib.hid hlook
  clear c1 c2 c4 c5 hl h hE hE2 hE3 hE4 hv hvl
  generalize s1.r.S = S at *
  generalize s1.r.E = E at *
  generalize s1.r.D = D at *
  generalize s1.r.B = Bk at *
  go_enter Tryz.func69, Tryz.ntmps69
  go_wp2_with fail
  refine HI.out.mono ?_
  rintro e W1 ⟨rfl, h1, k1⟩
  obtain ⟨d3, f3, ⟨d9, f9⟩, ⟨d4, f4⟩, d6, f6⟩ := hfree.out W1 h1
  have hh := Lib.hid (And.intro (hsteps.out W1 h1) ((((k1.set 3 (.int .u16 (v : Nat))).set 9 (.bool true)).set 4 (.int .u16 0)).set 6 (.int .u8 0)))
  clear h1 k1 HI hfree hsteps
  go_wp2_with fail
  refine (H3.out _ hh.out.1).mono ?_
  rintro e W4 ⟨rfl, h4, k4⟩
  have hh4 := Lib.hid (And.intro h4 (hh.out.2.trans k4))
  clear h4 k4 H3 hh d3 f3 d9 f9 d4 f4 d6 f6
  go_wp2_with fail
  refine (H4.out _ hh4.out.1).mono ?_
  rintro e W5 ⟨rfl, h5, k5⟩
  have q9 := hlook.out W5 h5
  have hh5 := Lib.hid (And.intro h5.drew ((hh4.out.2.trans k5).trans (Keeps.below (Below.drew (Below.refl _ _)))))
  clear h5 k5 H4 hh4 hlook
  go_upto_region 6 with (fail)
  go_region_held3 (fun V => V.cell? ⟨b, 9, none⟩ = some (.bool true))
    (first | exact q9 | exact hl6.out _ hh7.out.1 | exact hl7.out _ hh8.out.1 | go_keep)
    (first
      | (go_at_call 23; (with_reducible refine (HV.out _).mono ?_); rintro e W6 ⟨rfl, rfl⟩)
      | (go_at_call 149; (with_reducible refine (H5.out _ hh5.out.1).mono ?_); rintro e W7 ⟨rfl, h7, k7, ha⟩; have hh7 := Lib.hid (And.intro h7 (hh5.out.2.trans k7)); have ha2 : a < 4294967296 := (by have : a < 256 ^ 2 := ha; omega))
      | (go_at_call 148; (with_reducible refine (H6.out _ hh7.out.1 ha2).mono ?_); rintro e W8 ⟨rfl, h8, k8⟩; have hh8 := Lib.hid (And.intro h8 (hh7.out.2.trans k8))))
  go_wp2_with fail
  go_end0
  exact ⟨rfl, hh8.out⟩
end Go.Proofs.YtnacdaodjgdnnaaGreat
namespace Go.Proofs.YtnacdaodjgdnnaaGreat
open Go.RowKit Go.Shelf
set_option maxRecDepth 100000
set_option maxHeartbeats 400000
set_option linter.unusedVariables false

def cd0 : Cd5 := (0, ⟨#[]⟩, 0, 0, 0)
theorem runnerOf_any (r : Rg) (a : Option Addr) (n c : Nat) (f : Nat → Nat) (w : World) (h : r.Ok) (hR : Row w a n f) (hnc : n ≤ c) :
    Calls Tryz.prog 58 #[r.v, .slice a n c] w fun e w' => ∃ b, e = .returned (.pointer (some ⟨b, 0, none⟩)) ∧ Xk w w.heap.size b ⟨r.settle, n, f, [], false, cd0, 0⟩ w' := by
  have HS := fun W => settle_any r W h
  have hok := h.settle
  have hB0 := (Below.refl w.heap.size w).alloc (Nat.le_refl _) (.cells (rgC r.A r.X r.Y r.S r.D r.PC r.B r.K r.P r.E) 24)
  have hG := Whole.fresh w 24 (rgC r.A r.X r.Y r.S r.D r.PC r.B r.K r.P r.E)
  have g0 := hG.cell 0
  have g1 := hG.cell 1
  have g2 := hG.cell 2
  have g3 := hG.cell 3
  have g4 := hG.cell 4
  have g5 := hG.cell 5
  have g6 := hG.cell 6
  have g7 := hG.cell 7
  have g8 := hG.cell 8
  have g9 := hG.cell 9
  unfold rgC at g0 g1 g2 g3 g4 g5 g6 g7 g8 g9 hB0
  simp only [List.getElem?_toArray, List.getElem?_cons_zero, List.getElem?_cons_succ] at g0 g1 g2 g3 g4 g5 g6 g7 g8 g9
  have hfin : ∀ (W2 : World), Below w.heap.size w W2 → Xk w w.heap.size W2.heap.size ⟨r.settle, n, f, [], false, cd0, 0⟩ (W2.alloc (.cells (rnC r.settle (.slice a n c) (.slice none 0 0) false cd0 0) 104)) := fun W2 hb =>
    ⟨hok, ⟨a, c, .slice none 0 0, Whole.fresh W2 _ _, hnc, hR, World.ownsRow_nil _ _ _ _⟩, hb.size, hb.alloc hb.size _, rfl⟩
  unfold rnC cd0 at hfin
  unfold cd0
  unfold Rg.v rgC at *
  replace HS := Lib.hid HS
  replace hfin := Lib.hid hfin
  clear hG hR h hok hnc
  go_enter Tryz.func58, Tryz.ntmps58
  go_wp2_with fail
  refine (HS.out _).mono ?_
  rintro e W2 ⟨rfl, hb2⟩
  have hB2 := hB0.trans (hb2.mono hB0.size)
  have hF := Lib.hid (hfin.out W2 hB2)
  clear hB0 hb2 hB2 hfin HS g0 g1 g2 g3 g4 g5 g6 g7 g8 g9
  go_wp2_with fail
  go_ret
  exact ⟨_, rfl, hF.out⟩
end Go.Proofs.YtnacdaodjgdnnaaGreat
