/-
  A runner's registers by their letters: width, place; the arithmetic unit; what is laid.
-/
import Derived.Test.YtnacdaodjgdnnaaGreatXSame
import Derived.Test.YtnacdaodjgdnnaaGreatAluB
import Derived.Test.YtnacdaodjgdnnaaGreatCodA
import Derived.Deep.RegionHeld3
namespace Go.Proofs.YtnacdaodjgdnnaaGreat
open Go.RowKit Go.Shelf
set_option maxRecDepth 100000
set_option maxHeartbeats 1000000
set_option linter.unusedVariables false

theorem Xk.wr {W0 w : World} {B b : Nat} {s : Xs} (h : Xk W0 B b s w) (i : Nat) (v : Value) (s' : Xs) (hok : s'.r.Ok) (e1 : s'.n = s.n) (e2 : s'.f = s.f) (e3 : s'.l = s.l) (he : ∀ sv lv, (rnC s.r sv lv s.st s.cd s.af).setIfInBounds i v = rnC s'.r sv lv s'.st s'.cd s'.af) :
    Xk W0 B b s' (w.setCell ⟨b, i, none⟩ v) := by
  obtain ⟨a, c, lv, h1, h2, h3, h4⟩ := h.cells
  refine ⟨hok, ⟨a, c, lv, ?_, by rw [e1]; exact h2, by rw [e1, e2]; exact h3, by rw [e3]; exact row_put h4 (p := ⟨b, i, none⟩) (own_apart h4 h1 (by decide)) _⟩, h.here, h.bel.setCell (p := ⟨b, i, none⟩) h.here _, h.base⟩
  have := h1.put i v
  rw [he] at this
  rw [e1]
  exact this
theorem fetchByte_any {W0 w : World} {B b : Nat} {s : Xs} (h : Xk W0 B b s w) (hl : s.l.length ≤ 97) :
    Calls Tryz.prog 186 #[.pointer (some ⟨b, 0, none⟩)] w fun e w' => e = .returned (.int .u8 ((fetchX 1 s).1 : Nat)) ∧ Xk W0 B b (fetchX 1 s).2 w' ∧ Keeps b w w' ∧ (fetchX 1 s).1 < 256 := by
  have H := xfetch_any (m := 1) h (by decide) (by omega)
  generalize fetchX 1 s = p at *
  obtain ⟨v, s1⟩ := p
  dsimp only at *
  simp only [show ((1 : Nat) : Int) = 1 from rfl] at H
  replace H := Lib.hid H
  clear h hl
  go_enter Tryz.func186, Tryz.ntmps186
  go_wp2_with fail
  refine H.out.mono ?_
  rintro e W1 ⟨rfl, h1, k1, hv⟩
  have e1 : (v : Int) % 256 = (v : Int) := by have : v < 256 ^ 1 := hv; omega
  have e2 : IntKind.u8.wrap (v : Int) = (v : Int) := by simp only [IntKind.wrap_u8]; omega
  replace h1 := Lib.hid h1
  replace k1 := Lib.hid k1
  replace hv := Lib.hid hv
  clear H
  go_wp2_with fail
  go_ret
  exact ⟨rfl, h1.out, k1.out, by have : v < 256 ^ 1 := hv.out; omega⟩
theorem fetchWord_any {W0 w : World} {B b : Nat} {s : Xs} (h : Xk W0 B b s w) (hl : s.l.length ≤ 97) :
    Calls Tryz.prog 185 #[.pointer (some ⟨b, 0, none⟩)] w fun e w' => e = .returned (.int .u16 ((fetchX 2 s).1 : Nat)) ∧ Xk W0 B b (fetchX 2 s).2 w' ∧ Keeps b w w' ∧ (fetchX 2 s).1 < 65536 := by
  have H := xfetch_any (m := 2) h (by decide) (by omega)
  generalize fetchX 2 s = p at *
  obtain ⟨v, s1⟩ := p
  dsimp only at *
  simp only [show ((2 : Nat) : Int) = 2 from rfl] at H
  replace H := Lib.hid H
  clear h hl
  go_enter Tryz.func185, Tryz.ntmps185
  go_wp2_with fail
  refine H.out.mono ?_
  rintro e W1 ⟨rfl, h1, k1, hv⟩
  have e1 : (v : Int) % 65536 = (v : Int) := by have : v < 256 ^ 2 := hv; omega
  have e2 : IntKind.u16.wrap (v : Int) = (v : Int) := by rw [IntKind.wrap_u16]; omega
  replace h1 := Lib.hid h1
  replace k1 := Lib.hid k1
  replace hv := Lib.hid hv
  clear H
  go_wp2_with fail
  go_ret
  exact ⟨rfl, h1.out, k1.out, by have : v < 256 ^ 2 := hv.out; omega⟩
/-- Has the register with a letter sixteen bits? -/
def wideU (L P : Nat) : Bool := if L = 65 then Cd.wideF 1 P else if L = 88 ∨ L = 89 then Cd.wideF 2 P else true
theorem uwide_any {W0 w : World} {B b L : Nat} {s : Xs} (h : Xk W0 B b s w) (hL : L < 256) :
    Calls Tryz.prog 182 #[.pointer (some ⟨b, 0, none⟩), .int .u8 (L : Nat)] w fun e w' => e = .returned (.bool (wideU L s.r.P)) ∧ w = w' := by
  have hP := h.ok.P
  have c8 := h.look.2.1.2.2.2.1
  have H1 := Lib.hid (fun W => Cd.wide_any 1 s.r.P W hP)
  have H2 := Lib.hid (fun W => Cd.wide_any 2 s.r.P W hP)
  simp only [show ((1 : Nat) : Int) = 1 from rfl, show ((2 : Nat) : Int) = 2 from rfl] at H1 H2
  unfold wideU
  generalize Cd.wideF 1 s.r.P = x at *
  generalize Cd.wideF 2 s.r.P = y at *
  clear h hP
  generalize s.r.P = P at *
  rcases (show L = 65 ∨ L = 88 ∨ L = 89 ∨ (L ≠ 65 ∧ L ≠ 88 ∧ L ≠ 89) by omega) with rfl | rfl | rfl | ⟨n1, n2, n3⟩
  · rw [if_pos rfl]
    go_enter Tryz.func182, Tryz.ntmps182
    go_wp2_with fail
    refine (H1.out _).mono ?_
    rintro e W ⟨rfl, rfl⟩
    go_wp2_with fail
    go_ret
    exact ⟨rfl, rfl⟩
  · rw [if_neg (by decide), if_pos (.inl rfl)]
    go_enter Tryz.func182, Tryz.ntmps182
    go_wp2_with fail
    refine (H2.out _).mono ?_
    rintro e W ⟨rfl, rfl⟩
    go_wp2_with fail
    go_ret
    exact ⟨rfl, rfl⟩
  · rw [if_neg (by decide), if_pos (.inr rfl)]
    go_enter Tryz.func182, Tryz.ntmps182
    go_wp2_with fail
    refine (H2.out _).mono ?_
    rintro e W ⟨rfl, rfl⟩
    go_wp2_with fail
    go_ret
    exact ⟨rfl, rfl⟩
  · rw [if_neg n1, if_neg (by omega)]
    have t0 : ((L : Int) == 65) = false := by rw [beq_eq_false_iff_ne]; omega
    have t1 : ((L : Int) == 88) = false := by rw [beq_eq_false_iff_ne]; omega
    have t2 : ((L : Int) == 89) = false := by rw [beq_eq_false_iff_ne]; omega
    go_enter Tryz.func182, Tryz.ntmps182
    go_wp2_with fail
    go_ret
    exact ⟨rfl, rfl⟩
/-- Where the register with a letter stands. -/
def placeF (L : Nat) : Nat := if L = 88 then 1 else if L = 89 then 2 else if L = 83 then 3 else if L = 68 then 4 else 0
theorem placeF_lt (L : Nat) : placeF L < 5 := by unfold placeF; (repeat' split) <;> decide
theorem place_any {b L : Nat} (w : World) (hL : L < 256) :
    Calls Tryz.prog 189 #[.pointer (some ⟨b, 0, none⟩), .int .u8 (L : Nat)] w fun e w' => e = .returned (.pointer (some ⟨b, placeF L, none⟩)) ∧ w = w' := by
  unfold placeF
  rcases (show L = 88 ∨ L = 89 ∨ L = 83 ∨ L = 68 ∨ (L ≠ 88 ∧ L ≠ 89 ∧ L ≠ 83 ∧ L ≠ 68) by omega) with rfl | rfl | rfl | rfl | ⟨n1, n2, n3, n4⟩
  · rw [if_pos rfl]
    go_enter Tryz.func189, Tryz.ntmps189
    go_wp2_with fail
    go_ret
    exact ⟨rfl, rfl⟩
  · rw [if_neg (by decide), if_pos rfl]
    go_enter Tryz.func189, Tryz.ntmps189
    go_wp2_with fail
    go_ret
    exact ⟨rfl, rfl⟩
  · rw [if_neg (by decide), if_neg (by decide), if_pos rfl]
    go_enter Tryz.func189, Tryz.ntmps189
    go_wp2_with fail
    go_ret
    exact ⟨rfl, rfl⟩
  · rw [if_neg (by decide), if_neg (by decide), if_neg (by decide), if_pos rfl]
    go_enter Tryz.func189, Tryz.ntmps189
    go_wp2_with fail
    go_ret
    exact ⟨rfl, rfl⟩
  · rw [if_neg n1, if_neg n2, if_neg n3, if_neg n4]
    have t0 : ((L : Int) == 88) = false := by rw [beq_eq_false_iff_ne]; omega
    have t1 : ((L : Int) == 89) = false := by rw [beq_eq_false_iff_ne]; omega
    have t2 : ((L : Int) == 83) = false := by rw [beq_eq_false_iff_ne]; omega
    have t3 : ((L : Int) == 68) = false := by rw [beq_eq_false_iff_ne]; omega
    go_enter Tryz.func189, Tryz.ntmps189
    go_wp2_with fail
    go_ret
    exact ⟨rfl, rfl⟩
/-- A register by its place, and turned. -/
def Rg.ix (r : Rg) (i : Nat) : Nat := if i = 1 then r.X else if i = 2 then r.Y else if i = 3 then r.S else if i = 4 then r.D else r.A
def Rg.st (r : Rg) (i v : Nat) : Rg := if i = 1 then ⟨r.A, v, r.Y, r.S, r.D, r.PC, r.B, r.K, r.P, r.E⟩ else if i = 2 then ⟨r.A, r.X, v, r.S, r.D, r.PC, r.B, r.K, r.P, r.E⟩ else if i = 3 then ⟨r.A, r.X, r.Y, v, r.D, r.PC, r.B, r.K, r.P, r.E⟩ else if i = 4 then ⟨r.A, r.X, r.Y, r.S, v, r.PC, r.B, r.K, r.P, r.E⟩ else ⟨v, r.X, r.Y, r.S, r.D, r.PC, r.B, r.K, r.P, r.E⟩
theorem Rg.ix_lt {r : Rg} (h : r.Ok) (i : Nat) : r.ix i < 65536 := by
  unfold Rg.ix
  repeat' split
  · exact h.X
  · exact h.Y
  · exact h.S
  · exact h.D
  · exact h.A
theorem Rg.st_ok {r : Rg} (h : r.Ok) (i v : Nat) (hv : v < 65536) : (r.st i v).Ok := by
  unfold Rg.st
  repeat' split
  · exact ⟨h.A, hv, h.Y, h.S, h.D, h.PC, h.B, h.K, h.P⟩
  · exact ⟨h.A, h.X, hv, h.S, h.D, h.PC, h.B, h.K, h.P⟩
  · exact ⟨h.A, h.X, h.Y, hv, h.D, h.PC, h.B, h.K, h.P⟩
  · exact ⟨h.A, h.X, h.Y, h.S, hv, h.PC, h.B, h.K, h.P⟩
  · exact ⟨hv, h.X, h.Y, h.S, h.D, h.PC, h.B, h.K, h.P⟩
theorem Xk.ix {W0 w : World} {B b : Nat} {s : Xs} (h : Xk W0 B b s w) (i : Nat) (hi : i < 5) : w.cell? ⟨b, i, none⟩ = some (.int .u16 (s.r.ix i : Nat)) ∧ w.frozen? ⟨b, i, none⟩ = false := by
  obtain ⟨⟨h0, h1, h2, h3, h4⟩, _, hf⟩ := h.look
  refine ⟨?_, hf i⟩
  rcases (show i = 0 ∨ i = 1 ∨ i = 2 ∨ i = 3 ∨ i = 4 by omega) with rfl | rfl | rfl | rfl | rfl
  · exact h0
  · exact h1
  · exact h2
  · exact h3
  · exact h4
theorem Xk.stx {W0 w : World} {B b : Nat} {s : Xs} (h : Xk W0 B b s w) (i v : Nat) (hi : i < 5) (hv : v < 65536) : Xk W0 B b { s with r := s.r.st i v } (w.setCell ⟨b, i, none⟩ (.int .u16 (v : Nat))) := by
  refine h.reg i (.int .u16 (v : Nat)) (s.r.st i v) (Rg.st_ok h.ok i v hv) ?_
  intro sv lv
  rcases (show i = 0 ∨ i = 1 ∨ i = 2 ∨ i = 3 ∨ i = 4 by omega) with rfl | rfl | rfl | rfl | rfl <;> rfl
theorem and_high (a : Nat) (ha : a < 65536) : a &&& 65280 = a / 256 * 256 := by
  have e : a / 256 * 256 = (a >>> 8) <<< 8 := by rw [Nat.shiftRight_eq_div_pow, Nat.shiftLeft_eq]
  rw [e]
  apply Nat.eq_of_testBit_eq
  intro i
  rw [Nat.testBit_and, Nat.testBit_shiftLeft, Nat.testBit_shiftRight]
  by_cases hi : i < 16
  · have hd : ∀ i, i < 16 → Nat.testBit 65280 i = decide (8 ≤ i) := by decide
    rw [hd i hi]
    by_cases h8 : 8 ≤ i
    · rw [decide_eq_true h8, show 8 + (i - 8) = i by omega]
      simp
      try omega
    · rw [decide_eq_false h8]
      simp
      try omega
  · have h1 : a.testBit i = false := Nat.testBit_lt_two_pow (Nat.lt_of_lt_of_le ha (show 2 ^ 16 ≤ 2 ^ i from Nat.pow_le_pow_right (by decide) (by omega)))
    rw [h1, show 8 + (i - 8) = i by omega, h1]
    simp
/-- What is laid into a register. -/
def layF (old v : Nat) (wide : Bool) : Nat := if wide then v else old / 256 * 256 + v % 256
theorem layF_lt (old v : Nat) (wide : Bool) (ho : old < 65536) (hv : v < 65536) : layF old v wide < 65536 := by
  unfold layF
  split <;> omega
def layX (L v : Nat) : X Unit := setX fun r => r.st (placeF L) (layF (r.ix (placeF L)) v (wideU L r.P))
theorem lay_any {W0 w : World} {B b L v : Nat} {s : Xs} (h : Xk W0 B b s w) (hL : L < 256) (hv : v < 65536) :
    Calls Tryz.prog 187 #[.pointer (some ⟨b, 0, none⟩), .int .u8 (L : Nat), .int .u16 (v : Nat)] w fun e w' => e = .returned (.tuple #[]) ∧ Xk W0 B b (layX L v s).2 w' ∧ Keeps b w w' := by
  have HP := Lib.hid (fun W => place_any (b := b) (L := L) W hL)
  have HW := Lib.hid (uwide_any h hL)
  have hi := placeF_lt L
  obtain ⟨c0, f0⟩ := h.ix (placeF L) hi
  have ho := Rg.ix_lt h.ok (placeF L)
  rw [show (layX L v s).2 = { s with r := s.r.st (placeF L) (layF (s.r.ix (placeF L)) v (wideU L s.r.P)) } from rfl]
  generalize wideU L s.r.P = wd at *
  have hz := layF_lt (s.r.ix (placeF L)) v wd ho hv
  have e1 := u16_and_nat (s.r.ix (placeF L)) 65280 ho (by decide)
  rw [and_high _ ho] at e1
  have e2 := u16_and_nat v 255 hv (by decide)
  rw [show v &&& 255 = v % 256 from Nat.and_two_pow_sub_one_eq_mod v 8] at e2
  have e3 := u16_or_nat (s.r.ix (placeF L) / 256 * 256) (v % 256) (by omega) (by omega)
  rw [nat_join 8 (s.r.ix (placeF L) / 256 * 256) (v % 256) (Nat.mul_mod_left _ _) (by omega)] at e3
  have hfin := Lib.hid (And.intro (h.stx (placeF L) (layF (s.r.ix (placeF L)) v wd) hi hz) ((Keeps.refl b w).set (placeF L) (.int .u16 ((layF (s.r.ix (placeF L)) v wd : Nat) : Nat))))
  unfold layF at hfin ⊢
  simp only [show ((65280 : Nat) : Int) = 65280 from rfl, show ((255 : Nat) : Int) = 255 from rfl] at e1 e2
  generalize s.r.ix (placeF L) / 256 * 256 = hi8 at *
  have e4 : (v : Int) % 256 = ((v % 256 : Nat) : Int) := by omega
  generalize v % 256 = lo8 at *
  generalize s.r.ix (placeF L) = old at *
  generalize placeF L = i at *
  clear h hL hv hi ho hz
  cases wd with
  | true =>
    rw [if_pos rfl] at hfin ⊢
    go_enter Tryz.func187, Tryz.ntmps187
    go_wp2_with fail
    refine (HP.out _).mono ?_
    rintro e W ⟨rfl, rfl⟩
    go_wp2_with fail
    refine HW.out.mono ?_
    rintro e W ⟨rfl, rfl⟩
    go_wp2_with fail
    go_end0
    exact ⟨rfl, hfin.out⟩
  | false =>
    rw [if_neg (by decide)] at hfin ⊢
    obtain ⟨z, hz⟩ : ∃ z, hi8 + lo8 = z := ⟨_, rfl⟩
    rw [hz] at hfin e3
    replace hz := Lib.hid hz
    go_enter Tryz.func187, Tryz.ntmps187
    go_wp2_with fail
    refine (HP.out _).mono ?_
    rintro e W ⟨rfl, rfl⟩
    go_wp2_with fail
    refine HW.out.mono ?_
    rintro e W ⟨rfl, rfl⟩
    go_wp2_with fail
    go_end0
    exact ⟨rfl, by rw [hz.out]; exact hfin.out⟩
end Go.Proofs.YtnacdaodjgdnnaaGreat
namespace Go.Proofs.YtnacdaodjgdnnaaGreat
open Go.RowKit Go.Shelf
set_option maxRecDepth 100000
set_option maxHeartbeats 1000000
set_option linter.unusedVariables false

def workX (op a b : Nat) (wd : Bool) : X Nat := fun s => ((Au.aluF op a b s.r.P wd).1, { s with r := s.r.p (Au.aluF op a b s.r.P wd).2 })
theorem Xk.setP {W0 w : World} {B b : Nat} {s : Xs} (h : Xk W0 B b s w) (x : Nat) (hx : x < 256) : Xk W0 B b { s with r := s.r.p x } (w.setCell ⟨b, 8, none⟩ (.int .u8 (x : Nat))) := by
  have ok := h.ok
  exact h.reg 8 (.int .u8 (x : Nat)) (s.r.p x) ⟨ok.A, ok.X, ok.Y, ok.S, ok.D, ok.PC, ok.B, ok.K, hx⟩ (fun _ _ => rfl)
theorem work_any {W0 w : World} {B b op x y : Nat} {wd : Bool} {s : Xs} (h : Xk W0 B b s w) (hop : op ≤ 16) (hx : x < 65536) (hy : y < 65536) :
    Calls Tryz.prog 188 #[.pointer (some ⟨b, 0, none⟩), .int .u8 (op : Nat), .int .u16 (x : Nat), .int .u16 (y : Nat), .bool wd] w fun e w' => e = .returned (.int .u16 ((workX op x y wd s).1 : Nat)) ∧ Xk W0 B b (workX op x y wd s).2 w' ∧ Keeps b w w' ∧ (workX op x y wd s).1 < 65536 := by
  have hP := h.ok.P
  have c8 := h.look.2.1.2.2.2.1
  have HD := Lib.hid (fun W => Au.do_any op x y s.r.P wd W hop hx hy hP)
  obtain ⟨l1, l2⟩ := Au.aluF_lt op x y s.r.P wd
  unfold workX
  generalize Au.aluF op x y s.r.P wd = p at *
  obtain ⟨X, F⟩ := p
  dsimp only at *
  have hh := Lib.hid h
  have hst := Lib.hid fun (W : World) (hW : Xk W0 B b s W) => And.intro (hW.look.2.1.2.2.2.1) (And.intro (hW.look.2.2 8) (And.intro (hW.setP F l2) ((Keeps.refl b W).set 8 (.int .u8 (F : Nat)))))
  replace l1 := Lib.hid l1
  clear h hop hx hy l2 hP
  generalize s.r.P = P at *
  go_enter Tryz.func188, Tryz.ntmps188
  go_wp2_with fail
  refine (HD.out _).mono ?_
  rintro e W1 ⟨rfl, hb⟩
  have h1 := hh.out.below hb
  have k1 := Keeps.below (b := b) hb
  obtain ⟨d8, f8, h2, k2⟩ := hst.out _ h1
  replace k2 := Lib.hid (k1.trans k2)
  replace h2 := Lib.hid h2
  clear HD hst hb h1 k1 c8 hh
  go_wp2_with fail
  go_ret
  exact ⟨rfl, h2.out, k2.out, l1.out⟩
theorem put_cd (s : Xs) (k a v : Nat) : (s.put k a v).cd = s.cd ∧ (s.put k a v).af = s.af := by
  unfold Xs.put
  split <;> exact ⟨rfl, rfl⟩
theorem read_cd (a : Nat) (s : Xs) : (readX a s).2.cd = s.cd ∧ (readX a s).2.af = s.af := by
  unfold readX takeX
  split <;> exact put_cd s _ _ _
theorem num_cd {F : Nat → X Nat} (h : ∀ i s, (F i s).2.cd = s.cd ∧ (F i s).2.af = s.af) : ∀ m s, (numX F m s).2.cd = s.cd ∧ (numX F m s).2.af = s.af
  | 0, s => ⟨rfl, rfl⟩
  | k + 1, s => by
    show (F k (numX F k s).2).2.cd = s.cd ∧ (F k (numX F k s).2).2.af = s.af
    rw [(h k _).1, (h k _).2]
    exact num_cd h k s
theorem fetch1_cd (s : Xs) : (fetch1X s).2.cd = s.cd ∧ (fetch1X s).2.af = s.af := by
  rw [xfetch1_eq]
  exact read_cd _ s
theorem fetch_cd (m : Nat) (s : Xs) : (fetchX m s).2.cd = s.cd := (num_cd (fun i s => fetch1_cd s) m s).1
/-- A number of the program is taken and worked in. -/
def takeImmX (L op : Nat) : X Unit := fun s =>
  let q := fetchX (if wideU L s.r.P then 2 else 1) s
  let z := workX (if op = 6 then 16 else op) (q.2.r.ix (placeF L)) q.1 (wideU L s.r.P) q.2
  layX L z.1 z.2
theorem take_imm {W0 w : World} {B b L op : Nat} {s : Xs} (h : Xk W0 B b s w) (hl : s.l.length ≤ 90) (hL : L < 256) (hop : op ≤ 16) (hm : s.cd.2.2.1 = 2)
    (HR : ∀ W, Calls Tryz.prog 180 #[.string s.cd.2.1] W fun e w' => e = .returned (.int .u8 (L : Nat)) ∧ W = w')
    (HO : ∀ W, Calls Tryz.prog 181 #[.string s.cd.2.1] W fun e w' => e = .returned (.int .u8 (op : Nat)) ∧ W = w') :
    Calls Tryz.prog 112 #[.pointer (some ⟨b, 0, none⟩)] w fun e w' => e = .returned (.tuple #[]) ∧ Xk W0 B b (takeImmX L op s).2 w' ∧ Keeps b w w' := by
  have hcd := fun (W : World) (s' : Xs) (hW : Xk W0 B b s' W) => (show W.cell? ⟨b, 14, none⟩ = some (.string s'.cd.2.1) ∧ W.cell? ⟨b, 15, none⟩ = some (.int .u8 (s'.cd.2.2.1 : Nat)) from by
    obtain ⟨a, c, lv, h1, _⟩ := hW.cells
    rw [h1.cell, h1.cell]
    exact ⟨rfl, rfl⟩)
  have hd := h.drew
  obtain ⟨c14, c15⟩ := hcd _ _ hd
  have kd : Keeps b w w.drew := Keeps.below (Below.drew (Below.refl _ _))
  have HW := fun W (hW : Xk W0 B b s W) => uwide_any (L := L) hW hL
  rw [show (takeImmX L op s).2 = (layX L (workX (if op = 6 then 16 else op) ((fetchX (if wideU L s.r.P then 2 else 1) s).2.r.ix (placeF L)) (fetchX (if wideU L s.r.P then 2 else 1) s).1 (wideU L s.r.P) (fetchX (if wideU L s.r.P then 2 else 1) s).2).1 (workX (if op = 6 then 16 else op) ((fetchX (if wideU L s.r.P then 2 else 1) s).2.r.ix (placeF L)) (fetchX (if wideU L s.r.P then 2 else 1) s).1 (wideU L s.r.P) (fetchX (if wideU L s.r.P then 2 else 1) s).2).2).2 from rfl]
  have HF1 := fun W (hW : Xk W0 B b s W) => fetchByte_any hW (by omega)
  have HF2 := fun W (hW : Xk W0 B b s W) => fetchWord_any hW (by omega)
  have hcdf : ∀ m, (fetchX m s).2.cd = s.cd := fun m => fetch_cd m s
  obtain ⟨wd, hwd⟩ : ∃ wd, wideU L s.r.P = wd := ⟨_, rfl⟩
  rw [hwd] at HW ⊢
  obtain ⟨op', hop'⟩ : ∃ op', (if op = 6 then 16 else op) = op' := ⟨_, rfl⟩
  rw [hop']
  have hop2 : op' ≤ 16 := by rw [← hop']; split <;> omega
  have HP := fun W => place_any (b := b) (L := L) W hL
  have hpl := placeF_lt L
  have hix := fun (W : World) (s' : Xs) (hW : Xk W0 B b s' W) => And.intro (hW.ix (placeF L) hpl).1 (Rg.ix_lt hW.ok (placeF L))
  have HK := fun (W : World) (s' : Xs) (y : Nat) (hy : y < 65536) (hW : Xk W0 B b s' W) => work_any (op := op') (x := s'.r.ix (placeF L)) (y := y) (wd := wd) hW hop2 (Rg.ix_lt hW.ok (placeF L)) hy
  have HY := fun (W : World) (s' : Xs) (v : Nat) (hv : v < 65536) (hW : Xk W0 B b s' W) => lay_any (L := L) (v := v) hW hL hv
  generalize placeF L = pi at *
  replace HR := Lib.hid HR
  replace HO := Lib.hid HO
  replace HW := Lib.hid HW
  replace HF1 := Lib.hid HF1
  replace HF2 := Lib.hid HF2
  replace HP := Lib.hid HP
  replace HK := Lib.hid HK
  replace HY := Lib.hid HY
  replace hix := Lib.hid hix
  replace hcd := Lib.hid hcd
  replace hcdf := Lib.hid hcdf
  replace kd := Lib.hid kd
  replace hd := Lib.hid hd
  replace hop' := Lib.hid hop'
  replace hm := Lib.hid hm
  rw [hm.out] at c15
  clear h hl hL hop hop2 hpl hwd
  generalize s.cd.2.1 = nm at *
  cases wd with
  | false =>
    by_cases h6 : op = 6
    · subst h6
      rw [show (if (false : Bool) = true then 2 else 1 : Nat) = 1 from rfl]
      have hopv : 16 = op' := by rw [← hop'.out, if_pos rfl]
      obtain ⟨qv, hq⟩ : ∃ q, fetchX 1 s = q := ⟨_, rfl⟩
      obtain ⟨v, s1⟩ := qv
      have hcd1 := hcdf.out 1
      rw [hq] at HF1 hcd1 ⊢
      dsimp only at HF1 hcd1 ⊢
      have HK1 := fun (W : World) (hv : v < 65536) (hW : Xk W0 B b s1 W) => HK.out W s1 v hv hW
      generalize workX op' (s1.r.ix pi) v false s1 = z at *
      obtain ⟨x, s2⟩ := z
      dsimp only at *
      have HY1 := fun (W : World) (hx : x < 65536) (hW : Xk W0 B b s2 W) => HY.out W s2 x hx hW
      generalize (layX L x s2).2 = s3 at *
      replace HK1 := Lib.hid HK1
      replace HY1 := Lib.hid HY1
      replace hq := Lib.hid hq
      replace hcd1 := Lib.hid hcd1
      clear HK HY hcdf
      subst hopv
      clear HF2
      go_enter Tryz.func112, Tryz.ntmps112
      go_upto_region 0 with (fail)
      go_region_held3 (fun V => V.cell? ⟨b, 14, none⟩ = some (.string nm))
        (first | with_reducible exact c14 | go_keep)
        (first
          | (go_at_call 180; (with_reducible refine (HR.out _).mono ?_); rintro e W1 ⟨rfl, rfl⟩)
          | (go_at_call 181; (with_reducible refine (HO.out _).mono ?_); rintro e W1 ⟨rfl, rfl⟩))
      generalize w.drew = W1 at *
      clear HR HO c14
      go_wp2_with fail
      refine (HW.out _ hd.out).mono ?_
      rintro e W ⟨rfl, rfl⟩
      clear HW
      go_wp2_with fail
      refine (HF1.out _ hd.out).mono ?_
      rintro e W2 ⟨rfl, h2, k2, hv⟩
      have c15b := (hcd.out _ _ h2).2
      rw [hcd1.out, hm.out] at c15b
      have k3 := Lib.hid (kd.out.trans k2)
      obtain ⟨ci, hci⟩ := hix.out _ _ h2
      have hvl : v < 65536 := by omega
      have evw : IntKind.u16.wrap (v : Int) = (v : Int) := by rw [IntKind.wrap_u16]; omega
      have HKa := Lib.hid (HK1.out W2 hvl h2)
      clear HF1 hd kd k2 h2 HK1 hvl hcd hix c15 hv
      go_wp2_with fail
      refine (HP.out _).mono ?_
      rintro e W ⟨rfl, rfl⟩
      clear HP
      go_wp2_with fail
      refine HKa.out.mono ?_
      rintro e W4 ⟨rfl, h4, k4, hx⟩
      have HYa := Lib.hid (HY1.out W4 hx h4)
      have k5 := Lib.hid (k3.out.trans k4)
      clear HKa HY1 h4 k4 hx k3 ci c15b
      go_wp2_with fail
      refine HYa.out.mono ?_
      rintro e W5 ⟨rfl, h5, k6⟩
      replace h5 := Lib.hid h5
      replace k6 := Lib.hid (k5.out.trans k6)
      clear HYa k5
      go_wp2_with fail
      go_end0
      exact ⟨rfl, h5.out, k6.out⟩
    · have t6 : ((op : Int) == 6) = false := by rw [beq_eq_false_iff_ne]; omega
      rw [show (if (false : Bool) = true then 2 else 1 : Nat) = 1 from rfl]
      have hopv : op = op' := by rw [← hop'.out, if_neg h6]
      obtain ⟨qv, hq⟩ : ∃ q, fetchX 1 s = q := ⟨_, rfl⟩
      obtain ⟨v, s1⟩ := qv
      have hcd1 := hcdf.out 1
      rw [hq] at HF1 hcd1 ⊢
      dsimp only at HF1 hcd1 ⊢
      have HK1 := fun (W : World) (hv : v < 65536) (hW : Xk W0 B b s1 W) => HK.out W s1 v hv hW
      generalize workX op' (s1.r.ix pi) v false s1 = z at *
      obtain ⟨x, s2⟩ := z
      dsimp only at *
      have HY1 := fun (W : World) (hx : x < 65536) (hW : Xk W0 B b s2 W) => HY.out W s2 x hx hW
      generalize (layX L x s2).2 = s3 at *
      replace HK1 := Lib.hid HK1
      replace HY1 := Lib.hid HY1
      replace hq := Lib.hid hq
      replace hcd1 := Lib.hid hcd1
      clear HK HY hcdf
      subst hopv
      clear h6
      clear HF2
      go_enter Tryz.func112, Tryz.ntmps112
      go_upto_region 0 with (fail)
      go_region_held3 (fun V => V.cell? ⟨b, 14, none⟩ = some (.string nm))
        (first | with_reducible exact c14 | go_keep)
        (first
          | (go_at_call 180; (with_reducible refine (HR.out _).mono ?_); rintro e W1 ⟨rfl, rfl⟩)
          | (go_at_call 181; (with_reducible refine (HO.out _).mono ?_); rintro e W1 ⟨rfl, rfl⟩))
      generalize w.drew = W1 at *
      clear HR HO c14
      go_wp2_with fail
      refine (HW.out _ hd.out).mono ?_
      rintro e W ⟨rfl, rfl⟩
      clear HW
      go_wp2_with fail
      refine (HF1.out _ hd.out).mono ?_
      rintro e W2 ⟨rfl, h2, k2, hv⟩
      have c15b := (hcd.out _ _ h2).2
      rw [hcd1.out, hm.out] at c15b
      have k3 := Lib.hid (kd.out.trans k2)
      obtain ⟨ci, hci⟩ := hix.out _ _ h2
      have hvl : v < 65536 := by omega
      have evw : IntKind.u16.wrap (v : Int) = (v : Int) := by rw [IntKind.wrap_u16]; omega
      have HKa := Lib.hid (HK1.out W2 hvl h2)
      clear HF1 hd kd k2 h2 HK1 hvl hcd hix c15 hv
      go_wp2_with fail
      refine (HP.out _).mono ?_
      rintro e W ⟨rfl, rfl⟩
      clear HP
      go_wp2_with fail
      refine HKa.out.mono ?_
      rintro e W4 ⟨rfl, h4, k4, hx⟩
      have HYa := Lib.hid (HY1.out W4 hx h4)
      have k5 := Lib.hid (k3.out.trans k4)
      clear HKa HY1 h4 k4 hx k3 ci c15b
      go_wp2_with fail
      refine HYa.out.mono ?_
      rintro e W5 ⟨rfl, h5, k6⟩
      replace h5 := Lib.hid h5
      replace k6 := Lib.hid (k5.out.trans k6)
      clear HYa k5
      go_wp2_with fail
      go_end0
      exact ⟨rfl, h5.out, k6.out⟩
  | true =>
    by_cases h6 : op = 6
    · subst h6
      rw [show (if (true : Bool) = true then 2 else 1 : Nat) = 2 from rfl]
      have hopv : 16 = op' := by rw [← hop'.out, if_pos rfl]
      obtain ⟨qv, hq⟩ : ∃ q, fetchX 2 s = q := ⟨_, rfl⟩
      obtain ⟨v, s1⟩ := qv
      have hcd1 := hcdf.out 2
      rw [hq] at HF2 hcd1 ⊢
      dsimp only at HF2 hcd1 ⊢
      have HK1 := fun (W : World) (hv : v < 65536) (hW : Xk W0 B b s1 W) => HK.out W s1 v hv hW
      generalize workX op' (s1.r.ix pi) v true s1 = z at *
      obtain ⟨x, s2⟩ := z
      dsimp only at *
      have HY1 := fun (W : World) (hx : x < 65536) (hW : Xk W0 B b s2 W) => HY.out W s2 x hx hW
      generalize (layX L x s2).2 = s3 at *
      replace HK1 := Lib.hid HK1
      replace HY1 := Lib.hid HY1
      replace hq := Lib.hid hq
      replace hcd1 := Lib.hid hcd1
      clear HK HY hcdf
      subst hopv
      clear HF1
      go_enter Tryz.func112, Tryz.ntmps112
      go_upto_region 0 with (fail)
      go_region_held3 (fun V => V.cell? ⟨b, 14, none⟩ = some (.string nm))
        (first | with_reducible exact c14 | go_keep)
        (first
          | (go_at_call 180; (with_reducible refine (HR.out _).mono ?_); rintro e W1 ⟨rfl, rfl⟩)
          | (go_at_call 181; (with_reducible refine (HO.out _).mono ?_); rintro e W1 ⟨rfl, rfl⟩))
      generalize w.drew = W1 at *
      clear HR HO c14
      go_wp2_with fail
      refine (HW.out _ hd.out).mono ?_
      rintro e W ⟨rfl, rfl⟩
      clear HW
      go_wp2_with fail
      refine (HF2.out _ hd.out).mono ?_
      rintro e W2 ⟨rfl, h2, k2, hv⟩
      have c15b := (hcd.out _ _ h2).2
      rw [hcd1.out, hm.out] at c15b
      have k3 := Lib.hid (kd.out.trans k2)
      obtain ⟨ci, hci⟩ := hix.out _ _ h2
      have hvl : v < 65536 := by omega
      have evw : IntKind.u16.wrap (v : Int) = (v : Int) := by rw [IntKind.wrap_u16]; omega
      have HKa := Lib.hid (HK1.out W2 hvl h2)
      clear HF2 hd kd k2 h2 HK1 hvl hcd hix c15 hv
      go_wp2_with fail
      refine (HP.out _).mono ?_
      rintro e W ⟨rfl, rfl⟩
      clear HP
      go_wp2_with fail
      refine HKa.out.mono ?_
      rintro e W4 ⟨rfl, h4, k4, hx⟩
      have HYa := Lib.hid (HY1.out W4 hx h4)
      have k5 := Lib.hid (k3.out.trans k4)
      clear HKa HY1 h4 k4 hx k3 ci c15b
      go_wp2_with fail
      refine HYa.out.mono ?_
      rintro e W5 ⟨rfl, h5, k6⟩
      replace h5 := Lib.hid h5
      replace k6 := Lib.hid (k5.out.trans k6)
      clear HYa k5
      go_wp2_with fail
      go_end0
      exact ⟨rfl, h5.out, k6.out⟩
    · have t6 : ((op : Int) == 6) = false := by rw [beq_eq_false_iff_ne]; omega
      rw [show (if (true : Bool) = true then 2 else 1 : Nat) = 2 from rfl]
      have hopv : op = op' := by rw [← hop'.out, if_neg h6]
      obtain ⟨qv, hq⟩ : ∃ q, fetchX 2 s = q := ⟨_, rfl⟩
      obtain ⟨v, s1⟩ := qv
      have hcd1 := hcdf.out 2
      rw [hq] at HF2 hcd1 ⊢
      dsimp only at HF2 hcd1 ⊢
      have HK1 := fun (W : World) (hv : v < 65536) (hW : Xk W0 B b s1 W) => HK.out W s1 v hv hW
      generalize workX op' (s1.r.ix pi) v true s1 = z at *
      obtain ⟨x, s2⟩ := z
      dsimp only at *
      have HY1 := fun (W : World) (hx : x < 65536) (hW : Xk W0 B b s2 W) => HY.out W s2 x hx hW
      generalize (layX L x s2).2 = s3 at *
      replace HK1 := Lib.hid HK1
      replace HY1 := Lib.hid HY1
      replace hq := Lib.hid hq
      replace hcd1 := Lib.hid hcd1
      clear HK HY hcdf
      subst hopv
      clear h6
      clear HF1
      go_enter Tryz.func112, Tryz.ntmps112
      go_upto_region 0 with (fail)
      go_region_held3 (fun V => V.cell? ⟨b, 14, none⟩ = some (.string nm))
        (first | with_reducible exact c14 | go_keep)
        (first
          | (go_at_call 180; (with_reducible refine (HR.out _).mono ?_); rintro e W1 ⟨rfl, rfl⟩)
          | (go_at_call 181; (with_reducible refine (HO.out _).mono ?_); rintro e W1 ⟨rfl, rfl⟩))
      generalize w.drew = W1 at *
      clear HR HO c14
      go_wp2_with fail
      refine (HW.out _ hd.out).mono ?_
      rintro e W ⟨rfl, rfl⟩
      clear HW
      go_wp2_with fail
      refine (HF2.out _ hd.out).mono ?_
      rintro e W2 ⟨rfl, h2, k2, hv⟩
      have c15b := (hcd.out _ _ h2).2
      rw [hcd1.out, hm.out] at c15b
      have k3 := Lib.hid (kd.out.trans k2)
      obtain ⟨ci, hci⟩ := hix.out _ _ h2
      have hvl : v < 65536 := by omega
      have evw : IntKind.u16.wrap (v : Int) = (v : Int) := by rw [IntKind.wrap_u16]; omega
      have HKa := Lib.hid (HK1.out W2 hvl h2)
      clear HF2 hd kd k2 h2 HK1 hvl hcd hix c15 hv
      go_wp2_with fail
      refine (HP.out _).mono ?_
      rintro e W ⟨rfl, rfl⟩
      clear HP
      go_wp2_with fail
      refine HKa.out.mono ?_
      rintro e W4 ⟨rfl, h4, k4, hx⟩
      have HYa := Lib.hid (HY1.out W4 hx h4)
      have k5 := Lib.hid (k3.out.trans k4)
      clear HKa HY1 h4 k4 hx k3 ci c15b
      go_wp2_with fail
      refine HYa.out.mono ?_
      rintro e W5 ⟨rfl, h5, k6⟩
      replace h5 := Lib.hid h5
      replace k6 := Lib.hid (k5.out.trans k6)
      clear HYa k5
      go_wp2_with fail
      go_end0
      exact ⟨rfl, h5.out, k6.out⟩
end Go.Proofs.YtnacdaodjgdnnaaGreat
