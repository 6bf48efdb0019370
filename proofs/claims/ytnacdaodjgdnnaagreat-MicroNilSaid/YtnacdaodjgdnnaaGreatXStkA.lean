/-
  A runner's registers, flags and stack.
-/
import Derived.Test.YtnacdaodjgdnnaaGreatXA
namespace Go.Proofs.YtnacdaodjgdnnaaGreat
open Go.RowKit Go.Shelf
set_option maxRecDepth 100000
set_option maxHeartbeats 1000000
set_option linter.unusedVariables false

/-- One register turned. -/
theorem Xk.reg {W0 w : World} {B b : Nat} {s : Xs} (h : Xk W0 B b s w) (i : Nat) (v : Value) (r' : Rg) (hok : r'.Ok) (he : ∀ sv lv, (rnC s.r sv lv s.st s.cd s.af).setIfInBounds i v = rnC r' sv lv s.st s.cd s.af) :
    Xk W0 B b { s with r := r' } (w.setCell ⟨b, i, none⟩ v) := by
  obtain ⟨a, c, lv, h1, h2, h3, h4⟩ := h.cells
  exact ⟨hok, ⟨a, c, lv, by have := h1.put i v; rw [he] at this; exact this, h2, h3, row_put h4 (p := ⟨b, i, none⟩) (own_apart h4 h1 (by decide)) _⟩, h.here, h.bel.setCell (p := ⟨b, i, none⟩) h.here _, h.base⟩
/-- Which cells a runner has. -/
theorem Xk.look {W0 w : World} {B b : Nat} {s : Xs} (h : Xk W0 B b s w) : (w.cell? ⟨b, 0, none⟩ = some (.int .u16 s.r.A) ∧ w.cell? ⟨b, 1, none⟩ = some (.int .u16 s.r.X) ∧ w.cell? ⟨b, 2, none⟩ = some (.int .u16 s.r.Y) ∧ w.cell? ⟨b, 3, none⟩ = some (.int .u16 s.r.S) ∧ w.cell? ⟨b, 4, none⟩ = some (.int .u16 s.r.D)) ∧ (w.cell? ⟨b, 5, none⟩ = some (.int .u16 s.r.PC) ∧ w.cell? ⟨b, 6, none⟩ = some (.int .u8 s.r.B) ∧ w.cell? ⟨b, 7, none⟩ = some (.int .u8 s.r.K) ∧ w.cell? ⟨b, 8, none⟩ = some (.int .u8 s.r.P) ∧ w.cell? ⟨b, 9, none⟩ = some (.bool s.r.E)) ∧ ∀ i, w.frozen? ⟨b, i, none⟩ = false := by
  obtain ⟨a, c, lv, h1, h2, h3, h4⟩ := h.cells
  rw [h1.cell, h1.cell, h1.cell, h1.cell, h1.cell, h1.cell, h1.cell, h1.cell, h1.cell, h1.cell]
  exact ⟨⟨rfl, rfl, rfl, rfl, rfl⟩, ⟨rfl, rfl, rfl, rfl, rfl⟩, fun i => h1.free i⟩
def stackF (S d : Nat) (E : Bool) : Nat := if E then 256 + (S + d) % 65536 % 256 else (S + d) % 65536
def moveX (d : Nat) : X Unit := setX fun r => { r with S := stackF r.S d r.E }
theorem stackF_lt (S d : Nat) (E : Bool) : stackF S d E < 65536 := by
  unfold stackF
  cases E
  · exact Nat.mod_lt _ (by decide)
  · show 256 + _ < 65536
    have := Nat.mod_lt ((S + d) % 65536) (show 0 < 256 by decide)
    omega
theorem moveStack_any {W0 w : World} {B b d : Nat} {s : Xs} (h : Xk W0 B b s w) (hd : d < 65536) :
    Calls Tryz.prog 251 #[.pointer (some ⟨b, 0, none⟩), .int .u16 (d : Nat)] w fun e w' => e = .returned (.tuple #[]) ∧ Xk W0 B b (moveX d s).2 w' ∧ Keeps b w w' := by
  have ok := h.ok
  obtain ⟨⟨_, _, _, c3, _⟩, ⟨_, _, _, _, c9⟩, hf⟩ := h.look
  have f3 := hf 3
  have hS := ok.S
  obtain ⟨v, hv⟩ : ∃ v, (s.r.S + d) % 65536 = v := ⟨_, rfl⟩
  have hvl : v < 65536 := by omega
  have h1 := h.reg 3 (.int .u16 (v : Nat)) { s.r with S := v } ⟨ok.A, ok.X, ok.Y, hvl, ok.D, ok.PC, ok.B, ok.K, ok.P⟩ (fun _ _ => rfl)
  have k1 := (Keeps.refl b w).set 3 (.int .u16 (v : Nat))
  have e1 : ((s.r.S : Int) + (d : Int)) % 65536 = (v : Int) := by omega
  have e2 : IntKind.u16.wrap ((s.r.S : Int) + (d : Int)) = (v : Int) := by simp only [IntKind.wrap_u16]; omega
  rw [show (moveX d s).2 = { s with r := { s.r with S := stackF s.r.S d s.r.E } } from rfl]
  unfold stackF
  rw [hv]
  obtain ⟨⟨_, _, _, d3, _⟩, ⟨_, _, _, _, d9⟩, df⟩ := h1.look
  have g3 := df 3
  dsimp only at d3 d9 ⊢
  cases hE : s.r.E with
  | false =>
    dsimp only at h1
    rw [hE] at c9 d9 h1
    rw [if_neg (by decide)]
    have hfin := Lib.hid (And.intro h1 k1)
    clear hf df h h1 k1 ok hS hv hvl hd
    generalize s.r.S = S at *
    go_enter Tryz.func251, Tryz.ntmps251
    go_wp2_with fail
    go_end0
    exact ⟨rfl, hfin.out⟩
  | true =>
    rw [hE] at c9 d9
    rw [if_pos rfl]
    have hq : v % 256 < 256 := Nat.mod_lt _ (by decide)
    have h2 := h1.reg 3 (.int .u16 (256 + v % 256 : Nat)) { s.r with S := 256 + v % 256 } ⟨ok.A, ok.X, ok.Y, (show 256 + v % 256 < 65536 by omega), ok.D, ok.PC, ok.B, ok.K, ok.P⟩ (fun _ _ => rfl)
    have k2 := k1.set 3 (.int .u16 (256 + v % 256 : Nat))
    dsimp only at h2
    rw [hE] at h2
    have e3 := and8u16 v hvl
    have e4 := or256 v
    have hfin := Lib.hid (And.intro h2 k2)
    clear hf df h h1 k1 h2 k2 ok hS hv hvl hd
    generalize s.r.S = S at *
    generalize hz : 256 + v % 256 = z at *
    generalize v % 256 = y at *
    replace hz := Lib.hid hz
    clear hq
    go_enter Tryz.func251, Tryz.ntmps251
    go_wp2_with fail
    go_end0
    exact ⟨rfl, hfin.out⟩
def pushX (v : Nat) : X Unit := bindX getX fun r => bindX (writeAtX 0 r.S v) fun _ => moveX 65535
def pushWordX (v : Nat) : X Unit := bindX (pushX (v / 256)) fun _ => pushX (v % 256)
def pullX : X Nat := bindX (moveX 1) fun _ => bindX getX fun r => readAtX 0 r.S 1
def pullWordX : X Nat := bindX pullX fun lo => bindX pullX fun hi => pureX (hi * 256 + lo)
def farX (a : Nat) : X Unit := setX fun r => { r with PC := a % 65536, K := a / 65536 % 256 }
theorem Cost.move (d : Nat) : Cost (moveX d) 0 := Cost.set _
theorem Cost.push (v : Nat) : Cost (pushX v) 1 := Cost.bind (c := 0) (d := 1) Cost.get fun r => Cost.bind (c := 1) (d := 0) (Cost.write _ _ _) fun _ => Cost.move _
theorem Cost.pushWord (v : Nat) : Cost (pushWordX v) 2 := Cost.bind (c := 1) (d := 1) (Cost.push _) fun _ => Cost.push _
theorem Cost.pull : Cost pullX 1 := Cost.bind (c := 0) (d := 1) (Cost.move _) fun _ => Cost.bind (c := 0) (d := 1) Cost.get fun r => Cost.readAt _ _ _
theorem Cost.pullWord : Cost pullWordX 2 := Cost.bind (c := 1) (d := 1) Cost.pull fun _ => Cost.bind (c := 1) (d := 0) Cost.pull fun _ => Cost.pure _
theorem push_any {W0 w : World} {B b v : Nat} {s : Xs} (h : Xk W0 B b s w) (hl : s.l.length ≤ 100) :
    Calls Tryz.prog 195 #[.pointer (some ⟨b, 0, none⟩), .int .u8 (v : Nat)] w fun e w' => e = .returned (.tuple #[]) ∧ Xk W0 B b (pushX v s).2 w' ∧ Keeps b w w' := by
  have ok := h.ok
  obtain ⟨⟨_, _, _, c3, _⟩, _, _⟩ := h.look
  have hS := ok.S
  have HW := fun (W : World) (hW : Xk W0 B b s W) => xwriteAt_any (bk := 0) (n := s.r.S) (v := v) hW hl (by decide) (by omega)
  have HM := fun (W : World) (hW : Xk W0 B b (writeAtX 0 s.r.S v s).2 W) => moveStack_any (d := 65535) hW (by decide)
  rw [show (pushX v s).2 = (moveX 65535 (writeAtX 0 s.r.S v s).2).2 from rfl]
  have hd := h.drew
  have c3d : w.drew.cell? ⟨b, 3, none⟩ = some (.int .u16 s.r.S) := c3
  have hk : Keeps b w w.drew := Keeps.below (Below.drew (Below.refl _ _))
  have e0 : IntKind.u32.wrap (s.r.S : Int) = (s.r.S : Int) := by simp only [IntKind.wrap_u32]; omega
  generalize (writeAtX 0 s.r.S v s).2 = s1 at *
  generalize (moveX 65535 s1).2 = s2 at *
  simp only [show ((0 : Nat) : Int) = 0 from rfl, show ((65535 : Nat) : Int) = 65535 from rfl] at HW HM
  replace HW := Lib.hid HW
  replace HM := Lib.hid HM
  replace hd := Lib.hid hd
  replace hk := Lib.hid hk
  clear h ok hl hS c3
  generalize s.r.S = S at *
  go_enter Tryz.func195, Tryz.ntmps195
  go_upto_region 0 with (fail)
  go_still_tail 11, (by kernel_rfl)
  show wpList _ _ _ _ _ w.drew
  generalize w.drew = W1 at *
  go_wp2_with fail
  refine (HW.out _ hd.out).mono ?_
  rintro e W2 ⟨rfl, h1, k1⟩
  go_wp2_with fail
  refine (HM.out _ h1).mono ?_
  rintro e W3 ⟨rfl, h2, k2⟩
  go_wp2_with fail
  go_end0
  exact ⟨rfl, h2, (hk.out.trans k1).trans k2⟩
end Go.Proofs.YtnacdaodjgdnnaaGreat
namespace Go.Proofs.YtnacdaodjgdnnaaGreat
open Go.RowKit Go.Shelf
set_option maxRecDepth 100000
set_option maxHeartbeats 1000000
set_option linter.unusedVariables false

theorem pushWord_any {W0 w : World} {B b v : Nat} {s : Xs} (h : Xk W0 B b s w) (hl : s.l.length ≤ 98) (hv : v < 65536) :
    Calls Tryz.prog 196 #[.pointer (some ⟨b, 0, none⟩), .int .u16 (v : Nat)] w fun e w' => e = .returned (.tuple #[]) ∧ Xk W0 B b (pushWordX v s).2 w' ∧ Keeps b w w' := by
  have H1 := push_any (v := v / 256) h (by omega)
  have c1 := Cost.push (v / 256) s
  have H2 := fun (W : World) (hW : Xk W0 B b (pushX (v / 256) s).2 W) => push_any (v := v % 256) hW (by omega)
  rw [show (pushWordX v s).2 = (pushX (v % 256) (pushX (v / 256) s).2).2 from rfl]
  generalize (pushX (v / 256) s).2 = s1 at *
  generalize (pushX (v % 256) s1).2 = s2 at *
  have e1 : (v : Int) / 256 % 256 = ((v / 256 : Nat) : Int) := by omega
  have e2 : (v : Int) % 256 = ((v % 256 : Nat) : Int) := by omega
  have e3 : (v : Int) / 256 = ((v / 256 : Nat) : Int) := by omega
  replace H1 := Lib.hid H1
  replace H2 := Lib.hid H2
  clear h hl c1
  generalize v / 256 = x at *
  generalize v % 256 = y at *
  go_enter Tryz.func196, Tryz.ntmps196
  go_wp2_with fail
  refine H1.out.mono ?_
  rintro e W1 ⟨rfl, h1, k1⟩
  go_wp2_with fail
  refine (H2.out _ h1).mono ?_
  rintro e W2 ⟨rfl, h2, k2⟩
  go_wp2_with fail
  go_end0
  exact ⟨rfl, h2, k1.trans k2⟩
theorem pull_any {W0 w : World} {B b : Nat} {s : Xs} (h : Xk W0 B b s w) (hl : s.l.length ≤ 99) :
    Calls Tryz.prog 197 #[.pointer (some ⟨b, 0, none⟩)] w fun e w' => e = .returned (.int .u8 ((pullX s).1 : Nat)) ∧ Xk W0 B b (pullX s).2 w' ∧ Keeps b w w' ∧ (pullX s).1 < 256 := by
  have HM := moveStack_any (d := 1) h (by decide)
  have c1 := Cost.move 1 s
  rw [show pullX s = readAtX 0 (moveX 1 s).2.r.S 1 (moveX 1 s).2 from rfl]
  have hS := stackF_lt s.r.S 1 s.r.E
  rw [show stackF s.r.S 1 s.r.E = (moveX 1 s).2.r.S from rfl] at hS
  generalize (moveX 1 s).2 = s1 at *
  have HR := fun (W : World) (hW : Xk W0 B b s1 W) => xreadAt_any (bk := 0) (n := s1.r.S) (m := 1) hW (by decide) (by omega) (by omega) (by decide)
  rw [show numX (at1X 0 s1.r.S) 1 s1 = readAtX 0 s1.r.S 1 s1 from rfl] at HR
  generalize readAtX 0 s1.r.S 1 s1 = p at *
  obtain ⟨x, s2⟩ := p
  dsimp only at *
  have e0 : IntKind.u32.wrap (s1.r.S : Int) = (s1.r.S : Int) := by simp only [IntKind.wrap_u32]; omega
  simp only [show ((0 : Nat) : Int) = 0 from rfl, show ((1 : Nat) : Int) = 1 from rfl] at HM HR
  replace HM := Lib.hid HM
  replace HR := Lib.hid HR
  clear h hl c1 hS
  go_enter Tryz.func197, Tryz.ntmps197
  go_wp2_with fail
  refine HM.out.mono ?_
  rintro e W1 ⟨rfl, h1, k1⟩
  obtain ⟨⟨_, _, _, c3, _⟩, _, _⟩ := h1.look
  have c3d : W1.drew.cell? ⟨b, 3, none⟩ = some (.int .u16 s1.r.S) := c3
  have hd := Lib.hid h1.drew
  have hk := k1.trans (Keeps.below (Below.drew (Below.refl _ _)))
  clear c3 h1 k1 HM
  generalize s1.r.S = S at *
  go_upto_region 2 with (fail)
  go_still_tail 10, (by kernel_rfl)
  show wpList _ _ _ _ _ W1.drew
  generalize W1.drew = W2 at *
  go_wp2_with fail
  refine (HR.out _ hd.out).mono ?_
  rintro e W3 ⟨rfl, h3, k3, hx⟩
  have hx : x < 256 := by simpa using hx
  have e1 : (x : Int) % 256 = (x : Int) := by omega
  have hk3 := hk.trans k3
  have hxh := Lib.hid hx
  clear hk k3 hx
  go_wp2_with fail
  go_ret
  exact ⟨rfl, h3, hk3, hxh.out⟩
end Go.Proofs.YtnacdaodjgdnnaaGreat
namespace Go.Proofs.YtnacdaodjgdnnaaGreat
open Go.RowKit Go.Shelf
set_option maxRecDepth 100000
set_option maxHeartbeats 1000000
set_option linter.unusedVariables false

/-- Flags made 1 or 0. -/
def flagP (P f : Nat) (on : Bool) : Nat := if on then (P &&& (255 - f)) ||| f else P &&& (255 - f)
def flagX (f : Nat) (on : Bool) : X Unit := setX fun r => { r with P := flagP r.P f on }
theorem and_lt256 (P q : Nat) (h : P < 256) : P &&& q < 256 := Nat.lt_of_le_of_lt Nat.and_le_left h
theorem or_lt256 (a b : Nat) (ha : a < 256) (hb : b < 256) : a ||| b < 256 := Nat.or_lt_two_pow (n := 8) ha hb
theorem flagP_lt (P f : Nat) (on : Bool) (h : P < 256) (hf : f < 256) : flagP P f on < 256 := by
  unfold flagP
  cases on
  · exact and_lt256 P _ h
  · exact or_lt256 _ _ (and_lt256 P _ h) hf
theorem Cost.flag (f : Nat) (on : Bool) : Cost (flagX f on) 0 := Cost.set _
theorem Cost.far (a : Nat) : Cost (farX a) 0 := Cost.set _
theorem flags_any {W0 w : World} {B b f : Nat} {on : Bool} {s : Xs} (h : Xk W0 B b s w) (hf : f < 256) :
    Calls Tryz.prog 147 #[.pointer (some ⟨b, 0, none⟩), .int .u8 (f : Nat), .bool on] w fun e w' => e = .returned (.tuple #[]) ∧ Xk W0 B b (flagX f on s).2 w' ∧ Keeps b w w' := by
  have ok := h.ok
  obtain ⟨_, ⟨_, _, _, c8, _⟩, hfz⟩ := h.look
  have f8 := hfz 8
  have hP := ok.P
  have e1 := u8_andNot_nat s.r.P f hP hf
  have hq := and_lt256 s.r.P (255 - f) hP
  have e2 := u8_or_nat (s.r.P &&& (255 - f)) f hq hf
  have hq2 := or_lt256 (s.r.P &&& (255 - f)) f hq hf
  rw [show (flagX f on s).2 = { s with r := { s.r with P := flagP s.r.P f on } } from rfl]
  unfold flagP
  generalize s.r.P &&& (255 - f) = q at *
  have h1 := h.reg 8 (.int .u8 (q : Nat)) { s.r with P := q } ⟨ok.A, ok.X, ok.Y, ok.S, ok.D, ok.PC, ok.B, ok.K, hq⟩ (fun _ _ => rfl)
  have k1 := (Keeps.refl b w).set 8 (.int .u8 (q : Nat))
  obtain ⟨_, ⟨_, _, _, d8, _⟩, df⟩ := h1.look
  have g8 := df 8
  dsimp only at d8
  cases on with
  | false =>
    rw [if_neg (by decide)]
    have hfin := Lib.hid (And.intro h1 k1)
    clear hfz df h h1 k1 ok hP hq hf e2 hq2
    generalize s.r.P = P at *
    go_enter Tryz.func147, Tryz.ntmps147
    go_wp2_with fail
    go_end0
    exact ⟨rfl, hfin.out⟩
  | true =>
    rw [if_pos rfl]
    generalize q ||| f = z at *
    have h2 := h1.reg 8 (.int .u8 (z : Nat)) { s.r with P := z } ⟨ok.A, ok.X, ok.Y, ok.S, ok.D, ok.PC, ok.B, ok.K, hq2⟩ (fun _ _ => rfl)
    have hfin := Lib.hid (And.intro h2 (k1.set 8 (.int .u8 (z : Nat))))
    clear hfz df h h1 h2 k1 ok hP hq hf hq2
    generalize s.r.P = P at *
    go_enter Tryz.func147, Tryz.ntmps147
    go_wp2_with fail
    go_end0
    exact ⟨rfl, hfin.out⟩
theorem goFar_any {W0 w : World} {B b a : Nat} {s : Xs} (h : Xk W0 B b s w) (ha : a < 4294967296) :
    Calls Tryz.prog 148 #[.pointer (some ⟨b, 0, none⟩), .int .u32 (a : Nat)] w fun e w' => e = .returned (.tuple #[]) ∧ Xk W0 B b (farX a s).2 w' ∧ Keeps b w w' := by
  have ok := h.ok
  obtain ⟨_, ⟨c5, _, _, _, _⟩, hfz⟩ := h.look
  have f5 := hfz 5
  obtain ⟨x, hx⟩ : ∃ x, a % 65536 = x := ⟨_, rfl⟩
  obtain ⟨y, hy⟩ : ∃ y, a / 65536 % 256 = y := ⟨_, rfl⟩
  rw [show (farX a s).2 = { s with r := { s.r with PC := a % 65536, K := a / 65536 % 256 } } from rfl, hx, hy]
  have h1 := h.reg 5 (.int .u16 (x : Nat)) { s.r with PC := x } ⟨ok.A, ok.X, ok.Y, ok.S, ok.D, (by show x < 65536; omega), ok.B, ok.K, ok.P⟩ (fun _ _ => rfl)
  obtain ⟨_, ⟨_, _, d7, _, _⟩, df⟩ := h1.look
  have g7 := df 7
  have h2 := h1.reg 7 (.int .u8 (y : Nat)) { s.r with PC := x, K := y } ⟨ok.A, ok.X, ok.Y, ok.S, ok.D, (by show x < 65536; omega), ok.B, (by show y < 256; omega), ok.P⟩ (fun _ _ => rfl)
  have hfin := Lib.hid (And.intro h2 (((Keeps.refl b w).set 5 (.int .u16 (x : Nat))).set 7 (.int .u8 (y : Nat))))
  have e1 : (a : Int) % 65536 = (x : Int) := by omega
  have e2 : (a : Int) / 65536 % 256 = (y : Int) := by omega
  have e3 : IntKind.u16.wrap (a : Int) = (x : Int) := by simp only [IntKind.wrap_u16]; omega
  dsimp only at d7
  clear h h1 h2 df hfz ok hx hy ha
  generalize s.r.K = K at *
  generalize s.r.PC = PC at *
  go_enter Tryz.func148, Tryz.ntmps148
  go_wp2_with fail
  go_end0
  exact ⟨rfl, hfin.out⟩
/-- So many idles. -/
def idlesX : Nat → X Unit
  | 0 => pureX ()
  | n + 1 => bindX (idlesX n) fun _ => idleX
theorem Cost.idles : ∀ n, Cost (idlesX n) n
  | 0 => Cost.pure _
  | n + 1 => Cost.bind (c := n) (d := 1) (Cost.idles n) fun _ => Cost.idle
theorem idles_any {W0 w : World} {B b n : Nat} {s : Xs} (h : Xk W0 B b s w) (hl : s.l.length + n ≤ 100) :
    Calls Tryz.prog 146 #[.pointer (some ⟨b, 0, none⟩), .int .i64 (n : Nat)] w fun e w' => e = .returned (.tuple #[]) ∧ Xk W0 B b (idlesX n s).2 w' ∧ Keeps b w w' := by
  have HI := fun (i : Nat) (hi : i < n) (W : World) (hW : Xk W0 B b (idlesX i s).2 W) => xidle_any hW (by have := Cost.idles i s; omega)
  have hst : ∀ i, (idlesX (i + 1) s).2 = (idleX (idlesX i s).2).2 := fun i => rfl
  have h0 : Xk W0 B b (idlesX 0 s).2 w := h
  replace HI := Lib.hid HI
  replace hst := Lib.hid hst
  replace h0 := Lib.hid h0
  have hn : n ≤ 100 := by omega
  clear h hl
  go_enter Tryz.func146, Tryz.ntmps146
  go_wp2_with fail
  go_loopw [5] (fun s5 wr => ∃ i : Nat, i ≤ n ∧ s5 = .int .i64 i ∧ Xk W0 B b (idlesX i s).2 wr ∧ Keeps b w wr) (fun s5 _ => n - (intOf s5).toNat)
  case atStart => exact ⟨0, Nat.zero_le _, rfl, h0.out, Keeps.refl _ _⟩
  case round =>
    obtain ⟨i, hi, rfl, hx, hk⟩ := hrel
    by_cases hlt : i < n
    · have HC := Lib.hid (HI.out i hlt wr hx)
      have hs1 := hst.out i
      clear HI hst h0 hx
      go_wp2_with fail
      refine HC.out.mono ?_
      rintro e W1 ⟨rfl, h1, k1⟩
      have hk1 := hk.trans k1
      rw [← hs1] at h1
      clear hk k1 HC
      go_wp2_with fail
      go_roundw
      case rel => exact ⟨i + 1, hlt, by go_num, h1, hk1⟩
      case measure => simp [intOf]; omega
    · obtain rfl : i = n := by omega
      clear HI hst h0
      go_wp2_with fail
      go_end0
      exact ⟨rfl, hx, hk⟩
end Go.Proofs.YtnacdaodjgdnnaaGreat
