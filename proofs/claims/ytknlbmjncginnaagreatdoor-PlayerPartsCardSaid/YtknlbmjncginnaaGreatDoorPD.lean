/-
  A runner's operands, kept; what is read by an operand and written by it.
-/
import Derived.Test.YtknlbmjncginnaaGreatDoorTOf
namespace Go.Proofs.YtknlbmjncginnaaGreatDoor
open Go.RowKit Go.Shelf
set_option maxRecDepth 100000
set_option maxHeartbeats 1000000
set_option linter.unusedVariables false

/-- A value of the registers. -/
def M.ask {α : Type} (f : Rp → α) : M α := fun r => .ret (f r, r)
theorem Ran.ask {α : Type} (f : Rp → α) (s : Ts) : Ran (M.ask f) s (f s.r) s := rfl
/-- The code and its operands as a runner holds them. -/
structure Zd (K : Cx) (z : Zs) (w : World) (c : Nat) (nm fm : ByteArray) (cd nd co no : Nat) : Prop where
  n0 : z.n0 = .int .u8 (c : Nat)
  n1 : z.n1 = .string nm
  n2 : z.n2 = .string fm
  d0 : z.d0 = .int .u8 (cd : Nat)
  d1 : z.d1 = .int .u16 (nd : Nat)
  d2 : OpAt K w cd nd z.d2 z.d3
  o0 : z.o0 = .int .u8 (co : Nat)
  o1 : z.o1 = .int .u16 (no : Nat)
  o2 : OpAt K w co no z.o2 z.o3
  nd : nd < 65536
  no : no < 65536
  c : c < 256
def readable (c : Nat) : Prop := c ∈ regL ∨ c = 35 ∨ c ∈ memL
def writable (c : Nat) : Prop := c ∈ regL ∨ c ∈ memL
section
variable {K : Cx} {z : Zs} {s : Ts} {w w' : World} {c cd nd co no : Nat} {nm fm : ByteArray}
theorem Zd.stay (h : Zd K z w c nm fm cd nd co no) (t : Tk K z s w) (k : Kp K w w') : Zd K z w' c nm fm cd nd co no := ⟨h.n0, h.n1, h.n2, h.d0, h.d1, h.d2.stay t k, h.o0, h.o1, h.o2.stay t k, h.nd, h.no, h.c⟩
/-- A call of an operand's read. -/
def CallR (v : Value) (K : Cx) (z : Zs) (s : Ts) (w : World) (c n : Nat) : Prop :=
  ∃ kf caps, v = .func (.func kf) #[] caps ∧ (∀ (args : Array Value) (W : World), (callFunc kf args).run Tryz.prog W = .ok (.enter kf args) W) ∧ Calls Tryz.prog kf caps w (Post K z s w (readO c n) byteV (fun v => v < 256) 3)
def CallW (v : Value) (K : Cx) (z : Zs) (s : Ts) (w : World) (c n x : Nat) : Prop :=
  ∃ kf caps, v = .func (.func kf) #[] caps ∧ (∀ (args : Array Value) (W : World), (callFunc kf args).run Tryz.prog W = .ok (.enter kf args) W) ∧ Calls Tryz.prog kf (#[.int .u8 (x : Nat)] ++ caps) w (Post K z s w (writeO c n x) unitV (fun _ => True) 3)
/-- Reading the first operand, the second one; writing the first one: where the functions stand, and what calls of them come to. -/
theorem Zd.readD (h : Zd K z w c nm fm cd nd co no) (t : Tk K z s w) (hr : readable cd) (hl : s.l.length ≤ 96) : ∃ kf caps, w.cell? ⟨K.b, 16, none⟩ = some (.func (.func kf) #[] caps) ∧ (∀ (args : Array Value) (W : World), (callFunc kf args).run Tryz.prog W = .ok (.enter kf args) W) ∧ Calls Tryz.prog kf caps w (Post K z s w (readO cd nd) byteV (fun v => v < 256) 3) := by
  obtain ⟨kf, caps, h1, h2, h3⟩ := oread_any t h.d2 h.nd hr hl
  exact ⟨kf, caps, by rw [t.lookD.2.2.1, h1], h2, h3⟩
theorem Zd.readO (h : Zd K z w c nm fm cd nd co no) (t : Tk K z s w) (hr : readable co) (hl : s.l.length ≤ 96) : ∃ kf caps, w.cell? ⟨K.b, 20, none⟩ = some (.func (.func kf) #[] caps) ∧ (∀ (args : Array Value) (W : World), (callFunc kf args).run Tryz.prog W = .ok (.enter kf args) W) ∧ Calls Tryz.prog kf caps w (Post K z s w (Go.Proofs.YtknlbmjncginnaaGreatDoor.readO co no) byteV (fun v => v < 256) 3) := by
  obtain ⟨kf, caps, h1, h2, h3⟩ := oread_any t h.o2 h.no hr hl
  exact ⟨kf, caps, by rw [t.lookO.2.2.1, h1], h2, h3⟩
theorem Zd.writeD (h : Zd K z w c nm fm cd nd co no) (t : Tk K z s w) (hr : writable cd) (x : Nat) (hx : x < 256) (hl : s.l.length ≤ 96) : ∃ kf caps, w.cell? ⟨K.b, 17, none⟩ = some (.func (.func kf) #[] caps) ∧ (∀ (args : Array Value) (W : World), (callFunc kf args).run Tryz.prog W = .ok (.enter kf args) W) ∧ Calls Tryz.prog kf (#[.int .u8 (x : Nat)] ++ caps) w (Post K z s w (writeO cd nd x) unitV (fun _ => True) 3) := by
  obtain ⟨kf, caps, h1, h2, h3⟩ := owrite_any t h.d2 h.nd hx hr hl
  exact ⟨kf, caps, by rw [t.lookD.2.2.2, h1], h2, h3⟩
end
end Go.Proofs.YtknlbmjncginnaaGreatDoor
namespace Go.Proofs.YtknlbmjncginnaaGreatDoor
open Go.RowKit Go.Shelf
set_option maxRecDepth 100000
set_option maxHeartbeats 1000000
set_option linter.unusedVariables false

section
variable {K : Cx} {z : Zs} {s : Ts} {w w' : World} {c cd nd co no : Nat} {nm fm : ByteArray}
def compareM (cd nd co no : Nat) : M Unit := M.bind (Go.Proofs.YtknlbmjncginnaaGreatDoor.readO co no) fun o => M.bind (Go.Proofs.YtknlbmjncginnaaGreatDoor.readO cd nd) fun d => M.bind (M.set (putR 1 (decide (o ≤ d)))) fun _ => M.set (tellR ((d + 256 - o) % 256))
theorem compare_any (h : Tk K z s w) (hz : Zd K z w c nm fm cd nd co no) (hr : readable co) (hrd : readable cd) (hl : s.l.length ≤ 80) :
    Calls Tryz.prog 141 #[.pointer (some ⟨K.b, 0, none⟩)] w (Post K z s w (compareM cd nd co no) unitV (fun _ => True) 12) := by
  obtain ⟨Q, hQ, F⟩ := post_name (Post K z s w (compareM cd nd co no) unitV (fun _ => True) 12)
  rw [hQ]
  clear hQ
  replace F := Lib.hid F
  have t0 := Lib.hid h
  have k0 := Lib.hid (Kp.refl K w)
  have hz0 := Lib.hid hz
  have hl0 := Lib.hid hl
  have se0 := Lib.hid (show s.l.length ≤ s.l.length + 0 from Nat.le_refl _)
  clear h hz hl
  go_enter Tryz.func141, Tryz.ntmps141
  obtain ⟨kf1, cp1, cf1, hen1, H1⟩ := (hz0.out.stay t0.out k0.out).readO t0.out hr (by have := hl0.out; have := se0.out; omega)
  replace H1 := Lib.hid H1
  go_wp2_with fail
  with_reducible refine H1.out.mono ?_
  rintro e w1 ⟨s1, t1, k1, l1, (⟨v1, r1, q1, rfl⟩ | ⟨g1, rfl⟩)⟩
  rotate_left
  · skip
    have hf := Lib.hid (F.out lackE _ ⟨s1, t1, k0.out.trans k1, (by have := se0.out; omega), .inr ⟨Gave.bind g1, rfl⟩⟩)
    clear F
    unfold lackE at hf ⊢
    go_wp2_with fail
    first | exact hf.out | exact ⟨rfl, hf.out⟩
  replace k1 := Lib.hid (k0.out.trans k1)
  have se1 := Lib.hid (show s1.l.length ≤ s.l.length + 3 from (by have := se0.out; omega))
  replace t1 := Lib.hid t1
  replace r1 := Lib.hid r1
  clear H1 l1
  clear cf1 hen1
  unfold byteV
  obtain ⟨kf2, cp2, cf2, hen2, H2⟩ := (hz0.out.stay t0.out k1.out).readD t1.out hrd (by have := hl0.out; have := se1.out; omega)
  replace H2 := Lib.hid H2
  go_wp2_with fail
  with_reducible refine H2.out.mono ?_
  rintro e w2 ⟨s2, t2, k2, l2, (⟨v2, r2, q2, rfl⟩ | ⟨g2, rfl⟩)⟩
  rotate_left
  · skip
    have hf := Lib.hid (F.out lackE _ ⟨s2, t2, k1.out.trans k2, (by have := se1.out; omega), .inr ⟨Gave.then r1.out (Gave.bind g2), rfl⟩⟩)
    clear F
    unfold lackE at hf ⊢
    go_wp2_with fail
    first | exact hf.out | exact ⟨rfl, hf.out⟩
  replace k2 := Lib.hid (k1.out.trans k2)
  have se2 := Lib.hid (show s2.l.length ≤ s.l.length + 6 from (by have := se1.out; omega))
  replace t2 := Lib.hid t2
  replace r2 := Lib.hid r2
  clear H2 l2
  clear cf2 hen2
  unfold byteV
  have e1 : decide ((v2 : Int) ≥ (v1 : Int)) = decide (v1 ≤ v2) := by rw [Bool.eq_iff_iff]; simp only [decide_eq_true_eq]; omega
  have e1b : decide ((v1 : Int) ≤ (v2 : Int)) = decide (v1 ≤ v2) := by rw [Bool.eq_iff_iff]; simp only [decide_eq_true_eq]; omega
  obtain ⟨x1, hx1, x1b, x1w⟩ : ∃ x : Nat, (v2 + 256 - v1) % 256 = x ∧ x < 256 ∧ IntKind.u8.wrap ((v2 : Int) - (v1 : Int)) = (x : Int) := ⟨_, rfl, Nat.mod_lt _ (by decide), (by simp only [IntKind.wrap_u8]; omega)⟩
  replace hx1 := Lib.hid hx1
  have H3 := put_any 1 1 rfl (decide (v1 ≤ v2)) t2.out (by decide)
  replace H3 := Lib.hid H3
  go_wp2_with fail
  with_reducible refine H3.out.mono ?_
  rintro e w3 ⟨rfl, t3, k3⟩
  have r3 := Ran.set (putR 1 (decide (v1 ≤ v2))) s2
  have se3 := (show ({ s2 with r := (putR 1 (decide (v1 ≤ v2))) s2.r } : Ts).l.length ≤ s.l.length + 6 from se2.out)
  generalize hs3 : ({ s2 with r := (putR 1 (decide (v1 ≤ v2))) s2.r } : Ts) = s3 at r3 t3 se3
  replace hs3 := Lib.hid hs3
  replace k3 := Lib.hid (k2.out.trans k3)
  replace t3 := Lib.hid t3
  replace r3 := Lib.hid r3
  replace se3 := Lib.hid se3
  clear H3
  have H4 := tell_any x1 t3.out x1b
  replace H4 := Lib.hid H4
  go_wp2_with fail
  with_reducible refine H4.out.mono ?_
  rintro e w4 ⟨rfl, t4, k4⟩
  have r4 := Ran.set (tellR x1) s3
  have se4 := (show ({ s3 with r := (tellR x1) s3.r } : Ts).l.length ≤ s.l.length + 6 from se3.out)
  generalize hs4 : ({ s3 with r := (tellR x1) s3.r } : Ts) = s4 at r4 t4 se4
  replace hs4 := Lib.hid hs4
  replace k4 := Lib.hid (k3.out.trans k4)
  replace t4 := Lib.hid t4
  replace r4 := Lib.hid r4
  replace se4 := Lib.hid se4
  clear H4
  have e_x1 := hx1.out
  subst e_x1
  have hf := Lib.hid (F.out (.returned (unitV ())) _ (Post.done (r1.out.bind (r2.out.bind (r3.out.bind (r4.out)))) t4.out k4.out trivial (by have := se4.out; omega)))
  unfold unitV at hf
  clear F
  go_wp2_with fail
  first | exact hf.out | (go_end0; exact hf.out) | (go_ret; exact hf.out)
end
end Go.Proofs.YtknlbmjncginnaaGreatDoor
namespace Go.Proofs.YtknlbmjncginnaaGreatDoor
open Go.RowKit Go.Shelf
set_option maxRecDepth 100000
set_option maxHeartbeats 1000000
set_option linter.unusedVariables false

def combN (k : Nat) : ByteArray := match k with | 0 => ⟨#[79, 82]⟩ | 1 => ⟨#[65, 78, 68]⟩ | 2 => ⟨#[69, 79, 82]⟩ | 3 => ⟨#[65, 68, 67]⟩ | _ => ⟨#[83, 66, 67]⟩
def combV (k : Nat) (r : Rp) (d o : Nat) : Nat := match k with | 0 => d ||| o | 1 => d &&& o | 2 => d ^^^ o | 3 => sumV r d o | _ => sumV r d (255 - o)
def combR (k d o : Nat) (r : Rp) : Rp := match k with | 0 => r | 1 => r | 2 => r | 3 => sumR d o r | _ => sumR d (255 - o) r
theorem sumV_lt (r : Rp) (a b : Nat) : sumV r a b < 256 := Nat.mod_lt _ (by decide)
theorem xor_lt256 (a b : Nat) (ha : a < 256) (hb : b < 256) : a ^^^ b < 256 := Nat.xor_lt_two_pow (n := 8) ha hb
theorem combV_lt (k : Nat) (r : Rp) (d o : Nat) (hd : d < 256) (ho : o < 256) : combV k r d o < 256 := by
  unfold combV
  split
  · exact or_lt256 _ _ hd ho
  · exact and_lt256 _ _ hd
  · exact xor_lt256 _ _ hd ho
  · exact sumV_lt _ _ _
  · exact sumV_lt _ _ _
theorem not_eq (o : Nat) (h : o < 256) : 255 ^^^ o = 255 - o := (show ∀ o, o < 256 → 255 ^^^ o = 255 - o by decide +kernel) o h
theorem bne_has (a b : Nat) : (((a &&& b : Nat) : Int) != 0) = hasP a b := by
  unfold hasP
  generalize a &&& b = q
  by_cases e : q = 0 <;> simp [e]
section
variable {K : Cx} {z : Zs} {s : Ts} {w w' : World} {c cd nd co no : Nat} {nm fm : ByteArray}
theorem combined_any (k d o : Nat) (hk : k < 5) (h : Tk K z s w) (hn : z.n1 = .string (combN k)) (hd : d < 256) (ho : o < 256) :
    Calls Tryz.prog 195 #[.pointer (some ⟨K.b, 0, none⟩), .int .u8 (d : Nat), .int .u8 (o : Nat)] w (Turns K z s w (combR k d o s.r) (.int .u8 (combV k s.r d o : Nat))) := by
  have c10 := h.lookN.2.1
  rw [hn] at c10
  have H0 := Lib.hid (And.intro h (Kp.refl K w))
  have H3 := sum_any d o h hd ho
  have H4 := sum_any d (255 - o) h hd (by omega)
  unfold Turns at H3 H4 ⊢
  obtain rfl | rfl | rfl | rfl | rfl : k = 0 ∨ k = 1 ∨ k = 2 ∨ k = 3 ∨ k = 4 := by omega
  · have e1 := u8_or_nat d o hd ho
    unfold combN at c10
    unfold combV combR
    try dsimp only at c10 ⊢
    generalize d ||| o = x at *
    clear h H3 H4
    go_enter Tryz.func195, Tryz.ntmps195
    go_wp2_with fail
    go_ret
    exact ⟨rfl, H0.out⟩
  · have e1 := u8_and_nat d o hd ho
    unfold combN at c10
    unfold combV combR
    try dsimp only at c10 ⊢
    generalize d &&& o = x at *
    clear h H3 H4
    go_enter Tryz.func195, Tryz.ntmps195
    go_wp2_with fail
    go_ret
    exact ⟨rfl, H0.out⟩
  · have e1 := u8_xor_nat d o hd ho
    unfold combN at c10
    unfold combV combR
    try dsimp only at c10 ⊢
    generalize d ^^^ o = x at *
    clear h H3 H4
    go_enter Tryz.func195, Tryz.ntmps195
    go_wp2_with fail
    go_ret
    exact ⟨rfl, H0.out⟩
  · unfold combN at c10
    unfold combV combR
    try dsimp only at c10 ⊢
    generalize sumV s.r d o = x at *
    generalize sumR d o s.r = r' at *
    replace H3 := Lib.hid H3
    clear h H4 H0
    go_enter Tryz.func195, Tryz.ntmps195
    go_wp2_with fail
    with_reducible refine H3.out.mono ?_
    rintro e w1 ⟨rfl, t1, k1⟩
    have hf := Lib.hid (And.intro t1 k1)
    clear H3 t1 k1
    go_wp2_with fail
    go_ret
    exact ⟨rfl, hf.out⟩
  · unfold combN at c10
    unfold combV combR
    try dsimp only at c10 ⊢
    generalize sumV s.r d (255 - o) = x at *
    generalize sumR d (255 - o) s.r = r' at *
    have e1 : bits .xor .u8 IntKind.u8.max (o : Int) = ((255 - o : Nat) : Int) := (u8_xor_nat 255 o (by decide) ho).trans (by rw [not_eq o ho])
    generalize 255 - o = y at *
    replace H4 := Lib.hid H4
    clear h H3 H0
    go_enter Tryz.func195, Tryz.ntmps195
    go_wp2_with fail
    with_reducible refine H4.out.mono ?_
    rintro e w1 ⟨rfl, t1, k1⟩
    have hf := Lib.hid (And.intro t1 k1)
    clear H4 t1 k1
    go_wp2_with fail
    go_ret
    exact ⟨rfl, hf.out⟩
def changeN (k : Nat) : ByteArray := match k with | 0 => ⟨#[73, 78, 67]⟩ | 1 => ⟨#[68, 69, 67]⟩ | 2 => ⟨#[65, 83, 76]⟩ | 3 => ⟨#[82, 79, 76]⟩ | 4 => ⟨#[76, 83, 82]⟩ | _ => ⟨#[82, 79, 82]⟩
def changeV (k : Nat) (r : Rp) (v : Nat) : Nat := match k with | 0 => (v + 1) % 256 | 1 => (v + 255) % 256 | 2 => 2 * v % 256 | 3 => 2 * v % 256 + r.P % 2 | 4 => v / 2 | _ => v / 2 + 128 * (r.P % 2)
def changeR (k v : Nat) (r : Rp) : Rp := match k with | 0 => r | 1 => r | 2 => putR 1 (hasP v 128) r | 3 => putR 1 (hasP v 128) r | 4 => putR 1 (hasP v 1) r | _ => putR 1 (hasP v 1) r
theorem changeV_lt (k : Nat) (r : Rp) (v : Nat) (hv : v < 256) : changeV k r v < 256 := by
  unfold changeV
  split <;> omega
theorem changed_any (k v : Nat) (hk : k < 6) (h : Tk K z s w) (hn : z.n1 = .string (changeN k)) (hv : v < 256) :
    Calls Tryz.prog 197 #[.pointer (some ⟨K.b, 0, none⟩), .int .u8 (v : Nat)] w (Turns K z s w (changeR k v s.r) (.int .u8 (changeV k s.r v : Nat))) := by
  obtain ⟨⟨rA, rX, rY, rS, rP, rPc, rH⟩, l, q⟩ := s
  have c10 := h.lookN.2.1
  rw [hn] at c10
  have c4 := h.look.1.2.2.2.2
  have hP := h.ok.P
  dsimp only at c4 hP
  have e1 : bits .and .u8 (rP : Int) 1 = ((rP % 2 : Nat) : Int) := (u8_and_nat rP 1 hP (by decide)).trans (by rw [Nat.and_one_is_mod])
  have ea : bits .and .u8 (v : Int) 128 = ((v &&& 128 : Nat) : Int) := u8_and_nat v 128 hv (by decide)
  have eb : bits .and .u8 (v : Int) 1 = ((v &&& 1 : Nat) : Int) := u8_and_nat v 1 hv (by decide)
  have ta : (((v &&& 128 : Nat) : Int) != 0) = hasP v 128 := bne_has v 128
  have tb : (((v &&& 1 : Nat) : Int) != 0) = hasP v 1 := bne_has v 1
  have H0 := Lib.hid (And.intro h (Kp.refl K w))
  have Ha := put_any 1 1 rfl (hasP v 128) h (by decide)
  have Hb := put_any 1 1 rfl (hasP v 1) h (by decide)
  unfold Turns at Ha Hb ⊢
  dsimp only at Ha Hb ⊢
  have hq := Lib.hid (Nat.mod_lt rP (show 0 < 2 by decide))
  have e2 : IntKind.u8.wrap (2 * (v : Int)) = ((2 * v % 256 : Nat) : Int) := by simp only [IntKind.wrap_u8]; omega
  replace Ha := Lib.hid Ha
  replace Hb := Lib.hid Hb
  obtain rfl | rfl | rfl | rfl | rfl | rfl : k = 0 ∨ k = 1 ∨ k = 2 ∨ k = 3 ∨ k = 4 ∨ k = 5 := by omega
  all_goals
    unfold changeN at c10
    unfold changeV changeR
    try dsimp only at c10 ⊢
    generalize hasP v 128 = oa at *
    generalize hasP v 1 = ob at *
    generalize v &&& 128 = va at *
    generalize v &&& 1 = vb at *
  · have e3 : IntKind.u8.wrap ((v : Int) + 1) = (((v + 1) % 256 : Nat) : Int) := by simp only [IntKind.wrap_u8]; omega
    generalize (v + 1) % 256 = x at *
    clear h Ha Hb
    go_enter Tryz.func197, Tryz.ntmps197
    go_wp2_with fail
    go_ret
    exact ⟨rfl, H0.out⟩
  · have e3 : IntKind.u8.wrap ((v : Int) - 1) = (((v + 255) % 256 : Nat) : Int) := by simp only [IntKind.wrap_u8]; omega
    generalize (v + 255) % 256 = x at *
    clear h Ha Hb
    go_enter Tryz.func197, Tryz.ntmps197
    go_wp2_with fail
    go_ret
    exact ⟨rfl, H0.out⟩
  · have e3 : IntKind.u8.wrap ((v : Int) * 2) = ((2 * v % 256 : Nat) : Int) := by simp only [IntKind.wrap_u8]; omega
    generalize 2 * v % 256 = x at *
    clear h H0 Hb
    go_enter Tryz.func197, Tryz.ntmps197
    go_wp2_with fail
    with_reducible refine Ha.out.mono ?_
    rintro e w1 ⟨rfl, t1, k1⟩
    have hf := Lib.hid (And.intro t1 k1)
    clear Ha t1 k1
    go_wp2_with fail
    go_ret
    exact ⟨rfl, hf.out⟩
  · have e3 : IntKind.u8.wrap ((v : Int) * 2) = ((2 * v % 256 : Nat) : Int) := by simp only [IntKind.wrap_u8]; omega
    have e4 : bits .or .u8 ((2 * v % 256 : Nat) : Int) ((rP % 2 : Nat) : Int) = ((2 * v % 256 + rP % 2 : Nat) : Int) := by
      rw [u8_or_nat _ _ (Nat.mod_lt _ (by decide)) (by omega), show 2 * v % 256 = (v % 128) <<< 1 from by rw [Nat.shiftLeft_eq]; omega, ← Nat.shiftLeft_add_eq_or_of_lt (show rP % 2 < 2 ^ 1 from Nat.mod_lt _ (by decide))]
    generalize 2 * v % 256 + rP % 2 = y at *
    generalize 2 * v % 256 = x at *
    generalize rP % 2 = cc at *
    clear h H0 Hb
    go_enter Tryz.func197, Tryz.ntmps197
    go_wp2_with fail
    with_reducible refine Ha.out.mono ?_
    rintro e w1 ⟨rfl, t1, k1⟩
    have hf := Lib.hid (And.intro t1 k1)
    clear Ha t1 k1
    go_wp2_with fail
    go_ret
    exact ⟨rfl, hf.out⟩
  · have e3 : (v : Int) / 2 = ((v / 2 : Nat) : Int) := by omega
    generalize v / 2 = x at *
    clear h H0 Ha
    go_enter Tryz.func197, Tryz.ntmps197
    go_wp2_with fail
    with_reducible refine Hb.out.mono ?_
    rintro e w1 ⟨rfl, t1, k1⟩
    have hf := Lib.hid (And.intro t1 k1)
    clear Hb t1 k1
    go_wp2_with fail
    go_ret
    exact ⟨rfl, hf.out⟩
  · have e3 : (v : Int) / 2 = ((v / 2 : Nat) : Int) := by omega
    have e5 : IntKind.u8.wrap (((rP % 2 : Nat) : Int) * 128) = ((rP % 2 * 128 : Nat) : Int) := by simp only [IntKind.wrap_u8]; omega
    have e4 : bits .or .u8 ((v / 2 : Nat) : Int) ((rP % 2 * 128 : Nat) : Int) = ((v / 2 + 128 * (rP % 2) : Nat) : Int) := by
      rw [u8_or_nat _ _ (by omega) (by omega), Nat.or_comm, show rP % 2 * 128 = (rP % 2) <<< 7 from by rw [Nat.shiftLeft_eq], ← Nat.shiftLeft_add_eq_or_of_lt (show v / 2 < 2 ^ 7 by omega), Nat.shiftLeft_eq]
      omega
    generalize v / 2 + 128 * (rP % 2) = y at *
    generalize rP % 2 * 128 = x7 at *
    generalize v / 2 = x at *
    generalize rP % 2 = cc at *
    clear h H0 Ha
    go_enter Tryz.func197, Tryz.ntmps197
    go_wp2_with fail
    with_reducible refine Hb.out.mono ?_
    rintro e w1 ⟨rfl, t1, k1⟩
    have hf := Lib.hid (And.intro t1 k1)
    clear Hb t1 k1
    go_wp2_with fail
    go_ret
    exact ⟨rfl, hf.out⟩
end
end Go.Proofs.YtknlbmjncginnaaGreatDoor
namespace Go.Proofs.YtknlbmjncginnaaGreatDoor
open Go.RowKit Go.Shelf
set_option maxRecDepth 100000
set_option maxHeartbeats 1000000
set_option linter.unusedVariables false

section
variable {K : Cx} {z : Zs} {s : Ts} {w w' : World} {c cd nd co no : Nat} {nm fm : ByteArray}
def tellL : List Nat := [65, 88, 89]
def moveTM (cd nd co no : Nat) : M Unit := M.bind (Go.Proofs.YtknlbmjncginnaaGreatDoor.readO co no) fun v => M.bind (writeO cd nd v) fun _ => M.set (tellR v)
theorem moveTA_any (h : Tk K z s w) (hz : Zd K z w c nm fm cd nd co no) (hr : readable co) (hw : writable cd) (hcd : cd = 65) (hl : s.l.length ≤ 80) :
    Calls Tryz.prog 139 #[.pointer (some ⟨K.b, 0, none⟩)] w (Post K z s w (moveTM cd nd co no) unitV (fun _ => True) 12) := by
  obtain ⟨Q, hQ, F⟩ := post_name (Post K z s w (moveTM cd nd co no) unitV (fun _ => True) 12)
  rw [hQ]
  clear hQ
  replace F := Lib.hid F
  have t0 := Lib.hid h
  have k0 := Lib.hid (Kp.refl K w)
  have hz0 := Lib.hid hz
  have hl0 := Lib.hid hl
  have se0 := Lib.hid (show s.l.length ≤ s.l.length + 0 from Nat.le_refl _)
  clear h hz hl
  go_enter Tryz.func139, Tryz.ntmps139
  obtain ⟨kf1, cp1, cf1, hen1, H1⟩ := (hz0.out.stay t0.out k0.out).readO t0.out hr (by have := hl0.out; have := se0.out; omega)
  replace H1 := Lib.hid H1
  go_wp2_with fail
  with_reducible refine H1.out.mono ?_
  rintro e w1 ⟨s1, t1, k1, l1, (⟨v1, r1, q1, rfl⟩ | ⟨g1, rfl⟩)⟩
  rotate_left
  · skip
    have hf := Lib.hid (F.out lackE _ ⟨s1, t1, k0.out.trans k1, (by have := se0.out; omega), .inr ⟨Gave.bind g1, rfl⟩⟩)
    clear F
    unfold lackE at hf ⊢
    go_wp2_with fail
    first | exact hf.out | exact ⟨rfl, hf.out⟩
  replace k1 := Lib.hid (k0.out.trans k1)
  have se1 := Lib.hid (show s1.l.length ≤ s.l.length + 3 from (by have := se0.out; omega))
  replace t1 := Lib.hid t1
  replace r1 := Lib.hid r1
  clear H1 l1
  clear cf1 hen1
  unfold byteV
  have q1h := Lib.hid q1
  obtain ⟨kf2, cp2, cf2, hen2, H2⟩ := (hz0.out.stay t0.out k1.out).writeD t1.out hw (v1) q1h.out (by have := hl0.out; have := se1.out; omega)
  replace H2 := Lib.hid H2
  go_wp2_with fail
  with_reducible refine H2.out.mono ?_
  rintro e w2 ⟨s2, t2, k2, l2, (⟨_u2, r2, q2, rfl⟩ | ⟨g2, rfl⟩)⟩
  rotate_left
  · skip
    have hf := Lib.hid (F.out lackE _ ⟨s2, t2, k1.out.trans k2, (by have := se1.out; omega), .inr ⟨Gave.then r1.out (Gave.bind g2), rfl⟩⟩)
    clear F
    unfold lackE at hf ⊢
    go_wp2_with fail
    first | exact hf.out | exact ⟨rfl, hf.out⟩
  replace k2 := Lib.hid (k1.out.trans k2)
  have se2 := Lib.hid (show s2.l.length ≤ s.l.length + 6 from (by have := se1.out; omega))
  replace t2 := Lib.hid t2
  replace r2 := Lib.hid r2
  clear H2 l2
  clear cf2 hen2
  unfold unitV
  have cd0 := t2.out.lookD.1.trans (by rw [hz0.out.d0])
  rw [show ((cd : Nat) : Int) = 65 from by rw [hcd]; rfl] at cd0
  have H3 := tell_any v1 t2.out q1h.out
  replace H3 := Lib.hid H3
  go_wp2_with fail
  with_reducible refine H3.out.mono ?_
  rintro e w3 ⟨rfl, t3, k3⟩
  have r3 := Ran.set (tellR v1) s2
  have se3 := (show ({ s2 with r := (tellR v1) s2.r } : Ts).l.length ≤ s.l.length + 6 from se2.out)
  generalize hs3 : ({ s2 with r := (tellR v1) s2.r } : Ts) = s3 at r3 t3 se3
  replace hs3 := Lib.hid hs3
  replace k3 := Lib.hid (k2.out.trans k3)
  replace t3 := Lib.hid t3
  replace r3 := Lib.hid r3
  replace se3 := Lib.hid se3
  clear H3
  have hf := Lib.hid (F.out (.returned (unitV ())) _ (Post.done (r1.out.bind (r2.out.bind (r3.out))) t3.out k3.out trivial (by have := se3.out; omega)))
  unfold unitV at hf
  clear F
  go_wp2_with fail
  first | exact hf.out | (go_end0; exact hf.out) | (go_ret; exact hf.out)
theorem moveTX_any (h : Tk K z s w) (hz : Zd K z w c nm fm cd nd co no) (hr : readable co) (hw : writable cd) (hcd : cd = 88) (hl : s.l.length ≤ 80) :
    Calls Tryz.prog 139 #[.pointer (some ⟨K.b, 0, none⟩)] w (Post K z s w (moveTM cd nd co no) unitV (fun _ => True) 12) := by
  obtain ⟨Q, hQ, F⟩ := post_name (Post K z s w (moveTM cd nd co no) unitV (fun _ => True) 12)
  rw [hQ]
  clear hQ
  replace F := Lib.hid F
  have t0 := Lib.hid h
  have k0 := Lib.hid (Kp.refl K w)
  have hz0 := Lib.hid hz
  have hl0 := Lib.hid hl
  have se0 := Lib.hid (show s.l.length ≤ s.l.length + 0 from Nat.le_refl _)
  clear h hz hl
  go_enter Tryz.func139, Tryz.ntmps139
  obtain ⟨kf1, cp1, cf1, hen1, H1⟩ := (hz0.out.stay t0.out k0.out).readO t0.out hr (by have := hl0.out; have := se0.out; omega)
  replace H1 := Lib.hid H1
  go_wp2_with fail
  with_reducible refine H1.out.mono ?_
  rintro e w1 ⟨s1, t1, k1, l1, (⟨v1, r1, q1, rfl⟩ | ⟨g1, rfl⟩)⟩
  rotate_left
  · skip
    have hf := Lib.hid (F.out lackE _ ⟨s1, t1, k0.out.trans k1, (by have := se0.out; omega), .inr ⟨Gave.bind g1, rfl⟩⟩)
    clear F
    unfold lackE at hf ⊢
    go_wp2_with fail
    first | exact hf.out | exact ⟨rfl, hf.out⟩
  replace k1 := Lib.hid (k0.out.trans k1)
  have se1 := Lib.hid (show s1.l.length ≤ s.l.length + 3 from (by have := se0.out; omega))
  replace t1 := Lib.hid t1
  replace r1 := Lib.hid r1
  clear H1 l1
  clear cf1 hen1
  unfold byteV
  have q1h := Lib.hid q1
  obtain ⟨kf2, cp2, cf2, hen2, H2⟩ := (hz0.out.stay t0.out k1.out).writeD t1.out hw (v1) q1h.out (by have := hl0.out; have := se1.out; omega)
  replace H2 := Lib.hid H2
  go_wp2_with fail
  with_reducible refine H2.out.mono ?_
  rintro e w2 ⟨s2, t2, k2, l2, (⟨_u2, r2, q2, rfl⟩ | ⟨g2, rfl⟩)⟩
  rotate_left
  · skip
    have hf := Lib.hid (F.out lackE _ ⟨s2, t2, k1.out.trans k2, (by have := se1.out; omega), .inr ⟨Gave.then r1.out (Gave.bind g2), rfl⟩⟩)
    clear F
    unfold lackE at hf ⊢
    go_wp2_with fail
    first | exact hf.out | exact ⟨rfl, hf.out⟩
  replace k2 := Lib.hid (k1.out.trans k2)
  have se2 := Lib.hid (show s2.l.length ≤ s.l.length + 6 from (by have := se1.out; omega))
  replace t2 := Lib.hid t2
  replace r2 := Lib.hid r2
  clear H2 l2
  clear cf2 hen2
  unfold unitV
  have cd0 := t2.out.lookD.1.trans (by rw [hz0.out.d0])
  rw [show ((cd : Nat) : Int) = 88 from by rw [hcd]; rfl] at cd0
  have H3 := tell_any v1 t2.out q1h.out
  replace H3 := Lib.hid H3
  go_wp2_with fail
  with_reducible refine H3.out.mono ?_
  rintro e w3 ⟨rfl, t3, k3⟩
  have r3 := Ran.set (tellR v1) s2
  have se3 := (show ({ s2 with r := (tellR v1) s2.r } : Ts).l.length ≤ s.l.length + 6 from se2.out)
  generalize hs3 : ({ s2 with r := (tellR v1) s2.r } : Ts) = s3 at r3 t3 se3
  replace hs3 := Lib.hid hs3
  replace k3 := Lib.hid (k2.out.trans k3)
  replace t3 := Lib.hid t3
  replace r3 := Lib.hid r3
  replace se3 := Lib.hid se3
  clear H3
  have hf := Lib.hid (F.out (.returned (unitV ())) _ (Post.done (r1.out.bind (r2.out.bind (r3.out))) t3.out k3.out trivial (by have := se3.out; omega)))
  unfold unitV at hf
  clear F
  go_wp2_with fail
  first | exact hf.out | (go_end0; exact hf.out) | (go_ret; exact hf.out)
theorem moveTY_any (h : Tk K z s w) (hz : Zd K z w c nm fm cd nd co no) (hr : readable co) (hw : writable cd) (hcd : cd = 89) (hl : s.l.length ≤ 80) :
    Calls Tryz.prog 139 #[.pointer (some ⟨K.b, 0, none⟩)] w (Post K z s w (moveTM cd nd co no) unitV (fun _ => True) 12) := by
  obtain ⟨Q, hQ, F⟩ := post_name (Post K z s w (moveTM cd nd co no) unitV (fun _ => True) 12)
  rw [hQ]
  clear hQ
  replace F := Lib.hid F
  have t0 := Lib.hid h
  have k0 := Lib.hid (Kp.refl K w)
  have hz0 := Lib.hid hz
  have hl0 := Lib.hid hl
  have se0 := Lib.hid (show s.l.length ≤ s.l.length + 0 from Nat.le_refl _)
  clear h hz hl
  go_enter Tryz.func139, Tryz.ntmps139
  obtain ⟨kf1, cp1, cf1, hen1, H1⟩ := (hz0.out.stay t0.out k0.out).readO t0.out hr (by have := hl0.out; have := se0.out; omega)
  replace H1 := Lib.hid H1
  go_wp2_with fail
  with_reducible refine H1.out.mono ?_
  rintro e w1 ⟨s1, t1, k1, l1, (⟨v1, r1, q1, rfl⟩ | ⟨g1, rfl⟩)⟩
  rotate_left
  · skip
    have hf := Lib.hid (F.out lackE _ ⟨s1, t1, k0.out.trans k1, (by have := se0.out; omega), .inr ⟨Gave.bind g1, rfl⟩⟩)
    clear F
    unfold lackE at hf ⊢
    go_wp2_with fail
    first | exact hf.out | exact ⟨rfl, hf.out⟩
  replace k1 := Lib.hid (k0.out.trans k1)
  have se1 := Lib.hid (show s1.l.length ≤ s.l.length + 3 from (by have := se0.out; omega))
  replace t1 := Lib.hid t1
  replace r1 := Lib.hid r1
  clear H1 l1
  clear cf1 hen1
  unfold byteV
  have q1h := Lib.hid q1
  obtain ⟨kf2, cp2, cf2, hen2, H2⟩ := (hz0.out.stay t0.out k1.out).writeD t1.out hw (v1) q1h.out (by have := hl0.out; have := se1.out; omega)
  replace H2 := Lib.hid H2
  go_wp2_with fail
  with_reducible refine H2.out.mono ?_
  rintro e w2 ⟨s2, t2, k2, l2, (⟨_u2, r2, q2, rfl⟩ | ⟨g2, rfl⟩)⟩
  rotate_left
  · skip
    have hf := Lib.hid (F.out lackE _ ⟨s2, t2, k1.out.trans k2, (by have := se1.out; omega), .inr ⟨Gave.then r1.out (Gave.bind g2), rfl⟩⟩)
    clear F
    unfold lackE at hf ⊢
    go_wp2_with fail
    first | exact hf.out | exact ⟨rfl, hf.out⟩
  replace k2 := Lib.hid (k1.out.trans k2)
  have se2 := Lib.hid (show s2.l.length ≤ s.l.length + 6 from (by have := se1.out; omega))
  replace t2 := Lib.hid t2
  replace r2 := Lib.hid r2
  clear H2 l2
  clear cf2 hen2
  unfold unitV
  have cd0 := t2.out.lookD.1.trans (by rw [hz0.out.d0])
  rw [show ((cd : Nat) : Int) = 89 from by rw [hcd]; rfl] at cd0
  have H3 := tell_any v1 t2.out q1h.out
  replace H3 := Lib.hid H3
  go_wp2_with fail
  with_reducible refine H3.out.mono ?_
  rintro e w3 ⟨rfl, t3, k3⟩
  have r3 := Ran.set (tellR v1) s2
  have se3 := (show ({ s2 with r := (tellR v1) s2.r } : Ts).l.length ≤ s.l.length + 6 from se2.out)
  generalize hs3 : ({ s2 with r := (tellR v1) s2.r } : Ts) = s3 at r3 t3 se3
  replace hs3 := Lib.hid hs3
  replace k3 := Lib.hid (k2.out.trans k3)
  replace t3 := Lib.hid t3
  replace r3 := Lib.hid r3
  replace se3 := Lib.hid se3
  clear H3
  have hf := Lib.hid (F.out (.returned (unitV ())) _ (Post.done (r1.out.bind (r2.out.bind (r3.out))) t3.out k3.out trivial (by have := se3.out; omega)))
  unfold unitV at hf
  clear F
  go_wp2_with fail
  first | exact hf.out | (go_end0; exact hf.out) | (go_ret; exact hf.out)
def moveNM (cd nd co no : Nat) : M Unit := M.bind (Go.Proofs.YtknlbmjncginnaaGreatDoor.readO co no) fun v => M.bind (writeO cd nd v) fun _ => M.pure ()
theorem moveN_any (h : Tk K z s w) (hz : Zd K z w c nm fm cd nd co no) (hr : readable co) (hw : writable cd) (hcd : cd ∉ tellL) (hl : s.l.length ≤ 80) :
    Calls Tryz.prog 139 #[.pointer (some ⟨K.b, 0, none⟩)] w (Post K z s w (moveNM cd nd co no) unitV (fun _ => True) 12) := by
  obtain ⟨Q, hQ, F⟩ := post_name (Post K z s w (moveNM cd nd co no) unitV (fun _ => True) 12)
  rw [hQ]
  clear hQ
  replace F := Lib.hid F
  have n0 : ((cd : Int) == 65) = false := by rw [beq_eq_false_iff_ne]; intro e; exact hcd (by rw [show cd = 65 by omega]; decide)
  have n1 : ((cd : Int) == 88) = false := by rw [beq_eq_false_iff_ne]; intro e; exact hcd (by rw [show cd = 88 by omega]; decide)
  have n2 : ((cd : Int) == 89) = false := by rw [beq_eq_false_iff_ne]; intro e; exact hcd (by rw [show cd = 89 by omega]; decide)
  have t0 := Lib.hid h
  have k0 := Lib.hid (Kp.refl K w)
  have hz0 := Lib.hid hz
  have hl0 := Lib.hid hl
  have se0 := Lib.hid (show s.l.length ≤ s.l.length + 0 from Nat.le_refl _)
  clear h hz hl
  go_enter Tryz.func139, Tryz.ntmps139
  obtain ⟨kf1, cp1, cf1, hen1, H1⟩ := (hz0.out.stay t0.out k0.out).readO t0.out hr (by have := hl0.out; have := se0.out; omega)
  replace H1 := Lib.hid H1
  go_wp2_with fail
  with_reducible refine H1.out.mono ?_
  rintro e w1 ⟨s1, t1, k1, l1, (⟨v1, r1, q1, rfl⟩ | ⟨g1, rfl⟩)⟩
  rotate_left
  · skip
    have hf := Lib.hid (F.out lackE _ ⟨s1, t1, k0.out.trans k1, (by have := se0.out; omega), .inr ⟨Gave.bind g1, rfl⟩⟩)
    clear F
    unfold lackE at hf ⊢
    go_wp2_with fail
    first | exact hf.out | exact ⟨rfl, hf.out⟩
  replace k1 := Lib.hid (k0.out.trans k1)
  have se1 := Lib.hid (show s1.l.length ≤ s.l.length + 3 from (by have := se0.out; omega))
  replace t1 := Lib.hid t1
  replace r1 := Lib.hid r1
  clear H1 l1
  clear cf1 hen1
  unfold byteV
  have q1h := Lib.hid q1
  obtain ⟨kf2, cp2, cf2, hen2, H2⟩ := (hz0.out.stay t0.out k1.out).writeD t1.out hw (v1) q1h.out (by have := hl0.out; have := se1.out; omega)
  replace H2 := Lib.hid H2
  go_wp2_with fail
  with_reducible refine H2.out.mono ?_
  rintro e w2 ⟨s2, t2, k2, l2, (⟨_u2, r2, q2, rfl⟩ | ⟨g2, rfl⟩)⟩
  rotate_left
  · skip
    have hf := Lib.hid (F.out lackE _ ⟨s2, t2, k1.out.trans k2, (by have := se1.out; omega), .inr ⟨Gave.then r1.out (Gave.bind g2), rfl⟩⟩)
    clear F
    unfold lackE at hf ⊢
    go_wp2_with fail
    first | exact hf.out | exact ⟨rfl, hf.out⟩
  replace k2 := Lib.hid (k1.out.trans k2)
  have se2 := Lib.hid (show s2.l.length ≤ s.l.length + 6 from (by have := se1.out; omega))
  replace t2 := Lib.hid t2
  replace r2 := Lib.hid r2
  clear H2 l2
  clear cf2 hen2
  unfold unitV
  have cd0 := t2.out.lookD.1.trans (by rw [hz0.out.d0])
  have hf := Lib.hid (F.out (.returned (unitV ())) _ (Post.done (r1.out.bind (r2.out.bind (Ran.pure () _))) t2.out k2.out trivial (by have := se2.out; omega)))
  unfold unitV at hf
  clear F
  go_wp2_with fail
  first | exact hf.out | (go_end0; exact hf.out) | (go_ret; exact hf.out)
def moveM (cd nd co no : Nat) : M Unit := if cd ∈ tellL then moveTM cd nd co no else moveNM cd nd co no
theorem move_any (h : Tk K z s w) (hz : Zd K z w c nm fm cd nd co no) (hr : readable co) (hw : writable cd) (hl : s.l.length ≤ 80) :
    Calls Tryz.prog 139 #[.pointer (some ⟨K.b, 0, none⟩)] w (Post K z s w (moveM cd nd co no) unitV (fun _ => True) 12) := by
  unfold moveM
  by_cases hc : cd ∈ tellL
  · rw [if_pos hc]
    simp only [tellL, List.mem_cons, List.not_mem_nil, or_false] at hc
    rcases hc with hc | hc | hc
    · exact moveTA_any h hz hr hw hc hl
    · exact moveTX_any h hz hr hw hc hl
    · exact moveTY_any h hz hr hw hc hl
  · rw [if_neg hc]
    exact moveN_any h hz hr hw hc hl
def combineM (k cd nd co no : Nat) : M Unit := M.bind (Go.Proofs.YtknlbmjncginnaaGreatDoor.readO co no) fun o => M.bind (Go.Proofs.YtknlbmjncginnaaGreatDoor.readO cd nd) fun d => M.bind (M.ask fun r => combV k r d o) fun v => M.bind (M.set (combR k d o)) fun _ => M.bind (writeO cd nd v) fun _ => M.set (tellR v)
theorem combine_any (h : Tk K z s w) (hz : Zd K z w c nm fm cd nd co no) (k : Nat) (hk : k < 5) (hn : z.n1 = .string (combN k)) (hr : readable co) (hrd : readable cd) (hw : writable cd) (hl : s.l.length ≤ 80) :
    Calls Tryz.prog 140 #[.pointer (some ⟨K.b, 0, none⟩)] w (Post K z s w (combineM k cd nd co no) unitV (fun _ => True) 12) := by
  obtain ⟨Q, hQ, F⟩ := post_name (Post K z s w (combineM k cd nd co no) unitV (fun _ => True) 12)
  rw [hQ]
  clear hQ
  replace F := Lib.hid F
  have t0 := Lib.hid h
  have k0 := Lib.hid (Kp.refl K w)
  have hz0 := Lib.hid hz
  have hl0 := Lib.hid hl
  have se0 := Lib.hid (show s.l.length ≤ s.l.length + 0 from Nat.le_refl _)
  clear h hz hl
  go_enter Tryz.func140, Tryz.ntmps140
  obtain ⟨kf1, cp1, cf1, hen1, H1⟩ := (hz0.out.stay t0.out k0.out).readO t0.out hr (by have := hl0.out; have := se0.out; omega)
  replace H1 := Lib.hid H1
  go_wp2_with fail
  with_reducible refine H1.out.mono ?_
  rintro e w1 ⟨s1, t1, k1, l1, (⟨v1, r1, q1, rfl⟩ | ⟨g1, rfl⟩)⟩
  rotate_left
  · skip
    have hf := Lib.hid (F.out lackE _ ⟨s1, t1, k0.out.trans k1, (by have := se0.out; omega), .inr ⟨Gave.bind g1, rfl⟩⟩)
    clear F
    unfold lackE at hf ⊢
    go_wp2_with fail
    first | exact hf.out | exact ⟨rfl, hf.out⟩
  replace k1 := Lib.hid (k0.out.trans k1)
  have se1 := Lib.hid (show s1.l.length ≤ s.l.length + 3 from (by have := se0.out; omega))
  replace t1 := Lib.hid t1
  replace r1 := Lib.hid r1
  clear H1 l1
  clear cf1 hen1
  unfold byteV
  have q1h := Lib.hid q1
  obtain ⟨kf2, cp2, cf2, hen2, H2⟩ := (hz0.out.stay t0.out k1.out).readD t1.out hrd (by have := hl0.out; have := se1.out; omega)
  replace H2 := Lib.hid H2
  go_wp2_with fail
  with_reducible refine H2.out.mono ?_
  rintro e w2 ⟨s2, t2, k2, l2, (⟨v2, r2, q2, rfl⟩ | ⟨g2, rfl⟩)⟩
  rotate_left
  · skip
    have hf := Lib.hid (F.out lackE _ ⟨s2, t2, k1.out.trans k2, (by have := se1.out; omega), .inr ⟨Gave.then r1.out (Gave.bind g2), rfl⟩⟩)
    clear F
    unfold lackE at hf ⊢
    go_wp2_with fail
    first | exact hf.out | exact ⟨rfl, hf.out⟩
  replace k2 := Lib.hid (k1.out.trans k2)
  have se2 := Lib.hid (show s2.l.length ≤ s.l.length + 6 from (by have := se1.out; omega))
  replace t2 := Lib.hid t2
  replace r2 := Lib.hid r2
  clear H2 l2
  clear cf2 hen2
  unfold byteV
  have q2h := Lib.hid q2
  obtain ⟨x1, hx1, x1b⟩ : ∃ x : Nat, combV k s2.r v2 v1 = x ∧ x < 256 := ⟨_, rfl, combV_lt _ _ _ _ q2h.out q1h.out⟩
  replace hx1 := Lib.hid hx1
  have H3x := combined_any k v2 v1 hk t2.out hn q2h.out q1h.out
  rw [hx1.out] at H3x
  have H3 := H3x
  replace H3 := Lib.hid H3
  go_wp2_with fail
  with_reducible refine H3.out.mono ?_
  rintro e w3 ⟨rfl, t3, k3⟩
  have a3 := Lib.hid (Ran.ask (fun r => combV k r v2 v1) s2)
  have r3 := Ran.set (combR k v2 v1) s2
  have se3 := (show ({ s2 with r := (combR k v2 v1) s2.r } : Ts).l.length ≤ s.l.length + 6 from se2.out)
  generalize hs3 : ({ s2 with r := (combR k v2 v1) s2.r } : Ts) = s3 at r3 t3 se3
  replace hs3 := Lib.hid hs3
  replace k3 := Lib.hid (k2.out.trans k3)
  replace t3 := Lib.hid t3
  replace r3 := Lib.hid r3
  replace se3 := Lib.hid se3
  clear H3
  obtain ⟨kf4, cp4, cf4, hen4, H4⟩ := (hz0.out.stay t0.out k3.out).writeD t3.out hw (x1) x1b (by have := hl0.out; have := se3.out; omega)
  replace H4 := Lib.hid H4
  go_wp2_with fail
  with_reducible refine H4.out.mono ?_
  rintro e w4 ⟨s4, t4, k4, l4, (⟨_u4, r4, q4, rfl⟩ | ⟨g4, rfl⟩)⟩
  rotate_left
  · skip
    have e_x1 := hx1.out
    subst e_x1
    have hf := Lib.hid (F.out lackE _ ⟨s4, t4, k3.out.trans k4, (by have := se3.out; omega), .inr ⟨Gave.then r1.out (Gave.then r2.out (Gave.then a3.out (Gave.then r3.out (Gave.bind g4)))), rfl⟩⟩)
    clear F
    unfold lackE at hf ⊢
    go_wp2_with fail
    first | exact hf.out | exact ⟨rfl, hf.out⟩
  replace k4 := Lib.hid (k3.out.trans k4)
  have se4 := Lib.hid (show s4.l.length ≤ s.l.length + 9 from (by have := se3.out; omega))
  replace t4 := Lib.hid t4
  replace r4 := Lib.hid r4
  clear H4 l4
  clear cf4 hen4
  unfold unitV
  have H5 := tell_any x1 t4.out x1b
  replace H5 := Lib.hid H5
  go_wp2_with fail
  with_reducible refine H5.out.mono ?_
  rintro e w5 ⟨rfl, t5, k5⟩
  have r5 := Ran.set (tellR x1) s4
  have se5 := (show ({ s4 with r := (tellR x1) s4.r } : Ts).l.length ≤ s.l.length + 9 from se4.out)
  generalize hs5 : ({ s4 with r := (tellR x1) s4.r } : Ts) = s5 at r5 t5 se5
  replace hs5 := Lib.hid hs5
  replace k5 := Lib.hid (k4.out.trans k5)
  replace t5 := Lib.hid t5
  replace r5 := Lib.hid r5
  replace se5 := Lib.hid se5
  clear H5
  have e_x1 := hx1.out
  subst e_x1
  have hf := Lib.hid (F.out (.returned (unitV ())) _ (Post.done (r1.out.bind (r2.out.bind (a3.out.bind (r3.out.bind (r4.out.bind (r5.out)))))) t5.out k5.out trivial (by have := se5.out; omega)))
  unfold unitV at hf
  clear F
  go_wp2_with fail
  first | exact hf.out | (go_end0; exact hf.out) | (go_ret; exact hf.out)
def changeM (k cd nd : Nat) : M Unit := M.bind (Go.Proofs.YtknlbmjncginnaaGreatDoor.readO cd nd) fun d => M.bind (M.ask fun r => changeV k r d) fun v => M.bind (M.set (changeR k d)) fun _ => M.bind (writeO cd nd v) fun _ => M.set (tellR v)
theorem change_any (h : Tk K z s w) (hz : Zd K z w c nm fm cd nd co no) (k : Nat) (hk : k < 6) (hn : z.n1 = .string (changeN k)) (hrd : readable cd) (hw : writable cd) (hl : s.l.length ≤ 80) :
    Calls Tryz.prog 142 #[.pointer (some ⟨K.b, 0, none⟩)] w (Post K z s w (changeM k cd nd) unitV (fun _ => True) 12) := by
  obtain ⟨Q, hQ, F⟩ := post_name (Post K z s w (changeM k cd nd) unitV (fun _ => True) 12)
  rw [hQ]
  clear hQ
  replace F := Lib.hid F
  have t0 := Lib.hid h
  have k0 := Lib.hid (Kp.refl K w)
  have hz0 := Lib.hid hz
  have hl0 := Lib.hid hl
  have se0 := Lib.hid (show s.l.length ≤ s.l.length + 0 from Nat.le_refl _)
  clear h hz hl
  go_enter Tryz.func142, Tryz.ntmps142
  obtain ⟨kf1, cp1, cf1, hen1, H1⟩ := (hz0.out.stay t0.out k0.out).readD t0.out hrd (by have := hl0.out; have := se0.out; omega)
  replace H1 := Lib.hid H1
  go_wp2_with fail
  with_reducible refine H1.out.mono ?_
  rintro e w1 ⟨s1, t1, k1, l1, (⟨v1, r1, q1, rfl⟩ | ⟨g1, rfl⟩)⟩
  rotate_left
  · skip
    have hf := Lib.hid (F.out lackE _ ⟨s1, t1, k0.out.trans k1, (by have := se0.out; omega), .inr ⟨Gave.bind g1, rfl⟩⟩)
    clear F
    unfold lackE at hf ⊢
    go_wp2_with fail
    first | exact hf.out | exact ⟨rfl, hf.out⟩
  replace k1 := Lib.hid (k0.out.trans k1)
  have se1 := Lib.hid (show s1.l.length ≤ s.l.length + 3 from (by have := se0.out; omega))
  replace t1 := Lib.hid t1
  replace r1 := Lib.hid r1
  clear H1 l1
  clear cf1 hen1
  unfold byteV
  have q1h := Lib.hid q1
  obtain ⟨x1, hx1, x1b⟩ : ∃ x : Nat, changeV k s1.r v1 = x ∧ x < 256 := ⟨_, rfl, changeV_lt _ _ _ q1h.out⟩
  replace hx1 := Lib.hid hx1
  have H3x := changed_any k v1 hk t1.out hn q1h.out
  rw [hx1.out] at H3x
  have H2 := H3x
  replace H2 := Lib.hid H2
  go_wp2_with fail
  with_reducible refine H2.out.mono ?_
  rintro e w2 ⟨rfl, t2, k2⟩
  have a2 := Lib.hid (Ran.ask (fun r => changeV k r v1) s1)
  have r2 := Ran.set (changeR k v1) s1
  have se2 := (show ({ s1 with r := (changeR k v1) s1.r } : Ts).l.length ≤ s.l.length + 3 from se1.out)
  generalize hs2 : ({ s1 with r := (changeR k v1) s1.r } : Ts) = s2 at r2 t2 se2
  replace hs2 := Lib.hid hs2
  replace k2 := Lib.hid (k1.out.trans k2)
  replace t2 := Lib.hid t2
  replace r2 := Lib.hid r2
  replace se2 := Lib.hid se2
  clear H2
  obtain ⟨kf3, cp3, cf3, hen3, H3⟩ := (hz0.out.stay t0.out k2.out).writeD t2.out hw (x1) x1b (by have := hl0.out; have := se2.out; omega)
  replace H3 := Lib.hid H3
  go_wp2_with fail
  with_reducible refine H3.out.mono ?_
  rintro e w3 ⟨s3, t3, k3, l3, (⟨_u3, r3, q3, rfl⟩ | ⟨g3, rfl⟩)⟩
  rotate_left
  · skip
    have e_x1 := hx1.out
    subst e_x1
    have hf := Lib.hid (F.out lackE _ ⟨s3, t3, k2.out.trans k3, (by have := se2.out; omega), .inr ⟨Gave.then r1.out (Gave.then a2.out (Gave.then r2.out (Gave.bind g3))), rfl⟩⟩)
    clear F
    unfold lackE at hf ⊢
    go_wp2_with fail
    first | exact hf.out | exact ⟨rfl, hf.out⟩
  replace k3 := Lib.hid (k2.out.trans k3)
  have se3 := Lib.hid (show s3.l.length ≤ s.l.length + 6 from (by have := se2.out; omega))
  replace t3 := Lib.hid t3
  replace r3 := Lib.hid r3
  clear H3 l3
  clear cf3 hen3
  unfold unitV
  have H4 := tell_any x1 t3.out x1b
  replace H4 := Lib.hid H4
  go_wp2_with fail
  with_reducible refine H4.out.mono ?_
  rintro e w4 ⟨rfl, t4, k4⟩
  have r4 := Ran.set (tellR x1) s3
  have se4 := (show ({ s3 with r := (tellR x1) s3.r } : Ts).l.length ≤ s.l.length + 6 from se3.out)
  generalize hs4 : ({ s3 with r := (tellR x1) s3.r } : Ts) = s4 at r4 t4 se4
  replace hs4 := Lib.hid hs4
  replace k4 := Lib.hid (k3.out.trans k4)
  replace t4 := Lib.hid t4
  replace r4 := Lib.hid r4
  replace se4 := Lib.hid se4
  clear H4
  have e_x1 := hx1.out
  subst e_x1
  have hf := Lib.hid (F.out (.returned (unitV ())) _ (Post.done (r1.out.bind (a2.out.bind (r2.out.bind (r3.out.bind (r4.out))))) t4.out k4.out trivial (by have := se4.out; omega)))
  unfold unitV at hf
  clear F
  go_wp2_with fail
  first | exact hf.out | (go_end0; exact hf.out) | (go_ret; exact hf.out)
end
end Go.Proofs.YtknlbmjncginnaaGreatDoor
