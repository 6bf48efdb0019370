/-
  The reader's Left, Done, Close and Flag.
-/
import Derived.Test.YtbdhdedlemndeaaDoorSvGF
import Derived.StillTailTactics
import Derived.Test.YtbdhdedlemndeaaDoorSvGA
namespace Go.Proofs.YtbdhdedlemndeaaDoor
open Go.RowKit Go.Shelf
set_option maxRecDepth 100000
set_option maxHeartbeats 1000000

/-- How an attempt ends: E is what it gave up with, 0 if it went well. -/
def Outc (w : World) (b : Nat) (v : Value) (s s' : RS) (x : Option Nat) (t : TypeId) (cs cs' : Array Value) (E : Nat) (e : Ending) (w' : World) : Prop :=
  (E = 0 ∧ e = .returned (.tuple #[]) ∧ Rd w' b v s' ∧ Only2 b x w w' ∧ BoxAt w' x t cs') ∨ (E ≠ 0 ∧ e = fault (E : Int) ∧ (∃ p, Rd w' b v { s with at_ := p }) ∧ Only2 b x w w' ∧ BoxAt w' x t cs)
theorem rattempt_any {b k E : Nat} {caps : Array Value} {v : Value} {s s' : RS} {x : Option Nat} {t : TypeId} {cs cs' : Array Value} (w : World) (h : Rd w b v s) (hx : ∀ y, x = some y → y < w.heap.size ∧ y ≠ b) (hen : ∀ (args : Array Value) (W : World), (callFunc k args).run Tryd.prog W = .ok (.enter k args) W)
    (hdo : Calls Tryd.prog k caps (w.alloc (.cells #[.int .i64 0] 40)) (Outc (w.alloc (.cells #[.int .i64 0] 40)) b v s s' x t cs cs' E)) :
    Calls Tryd.prog 46 #[.pointer (some ⟨b, 0, none⟩), .func (.func k) #[] caps] w fun e w' => e = .returned (.int .i64 (E : Nat)) ∧ Rd w' b v (if E = 0 then s' else s) ∧ Only2 b x w w' ∧ BoxAt w' x t (if E = 0 then cs' else cs) := by
  by_cases hE : E = 0
  · rw [if_pos hE, if_pos hE, hE]
    exact rattempt_ok w h hx hen (hdo.mono fun e w' h => by
      rcases h with ⟨_, h1, h2, h3, h4⟩ | ⟨h0, _⟩
      · exact ⟨h1, h2, h3, h4⟩
      · exact absurd hE h0)
  · rw [if_neg hE, if_neg hE]
    exact rattempt_no w h hE hx hen (hdo.mono fun e w' h => by
      rcases h with ⟨h0, _⟩ | ⟨_, h1, h2, h3, h4⟩
      · exact absurd h0 hE
      · exact ⟨h1, h2, h3, h4⟩)
theorem BoxAt.none (w : World) (t : TypeId) (cs : Array Value) : BoxAt w Option.none t cs := fun y hy => by cases hy
/-- What Done answers. -/
def RS.doneE (s : RS) : Nat := if 0 < s.op then 50 else if 0 < s.left then 59 else 0
/-- What Close answers; what a reader is behind it. -/
def RS.closeE (s : RS) : Nat := if s.op = 0 then 2 else if 0 < s.left then 59 else 0
def RS.closed (s : RS) : RS := { s with op := s.op - 1 }
theorem rdone1 {b p0 : Nat} {v : Value} {s : RS} (w : World) (h : Rd w b v s) (hg : s.Good) (q0 : w.cell? ⟨p0, 0, none⟩ = some (.pointer (some ⟨b, 0, none⟩))) :
    Calls Tryd.prog 47 #[.pointer (some ⟨p0, 0, none⟩)] w (Outc w b v s s none 0 #[] #[] s.doneE) := by
  have c18 := h.head.c18
  have HL := Lib.hid (left_any w h hg)
  have hid : ∀ p : Nat, p = s.at_ → ({ s with at_ := p } : RS) = s := fun p e => by rw [e]
  have fin : ∀ q E, E ≠ 0 → Outc w b v s s none 0 #[] #[] E (fault (E : Int)) (w.drewN q) := fun q E hE => .inr ⟨hE, rfl, ⟨s.at_, h.drewN q⟩, Only2.of_below (below_drewN (Below.refl _ _) q), BoxAt.none _ _ _⟩
  have fin0 : ∀ q, Outc w b v s s none 0 #[] #[] 0 (.returned (.tuple #[])) (w.drewN q) := fun q => .inl ⟨rfl, rfl, h.drewN q, Only2.of_below (below_drewN (Below.refl _ _) q), BoxAt.none _ _ _⟩
  replace fin := Lib.hid fin
  replace fin0 := Lib.hid fin0
  clear h hg hid
  by_cases h1 : 0 < s.op
  · have hE : s.doneE = 50 := if_pos h1
    rw [hE]
    have i1 : (0 : Int) < (s.op : Int) := by omega
    have i2 : decide ((s.op : Int) > 0) = true := decide_eq_true i1
    clear hE HL
    go_enter Tryd.func47, Tryd.ntmps47
    go_wp2_with fail
    refine (refuse_yes _ _).mono ?_
    rintro e w' ⟨rfl, rfl⟩
    have := fin.out 0 50 (by decide)
    unfold fault at this ⊢
    go_wp2_with fail
    exact ⟨rfl, this⟩
  · have h1' : s.op = 0 := by omega
    rw [h1'] at c18
    by_cases h2 : 0 < s.left
    · have hE : s.doneE = 59 := by unfold RS.doneE; rw [if_neg h1, if_pos h2]
      rw [hE]
      generalize s.left = L at *
      have i1 : (0 : Int) < (L : Int) := by omega
      clear hE h1 h1'
      go_enter Tryd.func47, Tryd.ntmps47
      go_wp2_with fail
      refine (refuse_no _ _).mono ?_
      rintro e w' ⟨rfl, rfl⟩
      go_wp2_with fail
      refine HL.out.mono ?_
      rintro e w2 ⟨rfl, q, rfl⟩
      go_wp2_with fail
      refine (refuse_yes _ _).mono ?_
      rintro e w3 ⟨rfl, rfl⟩
      have := fin.out q 59 (by decide)
      unfold fault at this ⊢
      go_wp2_with fail
      exact ⟨rfl, this⟩
    · have hE : s.doneE = 0 := by unfold RS.doneE; rw [if_neg h1, if_neg h2]
      rw [hE]
      have h2' : s.left = 0 := by omega
      rw [h2'] at HL
      clear hE h1 h1' h2 h2'
      go_enter Tryd.func47, Tryd.ntmps47
      go_wp2_with fail
      refine (refuse_no _ _).mono ?_
      rintro e w' ⟨rfl, rfl⟩
      go_wp2_with fail
      refine HL.out.mono ?_
      rintro e w2 ⟨rfl, q, rfl⟩
      go_wp2_with fail
      refine (refuse_no _ _).mono ?_
      rintro e w3 ⟨rfl, rfl⟩
      have := fin0.out q
      go_wp2_with fail
      go_end0
      exact this
theorem rclose1 {b p0 : Nat} {v : Value} {s : RS} (w : World) (h : Rd w b v s) (hg : s.Good) (q0 : w.cell? ⟨p0, 0, none⟩ = some (.pointer (some ⟨b, 0, none⟩))) :
    Calls Tryd.prog 77 #[.pointer (some ⟨p0, 0, none⟩)] w (Outc w b v s s.closed none 0 #[] #[] s.closeE) := by
  have c18 := h.head.c18
  have f18 := h.head.free 18
  have HL := Lib.hid (left_any w h hg)
  have fin : ∀ q E, E ≠ 0 → Outc w b v s s.closed none 0 #[] #[] E (fault (E : Int)) (w.drewN q) := fun q E hE => .inr ⟨hE, rfl, ⟨s.at_, h.drewN q⟩, Only2.of_below (below_drewN (Below.refl _ _) q), BoxAt.none _ _ _⟩
  have fin0 : ∀ q, Outc w b v s s.closed none 0 #[] #[] 0 (.returned (.tuple #[])) ((w.drewN q).setCell ⟨b, 18, none⟩ (.int .i64 (s.op - 1 : Nat))) := fun q => .inl ⟨rfl, rfl, (h.drewN q).set18 (s.op - 1), (Only2.of_below (below_drewN (Below.refl _ _) q)).trans (Only2.of_set _ 18 _) (.inl rfl), BoxAt.none _ _ _⟩
  have h16 := hg.op
  replace fin := Lib.hid fin
  replace fin0 := Lib.hid fin0
  clear h hg
  by_cases h1 : s.op = 0
  · have hE : s.closeE = 2 := if_pos h1
    rw [hE]
    rw [h1] at c18
    clear hE HL
    go_enter Tryd.func77, Tryd.ntmps77
    go_wp2_with fail
    refine (refuse_yes _ _).mono ?_
    rintro e w' ⟨rfl, rfl⟩
    have := fin.out 0 2 (by decide)
    unfold fault at this ⊢
    go_wp2_with fail
    exact ⟨rfl, this⟩
  · by_cases h2 : 0 < s.left
    · have hE : s.closeE = 59 := by unfold RS.closeE; rw [if_neg h1, if_pos h2]
      rw [hE]
      generalize s.left = L at *
      have i0 : ((s.op : Int) == 0) = false := by rw [beq_eq_false_iff_ne]; omega
      have i1 : (0 : Int) < (L : Int) := by omega
      clear hE h16
      go_enter Tryd.func77, Tryd.ntmps77
      go_wp2_with fail
      refine (refuse_no _ _).mono ?_
      rintro e w' ⟨rfl, rfl⟩
      go_wp2_with fail
      refine HL.out.mono ?_
      rintro e w2 ⟨rfl, q, rfl⟩
      go_wp2_with fail
      refine (refuse_yes _ _).mono ?_
      rintro e w3 ⟨rfl, rfl⟩
      have := fin.out q 59 (by decide)
      unfold fault at this ⊢
      go_wp2_with fail
      exact ⟨rfl, this⟩
    · have hE : s.closeE = 0 := by unfold RS.closeE; rw [if_neg h1, if_neg h2]
      rw [hE]
      have h2' : s.left = 0 := by omega
      rw [h2'] at HL
      have i0 : ((s.op : Int) == 0) = false := by rw [beq_eq_false_iff_ne]; omega
      have w1 : wrap64 ((s.op : Int) - 1) = ((s.op - 1 : Nat) : Int) := by unfold wrap64; omega
      have w2 : IntKind.i64.wrap ((s.op : Int) - 1) = ((s.op - 1 : Nat) : Int) := by simp only [IntKind.wrap_i64]; omega
      clear hE h2 h2' h16
      go_enter Tryd.func77, Tryd.ntmps77
      go_wp2_with fail
      refine (refuse_no _ _).mono ?_
      rintro e w' ⟨rfl, rfl⟩
      go_wp2_with fail
      refine HL.out.mono ?_
      rintro e w2 ⟨rfl, q, rfl⟩
      go_wp2_with fail
      refine (refuse_no _ _).mono ?_
      rintro e w3 ⟨rfl, rfl⟩
      have := fin0.out q
      go_wp2_with fail
      go_end0
      exact this
theorem rdone_any {b : Nat} {v : Value} {s : RS} (w : World) (h : Rd w b v s) (hg : s.Good) :
    Calls Tryd.prog 26 #[.pointer (some ⟨b, 0, none⟩)] w fun e w' => e = .returned (.int .i64 (s.doneE : Nat)) ∧ Rd w' b v (if s.doneE = 0 then s else s) ∧ w.grownBy w' (some b) := by
  have hmf := makeF
  have hP := Whole.fresh w 51 #[.pointer (some ⟨b, 0, none⟩)]
  have hB := (Below.refl w.heap.size w).alloc (Nat.le_refl _) (.cells #[.pointer (some ⟨b, 0, none⟩)] 51)
  have h2 := h.below hB
  generalize hW : w.alloc (.cells #[.pointer (some ⟨b, 0, none⟩)] 51) = W at *
  have HA := rattempt_any (k := 47) (caps := #[.pointer (some ⟨w.heap.size, 0, none⟩)]) (x := none) (t := 0) (cs := #[]) (cs' := #[]) W h2 (fun y hy => by cases hy) (enters_of Tryd.func47 (by kernel_rfl) rfl)
    (rdone1 _ (h2.below ((Below.refl _ W).alloc (Nat.le_refl _) _)) hg (by rw [(hP.alloc _).cell 0]; rfl))
  have p0 := hP.cell 0
  simp only [List.getElem?_toArray, List.getElem?_cons_zero] at p0
  generalize s.doneE = E at *
  generalize (if E = 0 then s else s) = S2 at *
  replace HA := Lib.hid HA
  replace hB := Lib.hid hB
  clear h hg h2 hP
  go_enter Tryd.func26, Tryd.ntmps26
  go_upto_region 1 with (fail)
  clear hW
  go_wp2_with fail
  refine HA.out.mono ?_
  rintro e w' ⟨rfl, h3, h4, _⟩
  have hG := Lib.hid (only2_grown0 h4 hB.out)
  replace h3 := Lib.hid h3
  clear HA h4 hmf p0
  go_wp2_with fail
  go_ret
  exact ⟨rfl, h3.out, hG.out⟩
theorem rclose_any {b : Nat} {v : Value} {s : RS} (w : World) (h : Rd w b v s) (hg : s.Good) :
    Calls Tryd.prog 65 #[.pointer (some ⟨b, 0, none⟩)] w fun e w' => e = .returned (.int .i64 (s.closeE : Nat)) ∧ Rd w' b v (if s.closeE = 0 then s.closed else s) ∧ w.grownBy w' (some b) := by
  have hmf := makeF
  have hP := Whole.fresh w 51 #[.pointer (some ⟨b, 0, none⟩)]
  have hB := (Below.refl w.heap.size w).alloc (Nat.le_refl _) (.cells #[.pointer (some ⟨b, 0, none⟩)] 51)
  have h2 := h.below hB
  generalize hW : w.alloc (.cells #[.pointer (some ⟨b, 0, none⟩)] 51) = W at *
  have HA := rattempt_any (k := 77) (caps := #[.pointer (some ⟨w.heap.size, 0, none⟩)]) (x := none) (t := 0) (cs := #[]) (cs' := #[]) W h2 (fun y hy => by cases hy) (enters_of Tryd.func77 (by kernel_rfl) rfl)
    (rclose1 _ (h2.below ((Below.refl _ W).alloc (Nat.le_refl _) _)) hg (by rw [(hP.alloc _).cell 0]; rfl))
  have p0 := hP.cell 0
  simp only [List.getElem?_toArray, List.getElem?_cons_zero] at p0
  generalize s.closeE = E at *
  generalize (if E = 0 then s.closed else s) = S2 at *
  replace HA := Lib.hid HA
  replace hB := Lib.hid hB
  clear h hg h2 hP
  go_enter Tryd.func65, Tryd.ntmps65
  go_upto_region 1 with (fail)
  clear hW
  go_wp2_with fail
  refine HA.out.mono ?_
  rintro e w' ⟨rfl, h3, h4, _⟩
  have hG := Lib.hid (only2_grown0 h4 hB.out)
  replace h3 := Lib.hid h3
  clear HA h4 hmf p0
  go_wp2_with fail
  go_ret
  exact ⟨rfl, h3.out, hG.out⟩
theorem num_one (s : RS) : s.num 1 = s.f s.at_ := by simp [RS.num, numN, shiftF]
/-- What Flag answers. -/
def RS.flagE (s : RS) : Nat := if s.left < 1 then 56 else if 1 < s.num 1 then 57 else 0
end Go.Proofs.YtbdhdedlemndeaaDoor
namespace Go.Proofs.YtbdhdedlemndeaaDoor
open Go.RowKit Go.Shelf
set_option maxRecDepth 100000
set_option maxHeartbeats 1000000

theorem RS.num_lt {w : World} {b : Nat} {v : Value} {s : RS} (h : Rd w b v s) (hg : s.Good) {z : Nat} (hz : z ≤ s.left) : s.num z < 2 ^ (8 * z) := by
  refine numN_lt (fun i hi => h.body.1 _ ?_)
  have h1 := hg.end_le
  have h2 := hg.le
  unfold RS.left at hz
  omega
theorem RS.Good.adv {s : RS} (h : s.Good) {z : Nat} (hz : z ≤ s.left) : (s.adv z).Good := by
  have hle := h.le
  exact ⟨h.op, h.n, by show s.at_ + z ≤ s.endN; unfold RS.left at hz; omega, h.mono, h.bnd⟩
theorem RS.adv_left (s : RS) (z : Nat) : (s.adv z).left = s.left - z := by
  show s.endN - (s.at_ + z) = s.endN - s.at_ - z
  omega
theorem rgrown_trans {a w w' : World} {g : Nat} (h : a.grownBy w (some g)) (k : w.grownBy w' (some g)) : a.grownBy w' (some g) :=
  ⟨k.os.trans h.os, k.tape.trans h.tape, k.output.trans h.output, Nat.le_trans h.size k.size, fun b hb hne => (k.block b (Nat.lt_of_lt_of_le hb h.size) hne).trans (h.block b hb hne)⟩
/-- What Open answers; what a reader is behind it. -/
def RS.openE (s : RS) (tag : Nat) : Nat := if s.op = 16 then 4 else if s.left < 5 then 56 else if s.f s.at_ ≠ tag then 58 else if s.left - 5 < (s.adv 1).num 4 then 54 else 0
def RS.opened (s : RS) : RS := { s with at_ := s.at_ + 5, ends := upd s.ends s.op (s.at_ + 5 + (s.adv 1).num 4), op := s.op + 1 }
theorem ropen1_16 {b p0 p1 tag : Nat} {v : Value} {s : RS} (w : World) (h : Rd w b v s) (q0 : w.cell? ⟨p0, 0, none⟩ = some (.pointer (some ⟨b, 0, none⟩))) (ho : s.op = 16) :
    Calls Tryd.prog 72 #[.pointer (some ⟨p0, 0, none⟩), .pointer (some ⟨p1, 0, none⟩)] w (Outc w b v s s.opened none 0 #[] #[] (s.openE tag)) := by
  have hE : s.openE tag = 4 := if_pos ho
  rw [hE]
  have c18 := h.head.c18
  rw [ho] at c18
  have fin : Outc w b v s s.opened none 0 #[] #[] 4 (fault ((4 : Nat) : Int)) w := .inr ⟨by decide, rfl, ⟨s.at_, h⟩, Only2.refl _ _ _, BoxAt.none _ _ _⟩
  replace fin := Lib.hid fin
  clear h ho hE
  go_enter Tryd.func72, Tryd.ntmps72
  go_wp2_with fail
  refine (refuse_yes _ _).mono ?_
  rintro e w' ⟨rfl, rfl⟩
  have := fin.out
  unfold fault at this ⊢
  go_wp2_with fail
  exact ⟨rfl, this⟩
theorem ropen1_56 {b p0 p1 tag : Nat} {v : Value} {s : RS} (w : World) (h : Rd w b v s) (hg : s.Good) (q0 : w.cell? ⟨p0, 0, none⟩ = some (.pointer (some ⟨b, 0, none⟩))) (ho : s.op ≠ 16) (h5 : s.left < 5) :
    Calls Tryd.prog 72 #[.pointer (some ⟨p0, 0, none⟩), .pointer (some ⟨p1, 0, none⟩)] w (Outc w b v s s.opened none 0 #[] #[] (s.openE tag)) := by
  have hE : s.openE tag = 56 := by unfold RS.openE; rw [if_neg ho, if_pos h5]
  rw [hE]
  have c18 := h.head.c18
  have HL := Lib.hid (left_any w h hg)
  have i0 : ((s.op : Int) == 16) = false := by rw [beq_eq_false_iff_ne]; omega
  have fin : ∀ q, Outc w b v s s.opened none 0 #[] #[] 56 (fault ((56 : Nat) : Int)) (w.drewN q) := fun q => .inr ⟨by decide, rfl, ⟨s.at_, h.drewN q⟩, Only2.of_below (below_drewN (Below.refl _ _) q), BoxAt.none _ _ _⟩
  replace fin := Lib.hid fin
  generalize s.left = L at *
  have i1 : (L : Int) < 5 := by omega
  have i2 : decide ((L : Int) < 5) = true := decide_eq_true i1
  clear h hg hE
  go_enter Tryd.func72, Tryd.ntmps72
  go_wp2_with fail
  refine (refuse_no _ _).mono ?_
  rintro e w' ⟨rfl, rfl⟩
  go_wp2_with fail
  refine HL.out.mono ?_
  rintro e w2 ⟨rfl, q, rfl⟩
  go_wp2_with fail
  refine (refuse_yes _ _).mono ?_
  rintro e w3 ⟨rfl, rfl⟩
  have := fin.out q
  unfold fault at this ⊢
  go_wp2_with fail
  exact ⟨rfl, this⟩
theorem ropen1_58 {b p0 p1 tag : Nat} {v : Value} {s : RS} (w : World) (h : Rd w b v s) (hg : s.Good) (q0 : w.cell? ⟨p0, 0, none⟩ = some (.pointer (some ⟨b, 0, none⟩))) (q1 : w.cell? ⟨p1, 0, none⟩ = some (.int .u8 (tag : Nat))) (n1 : p1 ≠ b) (ho : s.op ≠ 16) (h5 : ¬ s.left < 5) (ht : s.f s.at_ ≠ tag) :
    Calls Tryd.prog 72 #[.pointer (some ⟨p0, 0, none⟩), .pointer (some ⟨p1, 0, none⟩)] w (Outc w b v s s.opened none 0 #[] #[] (s.openE tag)) := by
  have hE : s.openE tag = 58 := by unfold RS.openE; rw [if_neg ho, if_neg h5, if_pos ht]
  rw [hE]
  have c18 := h.head.c18
  have HL := Lib.hid (left_any w h hg)
  have i0 : ((s.op : Int) == 16) = false := by rw [beq_eq_false_iff_ne]; omega
  have HC := Lib.hid (fun (W : World) (hW : Rd W b v s) => next_uint8_ok W hW hg (by omega))
  have hX : numN (shiftF s.at_ s.f) 1 = s.f s.at_ := num_one s
  rw [hX] at HC
  have hh := Lib.hid h
  generalize s.left = L at *
  generalize s.f s.at_ = X at *
  have i1 : ¬ (L : Int) < 5 := by omega
  have i2 : decide ((L : Int) < 5) = false := decide_eq_false i1
  have i3 : ((X : Int) != (tag : Int)) = true := by rw [bne_iff_ne]; omega
  have hl0 := World.block_lt_of_cell? w _ q0
  have hl1 := World.block_lt_of_cell? w _ q1
  clear h hg hE hX
  go_enter Tryd.func72, Tryd.ntmps72
  go_wp2_with fail
  refine (refuse_no _ _).mono ?_
  rintro e w' ⟨rfl, rfl⟩
  go_wp2_with fail
  refine HL.out.mono ?_
  rintro e w2 ⟨rfl, q, rfl⟩
  go_wp2_with fail
  refine (refuse_no _ _).mono ?_
  rintro e w3 ⟨rfl, rfl⟩
  go_upto_region 2 with (fail)
  clear HL c18
  have hh2 := Lib.hid (hh.out.drewN q)
  have o2 : Only2 b none w' (w'.drewN q) := Only2.of_below (below_drewN (Below.refl _ _) q)
  have r0 : (w'.drewN q).cell? ⟨p0, 0, none⟩ = some (.pointer (some ⟨b, 0, none⟩)) := q0
  have r1 : (w'.drewN q).cell? ⟨p1, 0, none⟩ = some (.int .u8 (tag : Nat)) := q1
  have m0 : p0 < (w'.drewN q).heap.size := hl0
  have m1 : p1 < (w'.drewN q).heap.size := hl1
  generalize w'.drewN q = W at *
  clear q0 q1 hh hl0 hl1
  have hd := Lib.hid (hh2.out.below (Below.drew (Below.refl _ W)))
  refine wp_region_any (by kernel_rfl) ?_
  change wpAny _ _ _ _ _ _ _ (World.drew _)
  refine wpAny_ready (rs := [0, 2]) (by kernel_rfl) (by simp) ?_
  refine AllReady.cons rfl (fun K hK => ?_) (AllReady.cons rfl (fun K hK => ?_) AllReady.nil)
  · go_simp
    refine hK _ _ ?_
    clear hK K
    refine wpAny_ready (rs := [1, 2]) (by kernel_rfl) (by simp) ?_
    refine AllReady.cons rfl (fun K hK => ?_) (AllReady.cons rfl (fun K hK => ?_) AllReady.nil)
    · go_simp
      refine (HC.out _ hd.out).mono ?_
      rintro e V ⟨rfl, hR, hG⟩
      have k1 : V.cell? ⟨p1, 0, none⟩ = some (.int .u8 (tag : Nat)) := (cell_of_block (hG.block p1 m1 (fun e => n1 (by injection e))) 0).trans r1
      have this : Outc w' b v s s.opened none 0 #[] #[] 58 (fault ((58 : Nat) : Int)) V := .inr ⟨by decide, rfl, ⟨s.at_ + 1, hR⟩, (o2.trans (Only2.of_below (Below.drew (Below.refl _ W))) (.inl rfl)).trans (Only2.of_grownb hG) (.inl rfl), BoxAt.none _ _ _⟩
      replace this := Lib.hid this
      clear hR hG r0 r1
      refine hK _ _ ?_
      clear hK K
      refine wpAny_ready (rs := [2]) (by kernel_rfl) (by simp) ?_
      refine AllReady.cons rfl (fun K hK => ?_) AllReady.nil
      go_simp
      refine hK _ _ ?_
      clear hK K
      refine wpAny_ready (rs := [3]) (by kernel_rfl) (by simp) ?_
      refine AllReady.cons rfl (fun K hK => ?_) AllReady.nil
      go_simp
      refine hK _ _ ?_
      clear hK K
      refine wpAny_ready (rs := [4]) (by kernel_rfl) (by simp) ?_
      refine AllReady.cons rfl (fun K hK => ?_) AllReady.nil
      go_simp
      refine (refuse_yes _ _).mono ?_
      rintro e V2 ⟨rfl, rfl⟩
      replace this := this.out
      unfold fault at this ⊢
      clear hK
      go_wp2_with fail
      exact ⟨rfl, this⟩
    · go_simp
      refine hK _ _ ?_
      clear hK K
      refine wpAny_ready (rs := [1]) (by kernel_rfl) (by simp) ?_
      refine AllReady.cons rfl (fun K hK => ?_) AllReady.nil
      go_simp
      refine (HC.out _ hd.out).mono ?_
      rintro e V ⟨rfl, hR, hG⟩
      have k1 : V.cell? ⟨p1, 0, none⟩ = some (.int .u8 (tag : Nat)) := (cell_of_block (hG.block p1 m1 (fun e => n1 (by injection e))) 0).trans r1
      have this : Outc w' b v s s.opened none 0 #[] #[] 58 (fault ((58 : Nat) : Int)) V := .inr ⟨by decide, rfl, ⟨s.at_ + 1, hR⟩, (o2.trans (Only2.of_below (Below.drew (Below.refl _ W))) (.inl rfl)).trans (Only2.of_grownb hG) (.inl rfl), BoxAt.none _ _ _⟩
      replace this := Lib.hid this
      clear hR hG r0 r1
      refine hK _ _ ?_
      clear hK K
      refine wpAny_ready (rs := [3]) (by kernel_rfl) (by simp) ?_
      refine AllReady.cons rfl (fun K hK => ?_) AllReady.nil
      go_simp
      refine hK _ _ ?_
      clear hK K
      refine wpAny_ready (rs := [4]) (by kernel_rfl) (by simp) ?_
      refine AllReady.cons rfl (fun K hK => ?_) AllReady.nil
      go_simp
      refine (refuse_yes _ _).mono ?_
      rintro e V2 ⟨rfl, rfl⟩
      replace this := this.out
      unfold fault at this ⊢
      clear hK
      go_wp2_with fail
      exact ⟨rfl, this⟩
  · go_simp
    refine hK _ _ ?_
    clear hK K
    refine wpAny_ready (rs := [0]) (by kernel_rfl) (by simp) ?_
    refine AllReady.cons rfl (fun K hK => ?_) AllReady.nil
    go_simp
    refine hK _ _ ?_
    clear hK K
    refine wpAny_ready (rs := [1]) (by kernel_rfl) (by simp) ?_
    refine AllReady.cons rfl (fun K hK => ?_) AllReady.nil
    go_simp
    refine (HC.out _ hd.out).mono ?_
    rintro e V ⟨rfl, hR, hG⟩
    have k1 : V.cell? ⟨p1, 0, none⟩ = some (.int .u8 (tag : Nat)) := (cell_of_block (hG.block p1 m1 (fun e => n1 (by injection e))) 0).trans r1
    have this : Outc w' b v s s.opened none 0 #[] #[] 58 (fault ((58 : Nat) : Int)) V := .inr ⟨by decide, rfl, ⟨s.at_ + 1, hR⟩, (o2.trans (Only2.of_below (Below.drew (Below.refl _ W))) (.inl rfl)).trans (Only2.of_grownb hG) (.inl rfl), BoxAt.none _ _ _⟩
    replace this := Lib.hid this
    clear hR hG r0 r1
    refine hK _ _ ?_
    clear hK K
    refine wpAny_ready (rs := [3]) (by kernel_rfl) (by simp) ?_
    refine AllReady.cons rfl (fun K hK => ?_) AllReady.nil
    go_simp
    refine hK _ _ ?_
    clear hK K
    refine wpAny_ready (rs := [4]) (by kernel_rfl) (by simp) ?_
    refine AllReady.cons rfl (fun K hK => ?_) AllReady.nil
    go_simp
    refine (refuse_yes _ _).mono ?_
    rintro e V2 ⟨rfl, rfl⟩
    replace this := this.out
    unfold fault at this ⊢
    clear hK
    go_wp2_with fail
    exact ⟨rfl, this⟩
theorem Rd.adv1 {w : World} {b : Nat} {v : Value} {s : RS} (h : Rd w b v s) (z : Nat) : Rd (w.setCell ⟨b, 1, none⟩ (.int .i64 ((s.at_ + z : Nat) : Int))) b v (s.adv z) := h.set1 (s.at_ + z)
end Go.Proofs.YtbdhdedlemndeaaDoor
namespace Go.Proofs.YtbdhdedlemndeaaDoor
open Go.RowKit Go.Shelf
set_option maxRecDepth 100000
set_option maxHeartbeats 1000000

theorem lt_16 {q : Nat} (h : q ≤ 16) (ho : q ≠ 16) : q < 16 ∧ (q : Int) < 16 := ⟨by omega, by omega⟩
theorem four_le {L : Nat} (h : ¬ L < 5) : 4 ≤ L - 1 := by omega
theorem w64_small {X : Nat} (h : X < 4294967296) : wrap64 (X : Int) = (X : Int) ∧ IntKind.i64.wrap (X : Int) = (X : Int) := ⟨by unfold wrap64; omega, by simp only [IntKind.wrap_i64]; omega⟩
theorem w64_at {B X : Nat} (h : B + 5 + X ≤ 16777216) : ∃ A Z, B + 1 + 4 = A ∧ Z = B + 5 + X ∧ wrap64 ((A : Int) + (X : Int)) = (Z : Int) ∧ IntKind.i64.wrap ((A : Int) + (X : Int)) = (Z : Int) := ⟨_, _, rfl, rfl, by unfold wrap64; omega, by simp only [IntKind.wrap_i64]; omega⟩
theorem w64_op {q : Nat} (h : q ≤ 16) : wrap64 ((q : Int) + 1) = ((q + 1 : Nat) : Int) ∧ IntKind.i64.wrap ((q : Int) + 1) = ((q + 1 : Nat) : Int) := ⟨by unfold wrap64; omega, by simp only [IntKind.wrap_i64]; omega⟩
theorem opened_fits {A E n L X : Nat} (h1 : E ≤ n) (h2 : n ≤ 16777216) (h3 : L = E - A) (h4 : ¬ L < 5) (h5 : ¬ L - 5 < X) : A + 5 + X ≤ 16777216 := by omega
theorem gt_yes {L X : Nat} (h : L - 5 < X) : decide ((X : Int) > ((L - 5 : Nat) : Int)) = true := decide_eq_true (by omega)
theorem gt_no {L X : Nat} (h : ¬ L - 5 < X) : decide ((X : Int) > ((L - 5 : Nat) : Int)) = false := decide_eq_false (by omega)
theorem ropen1_54 {b p0 p1 tag : Nat} {v : Value} {s : RS} (w : World) (h : Rd w b v s) (hg : s.Good) (q0 : w.cell? ⟨p0, 0, none⟩ = some (.pointer (some ⟨b, 0, none⟩))) (q1 : w.cell? ⟨p1, 0, none⟩ = some (.int .u8 (tag : Nat))) (n0 : p0 ≠ b) (n1 : p1 ≠ b) (ho : s.op ≠ 16) (h5 : ¬ s.left < 5) (ht : s.f s.at_ = tag) (hn : s.left - 5 < (s.adv 1).num 4) :
    Calls Tryd.prog 72 #[.pointer (some ⟨p0, 0, none⟩), .pointer (some ⟨p1, 0, none⟩)] w (Outc w b v s s.opened none 0 #[] #[] (s.openE tag)) := by
  have hE : s.openE tag = 54 := by unfold RS.openE; rw [if_neg ho, if_neg h5, if_neg (by rw [ht]; exact fun h => h rfl), if_pos hn]
  rw [hE]
  have c18 := h.head.c18
  have HL := Lib.hid (left_any w h hg)
  have i0 : ((s.op : Int) == 16) = false := by rw [beq_eq_false_iff_ne]; omega
  have HC := Lib.hid (fun (W : World) (hW : Rd W b v s) => next_uint8_ok W hW hg (by omega))
  have hX : numN (shiftF s.at_ s.f) 1 = s.f s.at_ := num_one s
  have g1 := hg.adv (z := 1) (by omega)
  have l1 := s.adv_left 1
  have HD := Lib.hid (fun (W : World) (hW : Rd W b v (s.adv 1)) => next_uint32_ok W hW g1 (by rw [l1]; exact four_le h5))
  have hb : (s.adv 1).num 4 < 4294967296 := RS.num_lt (h.adv1 1) g1 (z := 4) (by rw [l1]; exact four_le h5)
  have g5 := g1.adv (z := 4) (by rw [l1]; exact four_le h5)
  have l5 := (s.adv 1).adv_left 4
  have HL5 := Lib.hid (fun (W : World) (hW : Rd W b v ((s.adv 1).adv 4)) => left_any W hW g5)
  have hN : (s.adv 1).num 4 = numN (shiftF (s.adv 1).at_ (s.adv 1).f) 4 := rfl
  rw [hX, ht] at HC
  have hl54 : ((s.adv 1).adv 4).left = s.left - 5 := by rw [l5, l1, Nat.sub_sub]
  rw [hl54] at HL5
  have hh := Lib.hid h
  have h16 := hg.op
  rw [hN] at hn hb
  obtain ⟨L, hL⟩ : ∃ L, s.left = L := ⟨_, rfl⟩
  rw [hL] at HL HL5 hn h5
  generalize numN (shiftF (s.adv 1).at_ (s.adv 1).f) 4 = X at *
  have i1 : ¬ (L : Int) < 5 := by omega
  have i2 : decide ((L : Int) < 5) = false := decide_eq_false i1
  have i3 : ((tag : Int) != (tag : Int)) = false := by simp
  have hl0 := World.block_lt_of_cell? w _ q0
  have hl1 := World.block_lt_of_cell? w _ q1
  have ⟨w1, w2⟩ := w64_small hb
  have j1 := gt_yes hn
  have j2 : L - 5 < X := hn
  clear h hg hE hX hN l1 l5 hl54 g1 g5 hL h16
  replace hb := Lib.hid hb
  replace hn := Lib.hid hn
  go_enter Tryd.func72, Tryd.ntmps72
  go_wp2_with fail
  refine (refuse_no _ _).mono ?_
  rintro e w' ⟨rfl, rfl⟩
  go_wp2_with fail
  refine HL.out.mono ?_
  rintro e w2 ⟨rfl, q, rfl⟩
  go_wp2_with fail
  refine (refuse_no _ _).mono ?_
  rintro e w3 ⟨rfl, rfl⟩
  go_upto_region 2 with (fail)
  clear HL c18
  have hh2 := Lib.hid (hh.out.drewN q)
  have o2 : Only2 b none w' (w'.drewN q) := Only2.of_below (below_drewN (Below.refl _ _) q)
  have r0 : (w'.drewN q).cell? ⟨p0, 0, none⟩ = some (.pointer (some ⟨b, 0, none⟩)) := q0
  have r1 : (w'.drewN q).cell? ⟨p1, 0, none⟩ = some (.int .u8 (tag : Nat)) := q1
  have m0 : p0 < (w'.drewN q).heap.size := hl0
  have m1 : p1 < (w'.drewN q).heap.size := hl1
  generalize w'.drewN q = W at *
  clear q0 q1 hh hl0 hl1
  have hd := Lib.hid (hh2.out.below (Below.drew (Below.refl _ W)))
  go_region_held3 (fun V => V.cell? ⟨p0, 0, none⟩ = some (.pointer (some ⟨b, 0, none⟩)) ∧ V.cell? ⟨p1, 0, none⟩ = some (.int .u8 (tag : Nat)))
    (first | exact ⟨r0, r1⟩ | exact ⟨k0, k1⟩ | go_keep)
    (first
      | (go_at_call 73; (with_reducible refine (HC.out _ ?_).mono ?_); (first | exact hd.out | exact hh2.out); rintro e V ⟨rfl, hR, hG⟩; have k0 : V.cell? ⟨p0, 0, none⟩ = some (.pointer (some ⟨b, 0, none⟩)) := (cell_of_block (hG.block p0 m0 (fun e => n0 (by injection e))) 0).trans r0; have k1 : V.cell? ⟨p1, 0, none⟩ = some (.int .u8 (tag : Nat)) := (cell_of_block (hG.block p1 m1 (fun e => n1 (by injection e))) 0).trans r1)
      | (go_at_call 48; (with_reducible refine (refuse_no _ _).mono ?_); rintro e V2 ⟨rfl, rfl⟩))
  all_goals
    have o3 := (o2.trans (Only2.of_below (Below.drew (Below.refl _ W))) (.inl rfl)).trans (Only2.of_grownb (o := none) hG) (.inl rfl)
    have hRh := Lib.hid (show Rd V2 b v (s.adv 1) from hR)
    have m3 : p0 < V2.heap.size := Nat.lt_of_lt_of_le m0 hG.size
    clear HC hd hh2 o2 r0 r1 hR hG k1 i2 i3 i1
    go_wp2_with fail
    refine (HD.out _ hRh.out).mono ?_
    rintro e V3 ⟨rfl, hR3, hG3⟩
    have k3 : V3.cell? ⟨p0, 0, none⟩ = some (.pointer (some ⟨b, 0, none⟩)) := (cell_of_block (hG3.block p0 m3 (fun e => n0 (by injection e))) 0).trans k0
    have o4 := o3.trans (Only2.of_grownb (o := none) hG3) (.inl rfl)
    have hR3h := Lib.hid (show Rd V3 b v ((s.adv 1).adv 4) from hR3)
    clear HD hRh hR3 hG3 k0 o3 m3
    go_wp2_with fail
    refine (HL5.out _ hR3h.out).mono ?_
    rintro e V4 ⟨rfl, q4, rfl⟩
    have o5 := o4.trans (Only2.of_below (below_drewN (Below.refl _ V3) q4)) (.inl rfl)
    have hR4 := Lib.hid (hR3h.out.drewN q4)
    have k4 : (V3.drewN q4).cell? ⟨p0, 0, none⟩ = some (.pointer (some ⟨b, 0, none⟩)) := k3
    generalize V3.drewN q4 = W4 at *
    clear HL5 hR3h o4 k3
    go_wp2_with fail
    refine (refuse_yes _ _).mono ?_
    rintro e V5 ⟨rfl, rfl⟩
    have this : Outc w' b v s s.opened none 0 #[] #[] 54 (fault ((54 : Nat) : Int)) V5 := .inr ⟨by decide, rfl, ⟨s.at_ + 1 + 4, hR4.out⟩, o5, BoxAt.none _ _ _⟩
    unfold fault at this ⊢
    go_wp2_with fail
    exact ⟨rfl, this⟩
theorem keepE {w : World} {b p0 at_ : Nat} (q : Nat) (u : Value) (n0 : p0 ≠ b) (hq : q < 16) (k : w.cell? ⟨p0, 0, none⟩ = some (.pointer (some ⟨b, 0, none⟩))) (c1 : w.cell? ⟨b, 1, none⟩ = some (.int .i64 (at_ : Nat))) (c18 : w.cell? ⟨b, 18, none⟩ = some (.int .i64 (q : Nat))) :
    (w.drew.setCell ⟨b, 2 + q, none⟩ u).cell? ⟨p0, 0, none⟩ = some (.pointer (some ⟨b, 0, none⟩)) ∧ (w.drew.setCell ⟨b, 2 + q, none⟩ u).cell? ⟨b, 1, none⟩ = some (.int .i64 (at_ : Nat)) ∧ (w.drew.setCell ⟨b, 2 + q, none⟩ u).cell? ⟨b, 18, none⟩ = some (.int .i64 (q : Nat)) :=
  by
    have h0 : (⟨b, 2 + q, none⟩ : Addr) ≠ ⟨p0, 0, none⟩ := fun e => by injection e with e; exact n0 e.symm
    have h1 : (⟨b, 2 + q, none⟩ : Addr) ≠ ⟨b, 1, none⟩ := fun e => by injection e with _ e; omega
    have h2 : (⟨b, 2 + q, none⟩ : Addr) ≠ ⟨b, 18, none⟩ := fun e => by injection e with _ e; omega
    refine ⟨?_, ?_, ?_⟩
    · rw [World.cell?_setCell_other (h := h0)]; exact k
    · rw [World.cell?_setCell_other (h := h1)]; exact c1
    · rw [World.cell?_setCell_other (h := h2)]; exact c18
theorem ropen1_ok {b p0 p1 tag : Nat} {v : Value} {s : RS} (w : World) (h : Rd w b v s) (hg : s.Good) (q0 : w.cell? ⟨p0, 0, none⟩ = some (.pointer (some ⟨b, 0, none⟩))) (q1 : w.cell? ⟨p1, 0, none⟩ = some (.int .u8 (tag : Nat))) (n0 : p0 ≠ b) (n1 : p1 ≠ b) (ho : s.op ≠ 16) (h5 : ¬ s.left < 5) (ht : s.f s.at_ = tag) (hn : ¬ s.left - 5 < (s.adv 1).num 4) :
    Calls Tryd.prog 72 #[.pointer (some ⟨p0, 0, none⟩), .pointer (some ⟨p1, 0, none⟩)] w (Outc w b v s s.opened none 0 #[] #[] (s.openE tag)) := by
  have hE : s.openE tag = 0 := by unfold RS.openE; rw [if_neg ho, if_neg h5, if_neg (by rw [ht]; exact fun h => h rfl), if_neg hn]
  rw [hE]
  have hgn := hg.n
  have hgl := hg.le
  have hge := hg.end_le
  have hlE : s.left = s.endN - s.at_ := rfl
  have hop : s.opened = { s with at_ := s.at_ + 5, ends := upd s.ends s.op (s.at_ + 5 + numN (shiftF (s.adv 1).at_ (s.adv 1).f) 4), op := s.op + 1 } := rfl
  rw [hop]
  have c18 := h.head.c18
  have HL := Lib.hid (left_any w h hg)
  have i0 : ((s.op : Int) == 16) = false := by rw [beq_eq_false_iff_ne]; omega
  have HC := Lib.hid (fun (W : World) (hW : Rd W b v s) => next_uint8_ok W hW hg (by omega))
  have hX : numN (shiftF s.at_ s.f) 1 = s.f s.at_ := num_one s
  have g1 := hg.adv (z := 1) (by omega)
  have l1 := s.adv_left 1
  have HD := Lib.hid (fun (W : World) (hW : Rd W b v (s.adv 1)) => next_uint32_ok W hW g1 (by rw [l1]; exact four_le h5))
  have hb : (s.adv 1).num 4 < 4294967296 := RS.num_lt (h.adv1 1) g1 (z := 4) (by rw [l1]; exact four_le h5)
  have g5 := g1.adv (z := 4) (by rw [l1]; exact four_le h5)
  have l5 := (s.adv 1).adv_left 4
  have HL5 := Lib.hid (fun (W : World) (hW : Rd W b v ((s.adv 1).adv 4)) => left_any W hW g5)
  have hN : (s.adv 1).num 4 = numN (shiftF (s.adv 1).at_ (s.adv 1).f) 4 := rfl
  rw [hX, ht] at HC
  have hl54 : ((s.adv 1).adv 4).left = s.left - 5 := by rw [l5, l1, Nat.sub_sub]
  rw [hl54] at HL5
  have hh := Lib.hid h
  have h16 := hg.op
  rw [hN] at hn hb
  obtain ⟨L, hL⟩ : ∃ L, s.left = L := ⟨_, rfl⟩
  rw [hL] at HL HL5 hn h5
  generalize numN (shiftF (s.adv 1).at_ (s.adv 1).f) 4 = X at *
  have i1 : ¬ (L : Int) < 5 := by omega
  have i2 : decide ((L : Int) < 5) = false := decide_eq_false i1
  have i3 : ((tag : Int) != (tag : Int)) = false := by simp
  have hl0 := World.block_lt_of_cell? w _ q0
  have hl1 := World.block_lt_of_cell? w _ q1
  have ⟨w1, w2⟩ := w64_small hb
  have j1 := gt_no hn
  have j2 : ¬ L - 5 < X := hn
  have x1 := opened_fits hge hgn (hL.symm.trans hlE) h5 hn
  obtain ⟨A, Z, hA, hZ, x2, x3⟩ := w64_at x1
  replace hA := Lib.hid hA
  replace hZ := Lib.hid hZ
  have ⟨x4, x5⟩ := w64_op h16
  have ⟨h16b, h16c⟩ := lt_16 h16 ho
  clear hgn hgl hge hlE hop
  clear h hg hE hX hN l1 l5 hl54 g1 g5 hL h16
  replace hb := Lib.hid hb
  replace hn := Lib.hid hn
  go_enter Tryd.func72, Tryd.ntmps72
  go_wp2_with fail
  refine (refuse_no _ _).mono ?_
  rintro e w' ⟨rfl, rfl⟩
  go_wp2_with fail
  refine HL.out.mono ?_
  rintro e w2 ⟨rfl, q, rfl⟩
  go_wp2_with fail
  refine (refuse_no _ _).mono ?_
  rintro e w3 ⟨rfl, rfl⟩
  go_upto_region 2 with (fail)
  clear HL c18
  have hh2 := Lib.hid (hh.out.drewN q)
  have o2 : Only2 b none w' (w'.drewN q) := Only2.of_below (below_drewN (Below.refl _ _) q)
  have r0 : (w'.drewN q).cell? ⟨p0, 0, none⟩ = some (.pointer (some ⟨b, 0, none⟩)) := q0
  have r1 : (w'.drewN q).cell? ⟨p1, 0, none⟩ = some (.int .u8 (tag : Nat)) := q1
  have m0 : p0 < (w'.drewN q).heap.size := hl0
  have m1 : p1 < (w'.drewN q).heap.size := hl1
  generalize w'.drewN q = W at *
  clear q0 q1 hh hl0 hl1
  have hd := Lib.hid (hh2.out.below (Below.drew (Below.refl _ W)))
  go_region_held3 (fun V => V.cell? ⟨p0, 0, none⟩ = some (.pointer (some ⟨b, 0, none⟩)) ∧ V.cell? ⟨p1, 0, none⟩ = some (.int .u8 (tag : Nat)))
    (first | exact ⟨r0, r1⟩ | exact ⟨k0, k1⟩ | go_keep)
    (first
      | (go_at_call 73; (with_reducible refine (HC.out _ ?_).mono ?_); (first | exact hd.out | exact hh2.out); rintro e V ⟨rfl, hR, hG⟩; have k0 : V.cell? ⟨p0, 0, none⟩ = some (.pointer (some ⟨b, 0, none⟩)) := (cell_of_block (hG.block p0 m0 (fun e => n0 (by injection e))) 0).trans r0; have k1 : V.cell? ⟨p1, 0, none⟩ = some (.int .u8 (tag : Nat)) := (cell_of_block (hG.block p1 m1 (fun e => n1 (by injection e))) 0).trans r1)
      | (go_at_call 48; (with_reducible refine (refuse_no _ _).mono ?_); rintro e V2 ⟨rfl, rfl⟩))
  all_goals
    have o3 := (o2.trans (Only2.of_below (Below.drew (Below.refl _ W))) (.inl rfl)).trans (Only2.of_grownb (o := none) hG) (.inl rfl)
    have hRh := Lib.hid (show Rd V2 b v (s.adv 1) from hR)
    have m3 : p0 < V2.heap.size := Nat.lt_of_lt_of_le m0 hG.size
    clear HC hd hh2 o2 r0 r1 hR hG k1 i2 i3 i1
    go_wp2_with fail
    refine (HD.out _ hRh.out).mono ?_
    rintro e V3 ⟨rfl, hR3, hG3⟩
    have k3 : V3.cell? ⟨p0, 0, none⟩ = some (.pointer (some ⟨b, 0, none⟩)) := (cell_of_block (hG3.block p0 m3 (fun e => n0 (by injection e))) 0).trans k0
    have o4 := o3.trans (Only2.of_grownb (o := none) hG3) (.inl rfl)
    have hR3h := Lib.hid (show Rd V3 b v ((s.adv 1).adv 4) from hR3)
    clear HD hRh hR3 hG3 k0 o3 m3
    go_wp2_with fail
    refine (HL5.out _ hR3h.out).mono ?_
    rintro e V4 ⟨rfl, q4, rfl⟩
    have o5 := o4.trans (Only2.of_below (below_drewN (Below.refl _ V3) q4)) (.inl rfl)
    have hR4 := Lib.hid (hR3h.out.drewN q4)
    have k4 : (V3.drewN q4).cell? ⟨p0, 0, none⟩ = some (.pointer (some ⟨b, 0, none⟩)) := k3
    generalize V3.drewN q4 = W4 at *
    clear HL5 hR3h o4 k3
    go_wp2_with fail
    refine (refuse_no _ _).mono ?_
    rintro e V5 ⟨rfl, rfl⟩
    have c1 : V5.cell? ⟨b, 1, none⟩ = some (.int .i64 (A : Nat)) := by rw [← hA.out]; exact hR4.out.head.c1
    have c18 := hR4.out.head.c18
    have ce := hR4.out.head.ce s.op h16b
    have fe := hR4.out.head.free (2 + s.op)
    have hRd := Lib.hid (hR4.out.below (Below.drew (Below.refl _ V5)))
    go_upto_region 5 with (fail)
    have kk := keepE s.op (.int .i64 ((Z : Nat) : Int)) n0 h16b k4 c1 c18
    go_region_held3 (fun W => W.cell? ⟨p0, 0, none⟩ = some (.pointer (some ⟨b, 0, none⟩)) ∧ W.cell? ⟨b, 1, none⟩ = some (.int .i64 ((A : Nat) : Int)) ∧ W.cell? ⟨b, 18, none⟩ = some (.int .i64 (s.op : Nat)))
      (first | exact ⟨k4, c1, c18⟩ | exact kk | go_keep)
      (fail)
    have hS := (hRd.out.setE s.op Z h16b)
    have o6 := (o5.trans (Only2.of_below (Below.drew (Below.refl _ V5))) (.inl rfl)).trans (Only2.of_set (o := none) V5.drew (2 + s.op) (.int .i64 ((Z : Nat) : Int))) (.inl rfl)
    have e0 := kk.1
    have e18 := kk.2.2
    have f18 := hS.head.free 18
    have hS2 := Lib.hid (hS.set18 (s.op + 1))
    have o7 := Lib.hid (o6.trans (Only2.of_set (o := none) _ 18 (.int .i64 ((s.op + 1 : Nat) : Int))) (.inl rfl))
    clear c1 c18 ce fe hRd hS o6 kk k4 hR4 o5 x2 x3
    generalize hW6 : V5.drew.setCell ⟨b, 2 + s.op, none⟩ (.int .i64 ((Z : Nat) : Int)) = W6 at *
    have hW6' : (V5.setCell ⟨b, 2 + s.op, none⟩ (.int .i64 ((Z : Nat) : Int))).drew = W6 := hW6
    rw [hW6']
    clear hW6 hW6'
    go_wp2_with fail
    go_end0
    obtain rfl := hZ.out
    exact .inl ⟨rfl, rfl, hS2.out, o7.out, BoxAt.none _ _ _⟩
end Go.Proofs.YtbdhdedlemndeaaDoor
namespace Go.Proofs.YtbdhdedlemndeaaDoor
open Go.RowKit Go.Shelf
set_option maxRecDepth 100000
set_option maxHeartbeats 1000000

theorem ropen1_any {b p0 p1 tag : Nat} {v : Value} {s : RS} (w : World) (h : Rd w b v s) (hg : s.Good) (q0 : w.cell? ⟨p0, 0, none⟩ = some (.pointer (some ⟨b, 0, none⟩))) (q1 : w.cell? ⟨p1, 0, none⟩ = some (.int .u8 (tag : Nat))) (n0 : p0 ≠ b) (n1 : p1 ≠ b) :
    Calls Tryd.prog 72 #[.pointer (some ⟨p0, 0, none⟩), .pointer (some ⟨p1, 0, none⟩)] w (Outc w b v s s.opened none 0 #[] #[] (s.openE tag)) := by
  by_cases ho : s.op = 16
  · exact ropen1_16 w h q0 ho
  by_cases h5 : s.left < 5
  · exact ropen1_56 w h hg q0 ho h5
  by_cases ht : s.f s.at_ = tag
  · by_cases hn : s.left - 5 < (s.adv 1).num 4
    · exact ropen1_54 w h hg q0 q1 n0 n1 ho h5 ht hn
    · exact ropen1_ok w h hg q0 q1 n0 n1 ho h5 ht hn
  · exact ropen1_58 w h hg q0 q1 n1 ho h5 ht
theorem ropen_any {b tag : Nat} {v : Value} {s : RS} (w : World) (h : Rd w b v s) (hg : s.Good) :
    Calls Tryd.prog 61 #[.pointer (some ⟨b, 0, none⟩), .int .u8 (tag : Nat)] w fun e w' => e = .returned (.int .i64 (s.openE tag : Nat)) ∧ Rd w' b v (if s.openE tag = 0 then s.opened else s) ∧ w.grownBy w' (some b) := by
  have hmf := makeF
  have hP := (Whole.fresh w 51 #[.pointer (some ⟨b, 0, none⟩)]).alloc (.cells #[.int .u8 (tag : Nat)] 5)
  have hS := Whole.fresh (w.alloc (.cells #[.pointer (some ⟨b, 0, none⟩)] 51)) 5 #[.int .u8 (tag : Nat)]
  have hB := ((Below.refl w.heap.size w).alloc (Nat.le_refl _) (.cells #[.pointer (some ⟨b, 0, none⟩)] 51)).alloc (by simp) (.cells #[.int .u8 (tag : Nat)] 5)
  have hs1 : (w.alloc (.cells #[.pointer (some ⟨b, 0, none⟩)] 51)).heap.size = w.heap.size + 1 := by simp
  rw [hs1] at hS
  have hbl := h.head.lt
  have h2 := h.below hB
  generalize hW : (w.alloc (.cells #[.pointer (some ⟨b, 0, none⟩)] 51)).alloc (.cells #[.int .u8 (tag : Nat)] 5) = W at *
  have p0 := hP.cell 0
  simp only [List.getElem?_toArray, List.getElem?_cons_zero] at p0
  have HA := rattempt_any (k := 72) (caps := #[.pointer (some ⟨w.heap.size, 0, none⟩), .pointer (some ⟨w.heap.size + 1, 0, none⟩)]) (x := none) (t := 0) (cs := #[]) (cs' := #[]) W h2 (fun y hy => by cases hy) (enters_of Tryd.func72 (by kernel_rfl) rfl)
    (ropen1_any (tag := tag) _ (h2.below ((Below.refl _ W).alloc (Nat.le_refl _) _)) hg (by rw [(hP.alloc _).cell 0]; rfl) (by rw [(hS.alloc _).cell 0]; rfl) (by omega) (by omega))
  generalize s.openE tag = E at *
  generalize (if E = 0 then s.opened else s) = S2 at *
  replace HA := Lib.hid HA
  replace hB := Lib.hid hB
  clear h hg h2 hP hS hs1
  go_enter Tryd.func61, Tryd.ntmps61
  go_upto_region 1 with (fail)
  clear hW
  go_wp2_with fail
  refine HA.out.mono ?_
  rintro e w' ⟨rfl, h3, h4, _⟩
  have hG := Lib.hid (only2_grown0 h4 hB.out)
  replace h3 := Lib.hid h3
  clear HA h4 hmf p0
  go_wp2_with fail
  go_ret
  exact ⟨rfl, h3.out, hG.out⟩
end Go.Proofs.YtbdhdedlemndeaaDoor
