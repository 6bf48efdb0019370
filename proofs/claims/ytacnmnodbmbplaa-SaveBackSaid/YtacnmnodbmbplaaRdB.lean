/-
  The reader's Left, Done, Close and Flag.
-/
import Derived.Test.YtacnmnodbmbplaaRdA
namespace Go.Proofs.Ytacnmnodbmbplaa
open Go.RowKit Go.Shelf
set_option maxRecDepth 100000
set_option maxHeartbeats 1000000

/-- How an attempt ends: E is what it gave up with, 0 if it went well. -/
def Outc (w : World) (b : Nat) (v : Value) (s s' : RS) (x : Option Nat) (t : TypeId) (cs cs' : Array Value) (E : Nat) (e : Ending) (w' : World) : Prop :=
  (E = 0 ∧ e = .returned (.tuple #[]) ∧ Rd w' b v s' ∧ Only2 b x w w' ∧ BoxAt w' x t cs') ∨ (E ≠ 0 ∧ e = fault (E : Int) ∧ (∃ p, Rd w' b v { s with at_ := p }) ∧ Only2 b x w w' ∧ BoxAt w' x t cs)
theorem rattempt_any {b k E : Nat} {caps : Array Value} {v : Value} {s s' : RS} {x : Option Nat} {t : TypeId} {cs cs' : Array Value} (w : World) (h : Rd w b v s) (hx : ∀ y, x = some y → y < w.heap.size ∧ y ≠ b) (hen : ∀ (args : Array Value) (W : World), (callFunc k args).run Try.prog W = .ok (.enter k args) W)
    (hdo : Calls Try.prog k caps (w.alloc (.cells #[.int .i64 0] 27)) (Outc (w.alloc (.cells #[.int .i64 0] 27)) b v s s' x t cs cs' E)) :
    Calls Try.prog 54 #[.pointer (some ⟨b, 0, none⟩), .func (.func k) #[] caps] w fun e w' => e = .returned (.int .i64 (E : Nat)) ∧ Rd w' b v (if E = 0 then s' else s) ∧ Only2 b x w w' ∧ BoxAt w' x t (if E = 0 then cs' else cs) := by
  by_cases hE : E = 0
  · rw [if_pos hE, if_pos hE, hE]
    exact rattempt_ok w h hx hen (hdo.mono fun e w' h => by
      rcases h with ⟨_, h1, h2, h3, h4⟩ | ⟨h0, _⟩
      · exact ⟨h1, h2, h3, h4⟩
      · exact absurd hE h0)
  · rw [if_neg hE, if_neg hE]
    exact rattempt_no w h hE hx hen (hdo.mono fun e w' h => by
      rcases h with ⟨h0, _⟩ | ⟨_, h1, h2, h3, h4⟩
      · exact absurd h0 hE
      · exact ⟨h1, h2, h3, h4⟩)
theorem BoxAt.none (w : World) (t : TypeId) (cs : Array Value) : BoxAt w Option.none t cs := fun y hy => by cases hy
theorem rleft_any {b : Nat} {v : Value} {s : RS} (w : World) (h : Rd w b v s) (hg : s.Good) :
    Calls Try.prog 22 #[.pointer (some ⟨b, 0, none⟩)] w fun e w' => e = .returned (.int .i64 (s.left : Nat)) ∧ ∃ q, w' = w.drewN q := by
  have HL := Lib.hid (left_any w h hg)
  generalize s.left = L at *
  clear h hg
  go_enter Try.func22, Try.ntmps22
  go_wp2_with fail
  refine HL.out.mono ?_
  rintro e w' ⟨rfl, q, rfl⟩
  go_wp2_with fail
  go_ret
  exact ⟨rfl, q, rfl⟩
/-- What Done answers. -/
def RS.doneE (s : RS) : Nat := if 0 < s.op then 50 else if 0 < s.left then 59 else 0
/-- What Close answers; what a reader is behind it. -/
def RS.closeE (s : RS) : Nat := if s.op = 0 then 2 else if 0 < s.left then 59 else 0
def RS.closed (s : RS) : RS := { s with op := s.op - 1 }
theorem rdone1 {b p0 : Nat} {v : Value} {s : RS} (w : World) (h : Rd w b v s) (hg : s.Good) (q0 : w.cell? ⟨p0, 0, none⟩ = some (.pointer (some ⟨b, 0, none⟩))) :
    Calls Try.prog 55 #[.pointer (some ⟨p0, 0, none⟩)] w (Outc w b v s s none 0 #[] #[] s.doneE) := by
  have c18 := h.head.c18
  have HL := Lib.hid (left_any w h hg)
  have hid : ∀ p : Nat, p = s.at_ → ({ s with at_ := p } : RS) = s := fun p e => by rw [e]
  have fin : ∀ q E, E ≠ 0 → Outc w b v s s none 0 #[] #[] E (fault (E : Int)) (w.drewN q) := fun q E hE => .inr ⟨hE, rfl, ⟨s.at_, h.drewN q⟩, Only2.of_below (below_drewN (Below.refl _ _) q), BoxAt.none _ _ _⟩
  have fin0 : ∀ q, Outc w b v s s none 0 #[] #[] 0 (.returned (.tuple #[])) (w.drewN q) := fun q => .inl ⟨rfl, rfl, h.drewN q, Only2.of_below (below_drewN (Below.refl _ _) q), BoxAt.none _ _ _⟩
  replace fin := Lib.hid fin
  replace fin0 := Lib.hid fin0
  clear h hg hid
  by_cases h1 : 0 < s.op
  · have hE : s.doneE = 50 := if_pos h1
    rw [hE]
    have i1 : (0 : Int) < (s.op : Int) := by omega
    have i2 : decide ((s.op : Int) > 0) = true := decide_eq_true i1
    clear hE HL
    go_enter Try.func55, Try.ntmps55
    go_wp2_with fail
    refine (refuse_yes _ _).mono ?_
    rintro e w' ⟨rfl, rfl⟩
    have := fin.out 0 50 (by decide)
    unfold fault at this ⊢
    go_wp2_with fail
    exact ⟨rfl, this⟩
  · have h1' : s.op = 0 := by omega
    rw [h1'] at c18
    by_cases h2 : 0 < s.left
    · have hE : s.doneE = 59 := by unfold RS.doneE; rw [if_neg h1, if_pos h2]
      rw [hE]
      generalize s.left = L at *
      have i1 : (0 : Int) < (L : Int) := by omega
      clear hE h1 h1'
      go_enter Try.func55, Try.ntmps55
      go_wp2_with fail
      refine (refuse_no _ _).mono ?_
      rintro e w' ⟨rfl, rfl⟩
      go_wp2_with fail
      refine HL.out.mono ?_
      rintro e w2 ⟨rfl, q, rfl⟩
      go_wp2_with fail
      refine (refuse_yes _ _).mono ?_
      rintro e w3 ⟨rfl, rfl⟩
      have := fin.out q 59 (by decide)
      unfold fault at this ⊢
      go_wp2_with fail
      exact ⟨rfl, this⟩
    · have hE : s.doneE = 0 := by unfold RS.doneE; rw [if_neg h1, if_neg h2]
      rw [hE]
      have h2' : s.left = 0 := by omega
      rw [h2'] at HL
      clear hE h1 h1' h2 h2'
      go_enter Try.func55, Try.ntmps55
      go_wp2_with fail
      refine (refuse_no _ _).mono ?_
      rintro e w' ⟨rfl, rfl⟩
      go_wp2_with fail
      refine HL.out.mono ?_
      rintro e w2 ⟨rfl, q, rfl⟩
      go_wp2_with fail
      refine (refuse_no _ _).mono ?_
      rintro e w3 ⟨rfl, rfl⟩
      have := fin0.out q
      go_wp2_with fail
      go_end0
      exact this
theorem rclose1 {b p0 : Nat} {v : Value} {s : RS} (w : World) (h : Rd w b v s) (hg : s.Good) (q0 : w.cell? ⟨p0, 0, none⟩ = some (.pointer (some ⟨b, 0, none⟩))) :
    Calls Try.prog 59 #[.pointer (some ⟨p0, 0, none⟩)] w (Outc w b v s s.closed none 0 #[] #[] s.closeE) := by
  have c18 := h.head.c18
  have f18 := h.head.free 18
  have HL := Lib.hid (left_any w h hg)
  have fin : ∀ q E, E ≠ 0 → Outc w b v s s.closed none 0 #[] #[] E (fault (E : Int)) (w.drewN q) := fun q E hE => .inr ⟨hE, rfl, ⟨s.at_, h.drewN q⟩, Only2.of_below (below_drewN (Below.refl _ _) q), BoxAt.none _ _ _⟩
  have fin0 : ∀ q, Outc w b v s s.closed none 0 #[] #[] 0 (.returned (.tuple #[])) ((w.drewN q).setCell ⟨b, 18, none⟩ (.int .i64 (s.op - 1 : Nat))) := fun q => .inl ⟨rfl, rfl, (h.drewN q).set18 (s.op - 1), (Only2.of_below (below_drewN (Below.refl _ _) q)).trans (Only2.of_set _ 18 _) (.inl rfl), BoxAt.none _ _ _⟩
  have h16 := hg.op
  replace fin := Lib.hid fin
  replace fin0 := Lib.hid fin0
  clear h hg
  by_cases h1 : s.op = 0
  · have hE : s.closeE = 2 := if_pos h1
    rw [hE]
    rw [h1] at c18
    clear hE HL
    go_enter Try.func59, Try.ntmps59
    go_wp2_with fail
    refine (refuse_yes _ _).mono ?_
    rintro e w' ⟨rfl, rfl⟩
    have := fin.out 0 2 (by decide)
    unfold fault at this ⊢
    go_wp2_with fail
    exact ⟨rfl, this⟩
  · by_cases h2 : 0 < s.left
    · have hE : s.closeE = 59 := by unfold RS.closeE; rw [if_neg h1, if_pos h2]
      rw [hE]
      generalize s.left = L at *
      have i0 : ((s.op : Int) == 0) = false := by rw [beq_eq_false_iff_ne]; omega
      have i1 : (0 : Int) < (L : Int) := by omega
      clear hE h16
      go_enter Try.func59, Try.ntmps59
      go_wp2_with fail
      refine (refuse_no _ _).mono ?_
      rintro e w' ⟨rfl, rfl⟩
      go_wp2_with fail
      refine HL.out.mono ?_
      rintro e w2 ⟨rfl, q, rfl⟩
      go_wp2_with fail
      refine (refuse_yes _ _).mono ?_
      rintro e w3 ⟨rfl, rfl⟩
      have := fin.out q 59 (by decide)
      unfold fault at this ⊢
      go_wp2_with fail
      exact ⟨rfl, this⟩
    · have hE : s.closeE = 0 := by unfold RS.closeE; rw [if_neg h1, if_neg h2]
      rw [hE]
      have h2' : s.left = 0 := by omega
      rw [h2'] at HL
      have i0 : ((s.op : Int) == 0) = false := by rw [beq_eq_false_iff_ne]; omega
      have w1 : wrap64 ((s.op : Int) - 1) = ((s.op - 1 : Nat) : Int) := by unfold wrap64; omega
      have w2 : IntKind.i64.wrap ((s.op : Int) - 1) = ((s.op - 1 : Nat) : Int) := by simp only [IntKind.wrap_i64]; omega
      clear hE h2 h2' h16
      go_enter Try.func59, Try.ntmps59
      go_wp2_with fail
      refine (refuse_no _ _).mono ?_
      rintro e w' ⟨rfl, rfl⟩
      go_wp2_with fail
      refine HL.out.mono ?_
      rintro e w2 ⟨rfl, q, rfl⟩
      go_wp2_with fail
      refine (refuse_no _ _).mono ?_
      rintro e w3 ⟨rfl, rfl⟩
      have := fin0.out q
      go_wp2_with fail
      go_end0
      exact this
theorem rdone_any {b : Nat} {v : Value} {s : RS} (w : World) (h : Rd w b v s) (hg : s.Good) :
    Calls Try.prog 24 #[.pointer (some ⟨b, 0, none⟩)] w fun e w' => e = .returned (.int .i64 (s.doneE : Nat)) ∧ Rd w' b v (if s.doneE = 0 then s else s) ∧ w.grownBy w' (some b) := by
  have hmf := makeF
  have hP := Whole.fresh w 44 #[.pointer (some ⟨b, 0, none⟩)]
  have hB := (Below.refl w.heap.size w).alloc (Nat.le_refl _) (.cells #[.pointer (some ⟨b, 0, none⟩)] 44)
  have h2 := h.below hB
  generalize hW : w.alloc (.cells #[.pointer (some ⟨b, 0, none⟩)] 44) = W at *
  have HA := rattempt_any (k := 55) (caps := #[.pointer (some ⟨w.heap.size, 0, none⟩)]) (x := none) (t := 0) (cs := #[]) (cs' := #[]) W h2 (fun y hy => by cases hy) (enters_of Try.func55 (by kernel_rfl) rfl)
    (rdone1 _ (h2.below ((Below.refl _ W).alloc (Nat.le_refl _) _)) hg (by rw [(hP.alloc _).cell 0]; rfl))
  have p0 := hP.cell 0
  simp only [List.getElem?_toArray, List.getElem?_cons_zero] at p0
  generalize s.doneE = E at *
  generalize (if E = 0 then s else s) = S2 at *
  replace HA := Lib.hid HA
  replace hB := Lib.hid hB
  clear h hg h2 hP
  go_enter Try.func24, Try.ntmps24
  go_upto_region 1 with (fail)
  clear hW
  go_wp2_with fail
  refine HA.out.mono ?_
  rintro e w' ⟨rfl, h3, h4, _⟩
  have hG := Lib.hid (only2_grown0 h4 hB.out)
  replace h3 := Lib.hid h3
  clear HA h4 hmf p0
  go_wp2_with fail
  go_ret
  exact ⟨rfl, h3.out, hG.out⟩
theorem rclose_any {b : Nat} {v : Value} {s : RS} (w : World) (h : Rd w b v s) (hg : s.Good) :
    Calls Try.prog 28 #[.pointer (some ⟨b, 0, none⟩)] w fun e w' => e = .returned (.int .i64 (s.closeE : Nat)) ∧ Rd w' b v (if s.closeE = 0 then s.closed else s) ∧ w.grownBy w' (some b) := by
  have hmf := makeF
  have hP := Whole.fresh w 44 #[.pointer (some ⟨b, 0, none⟩)]
  have hB := (Below.refl w.heap.size w).alloc (Nat.le_refl _) (.cells #[.pointer (some ⟨b, 0, none⟩)] 44)
  have h2 := h.below hB
  generalize hW : w.alloc (.cells #[.pointer (some ⟨b, 0, none⟩)] 44) = W at *
  have HA := rattempt_any (k := 59) (caps := #[.pointer (some ⟨w.heap.size, 0, none⟩)]) (x := none) (t := 0) (cs := #[]) (cs' := #[]) W h2 (fun y hy => by cases hy) (enters_of Try.func59 (by kernel_rfl) rfl)
    (rclose1 _ (h2.below ((Below.refl _ W).alloc (Nat.le_refl _) _)) hg (by rw [(hP.alloc _).cell 0]; rfl))
  have p0 := hP.cell 0
  simp only [List.getElem?_toArray, List.getElem?_cons_zero] at p0
  generalize s.closeE = E at *
  generalize (if E = 0 then s.closed else s) = S2 at *
  replace HA := Lib.hid HA
  replace hB := Lib.hid hB
  clear h hg h2 hP
  go_enter Try.func28, Try.ntmps28
  go_upto_region 1 with (fail)
  clear hW
  go_wp2_with fail
  refine HA.out.mono ?_
  rintro e w' ⟨rfl, h3, h4, _⟩
  have hG := Lib.hid (only2_grown0 h4 hB.out)
  replace h3 := Lib.hid h3
  clear HA h4 hmf p0
  go_wp2_with fail
  go_ret
  exact ⟨rfl, h3.out, hG.out⟩
theorem num_one (s : RS) : s.num 1 = s.f s.at_ := by simp [RS.num, numN, shiftF]
/-- What Flag answers. -/
def RS.flagE (s : RS) : Nat := if s.left < 1 then 56 else if 1 < s.num 1 then 57 else 0
theorem rflag1 {b p0 p1 : Nat} {v : Value} {s : RS} (w : World) (h : Rd w b v s) (hg : s.Good) (q0 : w.cell? ⟨p0, 0, none⟩ = some (.pointer (some ⟨b, 0, none⟩))) (q1 : Whole w p1 4 #[.bool false]) (hne : p1 ≠ b) (ho : v.ownBlock ≠ some p1) :
    Calls Try.prog 78 #[.pointer (some ⟨p0, 0, none⟩), .pointer (some ⟨p1, 0, none⟩)] w (Outc w b v s (s.adv 1) (some p1) 4 #[.bool false] #[.bool (decide (s.num 1 = 1))] s.flagE) := by
  have hl := q1.lt
  by_cases h1 : s.left < 1
  · have hE : s.flagE = 56 := if_pos h1
    rw [hE]
    have HC := Lib.hid (next_uint8_no w h hg h1)
    have fin : ∀ q, Outc w b v s (s.adv 1) (some p1) 4 #[.bool false] #[.bool (decide (s.num 1 = 1))] 56 (fault 56) (w.drewN q) := fun q => .inr ⟨by decide, rfl, ⟨s.at_, h.drewN q⟩, Only2.of_below (below_drewN (Below.refl _ _) q), fun y hy => by injection hy with hy; subst hy; exact q1.drewN q⟩
    replace fin := Lib.hid fin
    clear h hg h1 hE q1 hl
    go_enter Try.func78, Try.ntmps78
    go_wp2_with fail
    refine HC.out.mono ?_
    rintro e w' ⟨rfl, q, rfl⟩
    have := fin.out q
    unfold fault at this ⊢
    go_wp2_with fail
    exact ⟨rfl, this⟩
  · have HC := Lib.hid (next_uint8_ok w h hg (by omega))
    by_cases h2 : 1 < s.num 1
    · have hE : s.flagE = 57 := by unfold RS.flagE; rw [if_neg h1, if_pos h2]
      rw [hE]
      have i1 : (1 : Int) < (numN (shiftF s.at_ s.f) 1 : Nat) := by have : 1 < numN (shiftF s.at_ s.f) 1 := h2; omega
      obtain ⟨X, hX⟩ : ∃ X, numN (shiftF s.at_ s.f) 1 = X := ⟨_, rfl⟩
      rw [hX] at HC i1
      have i2 : 1 < X := by omega
      replace hX := Lib.hid hX
      clear h hg h1 h2 hE
      go_enter Try.func78, Try.ntmps78
      go_wp2_with fail
      refine HC.out.mono ?_
      rintro e w' ⟨rfl, hR, hG⟩
      have this : Outc w b v s (s.adv 1) (some p1) 4 #[.bool false] #[.bool (decide (s.num 1 = 1))] 57 (fault 57) w' := .inr ⟨by decide, rfl, ⟨s.at_ + 1, hR⟩, Only2.of_grownb hG, fun y hy => by injection hy with hy; subst hy; exact q1.only hG hne⟩
      replace this := Lib.hid this
      clear HC hR hG q1 q0
      go_wp2_with fail
      refine (refuse_yes _ _).mono ?_
      rintro e w3 ⟨rfl, rfl⟩
      replace this := this.out
      unfold fault at this ⊢
      go_wp2_with fail
      exact ⟨rfl, this⟩
    · have hE : s.flagE = 0 := by unfold RS.flagE; rw [if_neg h1, if_neg h2]
      rw [hE]
      have hd : s.num 1 = numN (shiftF s.at_ s.f) 1 := rfl
      rw [hd] at h2 ⊢
      generalize numN (shiftF s.at_ s.f) 1 = X at *
      have i1 : ¬ (1 : Int) < (X : Int) := by omega
      have i3 : ¬ 1 < X := by omega
      have i4 : decide ((1 : Int) < (X : Int)) = false := decide_eq_false i1
      have i5 : decide ((X : Int) > 1) = false := decide_eq_false i1
      have i2 : ((X : Int) == 1) = decide (X = 1) := by
        by_cases e : X = 1
        · subst e; rfl
        · rw [decide_eq_false e, beq_eq_false_iff_ne]; omega
      replace h2 := Lib.hid h2
      clear h hg h1 hE hd
      go_enter Try.func78, Try.ntmps78
      go_wp2_with fail
      refine HC.out.mono ?_
      rintro e w' ⟨rfl, hR, hG⟩
      have hq := q1.only hG hne
      have d0 := hq.cell 0
      have f0 := hq.free 0
      simp only [List.getElem?_toArray, List.getElem?_cons_zero] at d0
      generalize decide (X = 1) = Y at *
      have this : Outc w b v s (s.adv 1) (some p1) 4 #[.bool false] #[.bool Y] 0 (.returned (.tuple #[])) (w'.setCell ⟨p1, 0, none⟩ (.bool Y)) := .inl ⟨rfl, rfl, hR.away hne ho 0 _, (Only2.of_grownb (o := some p1) hG).trans (Only2.of_grown (o := some p1) (b := b) (only_set (g := p1) (Below.only (Below.refl _ w') p1) 0 _)) (.inl rfl), fun y hy => by injection hy with hy; subst hy; exact (hq.put 0 _).as rfl⟩
      replace this := Lib.hid this
      clear HC hR hG q1 q0 hq
      go_wp2_with fail
      refine (refuse_no _ _).mono ?_
      rintro e w3 ⟨rfl, rfl⟩
      go_wp2_with fail
      go_end0
      exact this.out
theorem rflag_any {b : Nat} {v : Value} {s : RS} (w : World) (h : Rd w b v s) (hg : s.Good) :
    Calls Try.prog 50 #[.pointer (some ⟨b, 0, none⟩)] w fun e w' => e = .returned (.tuple #[.bool (if s.flagE = 0 then decide (s.num 1 = 1) else false), .int .i64 (s.flagE : Nat)]) ∧ Rd w' b v (if s.flagE = 0 then s.adv 1 else s) ∧ w.grownBy w' (some b) := by
  have hmf := makeF
  have hP := (Whole.fresh w 44 #[.pointer (some ⟨b, 0, none⟩)]).alloc (.cells #[.bool false] 4)
  have hS := Whole.fresh (w.alloc (.cells #[.pointer (some ⟨b, 0, none⟩)] 44)) 4 #[.bool false]
  have hB := ((Below.refl w.heap.size w).alloc (Nat.le_refl _) (.cells #[.pointer (some ⟨b, 0, none⟩)] 44)).alloc (by simp) (.cells #[.bool false] 4)
  have hs1 : (w.alloc (.cells #[.pointer (some ⟨b, 0, none⟩)] 44)).heap.size = w.heap.size + 1 := by simp
  rw [hs1] at hS
  have hbl := h.head.lt
  have hol := h.body.lt
  have h2 := h.below hB
  generalize hW : (w.alloc (.cells #[.pointer (some ⟨b, 0, none⟩)] 44)).alloc (.cells #[.bool false] 4) = W at *
  have p0 := hP.cell 0
  simp only [List.getElem?_toArray, List.getElem?_cons_zero] at p0
  have hSl := hS.lt
  have HA := rattempt_any (k := 78) (caps := #[.pointer (some ⟨w.heap.size, 0, none⟩), .pointer (some ⟨w.heap.size + 1, 0, none⟩)]) (x := some (w.heap.size + 1)) (t := 4) W h2 (fun y hy => by injection hy with hy; omega) (enters_of Try.func78 (by kernel_rfl) rfl)
    (rflag1 _ (h2.below ((Below.refl _ W).alloc (Nat.le_refl _) _)) hg (by rw [(hP.alloc _).cell 0]; rfl) (hS.alloc _) (by omega) (fun e => by have := hol _ e; omega))
  generalize s.flagE = E at *
  have hbox : (if E = 0 then #[Value.bool (decide (s.num 1 = 1))] else #[Value.bool false]) = #[Value.bool (if E = 0 then decide (s.num 1 = 1) else false)] := by split <;> rfl
  rw [hbox] at HA
  generalize (if E = 0 then decide (s.num 1 = 1) else false) = Y at *
  generalize (if E = 0 then s.adv 1 else s) = S2 at *
  replace HA := Lib.hid HA
  replace hB := Lib.hid hB
  clear h hg h2 hP hS hs1 hbox hSl
  go_enter Try.func50, Try.ntmps50
  go_upto_region 2 with (fail)
  clear hW
  go_wp2_with fail
  refine HA.out.mono ?_
  rintro e w' ⟨rfl, h3, h4, h5⟩
  have b0 := (h5 _ rfl).cell 0
  simp only [List.getElem?_toArray, List.getElem?_cons_zero] at b0
  have hG := Lib.hid (only2_grown h4 hB.out (Nat.le_succ _))
  replace h3 := Lib.hid h3
  clear HA h4 h5 hmf p0
  go_wp2_with fail
  go_ret2
  exact ⟨rfl, h3.out, hG.out⟩
end Go.Proofs.Ytacnmnodbmbplaa
namespace Go.Proofs.Ytacnmnodbmbplaa
open Go.RowKit Go.Shelf
set_option maxRecDepth 100000
set_option maxHeartbeats 1000000

theorem RS.num_lt {w : World} {b : Nat} {v : Value} {s : RS} (h : Rd w b v s) (hg : s.Good) {z : Nat} (hz : z ≤ s.left) : s.num z < 2 ^ (8 * z) := by
  refine numN_lt (fun i hi => h.body.1 _ ?_)
  have h1 := hg.end_le
  have h2 := hg.le
  unfold RS.left at hz
  omega
theorem RS.Good.adv {s : RS} (h : s.Good) {z : Nat} (hz : z ≤ s.left) : (s.adv z).Good := by
  have hle := h.le
  exact ⟨h.op, h.n, by show s.at_ + z ≤ s.endN; unfold RS.left at hz; omega, h.mono, h.bnd⟩
theorem RS.adv_left (s : RS) (z : Nat) : (s.adv z).left = s.left - z := by
  show s.endN - (s.at_ + z) = s.endN - s.at_ - z
  omega
/-- What Bytes answers; what a reader is behind it. -/
def RS.bytesE (s : RS) (most : Int) : Nat := if s.left < 4 then 56 else if most < (s.num 4 : Nat) then 4 else if s.left - 4 < s.num 4 then 56 else 0
def RS.bytesS (s : RS) : RS := (s.adv 4).adv (s.num 4)
theorem rbytes1_no {b p0 p1 p2 : Nat} {v : Value} {s : RS} {most : Int} (w : World) (h : Rd w b v s) (hg : s.Good) (q0 : w.cell? ⟨p0, 0, none⟩ = some (.pointer (some ⟨b, 0, none⟩))) (q1 : w.cell? ⟨p1, 0, none⟩ = some (.int .i64 most)) (n1 : p1 ≠ b) (n0 : p0 ≠ b)
    (q2 : Whole w p2 25 #[.slice none 0 0]) (hne : p2 ≠ b) (hE : s.bytesE most ≠ 0) :
    Calls Try.prog 80 #[.pointer (some ⟨p0, 0, none⟩), .pointer (some ⟨p1, 0, none⟩), .pointer (some ⟨p2, 0, none⟩)] w fun e w' => e = fault (s.bytesE most : Nat) ∧ (∃ p, Rd w' b v { s with at_ := p }) ∧ Only2 b (some p2) w w' ∧ BoxAt w' (some p2) 25 #[.slice none 0 0] := by
  by_cases h1 : s.left < 4
  · have e1 : s.bytesE most = 56 := if_pos h1
    rw [e1]
    have HC := Lib.hid (next_uint32_no w h hg h1)
    have fin : ∀ q, (fault (56 : Int) : Ending) = fault ((56 : Nat) : Int) ∧ (∃ p, Rd (w.drewN q) b v { s with at_ := p }) ∧ Only2 b (some p2) w (w.drewN q) ∧ BoxAt (w.drewN q) (some p2) 25 #[.slice none 0 0] := fun q => ⟨rfl, ⟨s.at_, h.drewN q⟩, Only2.of_below (below_drewN (Below.refl _ _) q), fun y hy => by injection hy with hy; subst hy; exact q2.drewN q⟩
    replace fin := Lib.hid fin
    clear h hg h1 hE q1 q2 e1
    go_enter Try.func80, Try.ntmps80
    go_wp2_with fail
    refine HC.out.mono ?_
    rintro e w' ⟨rfl, q, rfl⟩
    have := fin.out q
    unfold fault at this ⊢
    go_wp2_with fail
    exact ⟨rfl, this⟩
  · have HC := Lib.hid (next_uint32_ok w h hg (by omega))
    have hb := RS.num_lt h hg (z := 4) (by omega)
    have hX : s.num 4 = numN (shiftF s.at_ s.f) 4 := rfl
    have hla := s.adv_left 4
    have hga := Lib.hid (hg.adv (z := 4) (by omega))
    by_cases h2 : most < (s.num 4 : Nat)
    · have e1 : s.bytesE most = 4 := by unfold RS.bytesE; rw [if_neg h1, if_pos h2]
      rw [e1]
      rw [hX] at h2 hb
      clear hE e1 hX hla
      generalize numN (shiftF s.at_ s.f) 4 = X at *
      have w1 : wrap64 (X : Int) = (X : Int) := by unfold wrap64; omega
      have w2 : IntKind.i64.wrap (X : Int) = (X : Int) := by simp only [IntKind.wrap_i64]; omega
      have i1 : decide ((X : Int) > most) = true := decide_eq_true h2
      replace hb := Lib.hid hb
      clear h hg h1 hga
      go_enter Try.func80, Try.ntmps80
      go_wp2_with fail
      refine HC.out.mono ?_
      rintro e w' ⟨rfl, hR, hG⟩
      have c1 : w'.cell? ⟨p1, 0, none⟩ = some (.int .i64 most) := (cell_of_block (hG.block _ (World.block_lt_of_cell? w _ q1) (fun e => n1 (by injection e))) 0).trans q1
      have this : (fault (4 : Int) : Ending) = fault ((4 : Nat) : Int) ∧ (∃ p, Rd w' b v { s with at_ := p }) ∧ Only2 b (some p2) w w' ∧ BoxAt w' (some p2) 25 #[.slice none 0 0] := ⟨rfl, ⟨s.at_ + 4, hR⟩, Only2.of_grownb hG, fun y hy => by injection hy with hy; subst hy; exact q2.only hG hne⟩
      replace this := Lib.hid this
      clear HC hR hG q1 q0 q2
      go_wp2_with fail
      refine (refuse_yes _ _).mono ?_
      rintro e w3 ⟨rfl, rfl⟩
      replace this := this.out
      unfold fault at this ⊢
      go_wp2_with fail
      exact ⟨rfl, this⟩
    · have h3 : s.left - 4 < s.num 4 := by
        by_cases h3 : s.left - 4 < s.num 4
        · exact h3
        · exact absurd (by unfold RS.bytesE; rw [if_neg h1, if_neg h2, if_neg h3]) hE
      have e1 : s.bytesE most = 56 := by unfold RS.bytesE; rw [if_neg h1, if_neg h2, if_pos h3]
      rw [e1]
      have h3' := Lib.hid h3
      rw [hX] at h2 hb h3
      clear hE e1 h1
      have hXh := Lib.hid hX
      clear hX
      generalize numN (shiftF s.at_ s.f) 4 = X at *
      have w1 : wrap64 (X : Int) = (X : Int) := by unfold wrap64; omega
      have w2 : IntKind.i64.wrap (X : Int) = (X : Int) := by simp only [IntKind.wrap_i64]; omega
      have i1 : decide ((X : Int) > most) = false := decide_eq_false h2
      have i2 : decide (most < (X : Int)) = false := decide_eq_false h2
      replace hb := Lib.hid hb
      have hlx := Lib.hid (show (s.adv 4).left < X by rw [hla]; exact h3)
      clear h hg hla h3 h3' hXh
      go_enter Try.func80, Try.ntmps80
      go_wp2_with fail
      refine HC.out.mono ?_
      rintro e w' ⟨rfl, hR, hG⟩
      have c1 : w'.cell? ⟨p1, 0, none⟩ = some (.int .i64 most) := (cell_of_block (hG.block _ (World.block_lt_of_cell? w _ q1) (fun e => n1 (by injection e))) 0).trans q1
      have c0 : w'.cell? ⟨p0, 0, none⟩ = some (.pointer (some ⟨b, 0, none⟩)) := (cell_of_block (hG.block _ (World.block_lt_of_cell? w _ q0) (fun e => n0 (by injection e))) 0).trans q0
      have HX := Lib.hid (cut_no (m := X) (s := s.adv 4) w' hR hga.out hlx.out)
      have this : ∀ q, (fault (56 : Int) : Ending) = fault ((56 : Nat) : Int) ∧ (∃ p, Rd (w'.drewN q) b v { s with at_ := p }) ∧ Only2 b (some p2) w (w'.drewN q) ∧ BoxAt (w'.drewN q) (some p2) 25 #[.slice none 0 0] := fun q => ⟨rfl, ⟨s.at_ + 4, hR.drewN q⟩, (Only2.of_grownb hG).trans (Only2.of_below (below_drewN (Below.refl _ _) q)) (.inl rfl), fun y hy => by injection hy with hy; subst hy; exact (q2.only hG hne).drewN q⟩
      replace this := Lib.hid this
      clear HC hR hG q1 q0 q2
      go_wp2_with fail
      refine (refuse_no _ _).mono ?_
      rintro e w3 ⟨rfl, rfl⟩
      go_wp2_with fail
      refine HX.out.mono ?_
      rintro e w4 ⟨rfl, q, rfl⟩
      replace this := this.out q
      unfold fault at this ⊢
      go_wp2_with fail
      exact ⟨rfl, this⟩
end Go.Proofs.Ytacnmnodbmbplaa
namespace Go.Proofs.Ytacnmnodbmbplaa
open Go.RowKit Go.Shelf
set_option maxRecDepth 100000
set_option maxHeartbeats 1000000

theorem grown_trans {a w w' : World} {g : Nat} (h : a.grownBy w (some g)) (k : w.grownBy w' (some g)) : a.grownBy w' (some g) :=
  ⟨k.os.trans h.os, k.tape.trans h.tape, k.output.trans h.output, Nat.le_trans h.size k.size, fun b hb hne => (k.block b (Nat.lt_of_lt_of_le hb h.size) hne).trans (h.block b hb hne)⟩
theorem rattempt_okQ {b k : Nat} {caps : Array Value} {v : Value} {s s' : RS} {x : Option Nat} (w : World) (Q : World → Prop) (hQ : ∀ V u, Q V → w.heap.size < V.heap.size → Q (V.setCell ⟨w.heap.size, 0, none⟩ u)) (h : Rd w b v s) (hx : ∀ y, x = some y → y < w.heap.size ∧ y ≠ b) (hen : ∀ (args : Array Value) (W : World), (callFunc k args).run Try.prog W = .ok (.enter k args) W)
    (hdo : Calls Try.prog k caps (w.alloc (.cells #[.int .i64 0] 27)) fun e w' => e = .returned (.tuple #[]) ∧ Rd w' b v s' ∧ Only2 b x (w.alloc (.cells #[.int .i64 0] 27)) w' ∧ Q w') :
    Calls Try.prog 54 #[.pointer (some ⟨b, 0, none⟩), .func (.func k) #[] caps] w fun e w' => e = .returned (.int .i64 0) ∧ Rd w' b v s' ∧ Only2 b x w w' ∧ Q w' := by
  have c1 := h.head.c1
  have hbl := h.head.lt
  have hol := h.body.lt
  have HA := Lib.hid (attempt_any w (fun V => Rd V b v s' ∧ Only2 b x (w.alloc (.cells #[.int .i64 0] 27)) V ∧ Q V) (fun _ _ => False) hen (hdo.mono (by
    rintro e w' ⟨rfl, h1, h2, h3⟩
    exact ⟨(h2.block w.heap.size (by simp) (by omega) (fun e => by have := (hx _ e.symm).1; omega)).trans (Whole.fresh w _ _), .inl ⟨rfl, h1, h2, h3⟩⟩)))
  replace hQ := Lib.hid hQ
  clear hdo hen h
  go_enter Try.func54, Try.ntmps54
  go_wp2_with fail
  refine HA.out.mono ?_
  rintro e w' (⟨rfl, V, ⟨h1, h2, h3⟩, rfl⟩ | ⟨c, V, _, hF, _⟩)
  · have hVs : w.heap.size < V.heap.size := by have := h2.size; simp at this; omega
    have h4 := h1.away (x := w.heap.size) (by omega) (fun e => by have := hol _ e; omega) 0 (.int .i64 0)
    have o1 : Only2 b x w (V.setCell ⟨w.heap.size, 0, none⟩ (.int .i64 0)) := by
      have o0 : Only2 b x w V := (Only2.of_below ((Below.refl _ w).alloc (Nat.le_refl _) _)).trans h2 (.inl rfl)
      exact ⟨o0.os, o0.tape, o0.output, by simp [World.setCell]; exact o0.size, fun k hk hb ho => (Below.heap_setCell _ _ _ _ (by simp; omega)).trans (o0.block k hk hb ho)⟩
    have h5 := hQ.out V (.int .i64 0) h3 hVs
    clear h1 h2 h3 HA c1
    replace h4 := Lib.hid h4
    replace h5 := Lib.hid h5
    go_wp2_with fail
    go_ret
    exact ⟨rfl, h4.out, o1, h5.out⟩
  · exact hF.elim
theorem rbytes1_ok {b p0 p1 p2 : Nat} {v : Value} {s : RS} {most : Int} (w : World) (h : Rd w b v s) (hg : s.Good) (q0 : w.cell? ⟨p0, 0, none⟩ = some (.pointer (some ⟨b, 0, none⟩))) (q1 : w.cell? ⟨p1, 0, none⟩ = some (.int .i64 most)) (n1 : p1 ≠ b) (n0 : p0 ≠ b)
    (q2 : Whole w p2 25 #[.slice none 0 0]) (hne : p2 ≠ b) (ho : v.ownBlock ≠ some p2) (hE : s.bytesE most = 0) :
    Calls Try.prog 80 #[.pointer (some ⟨p0, 0, none⟩), .pointer (some ⟨p1, 0, none⟩), .pointer (some ⟨p2, 0, none⟩)] w fun e w' => e = .returned (.tuple #[]) ∧ Rd w' b v s.bytesS ∧ Only2 b (some p2) w w' ∧ ∃ u, Whole w' p2 25 #[u] ∧ Owns w' u (s.num 4) (shiftF (s.at_ + 4) s.f) ∧ ∀ y, u.ownBlock = some y → w.heap.size ≤ y := by
  have h1 : ¬ s.left < 4 := fun h1 => by unfold RS.bytesE at hE; rw [if_pos h1] at hE; cases hE
  have h2 : ¬ most < (s.num 4 : Nat) := fun h2 => by unfold RS.bytesE at hE; rw [if_neg h1, if_pos h2] at hE; cases hE
  have h3 : ¬ s.left - 4 < s.num 4 := fun h3 => by unfold RS.bytesE at hE; rw [if_neg h1, if_neg h2, if_pos h3] at hE; cases hE
  have HC := Lib.hid (next_uint32_ok w h hg (by omega))
  have hb := RS.num_lt h hg (z := 4) (by omega)
  have hX : s.num 4 = numN (shiftF s.at_ s.f) 4 := rfl
  have hla := s.adv_left 4
  have hga := Lib.hid (hg.adv (z := 4) (by omega))
  have hl2 := q2.lt
  unfold RS.bytesS
  rw [hX] at h2 h3 hb ⊢
  clear hE h1 hX
  generalize numN (shiftF s.at_ s.f) 4 = X at *
  have w1 : wrap64 (X : Int) = (X : Int) := by unfold wrap64; omega
  have w2 : IntKind.i64.wrap (X : Int) = (X : Int) := by simp only [IntKind.wrap_i64]; omega
  have i1 : decide ((X : Int) > most) = false := decide_eq_false h2
  have i2 : decide (most < (X : Int)) = false := decide_eq_false h2
  replace hb := Lib.hid hb
  have hlx := Lib.hid (show X ≤ (s.adv 4).left by rw [hla]; omega)
  clear h hg hla h3
  go_enter Try.func80, Try.ntmps80
  go_wp2_with fail
  refine HC.out.mono ?_
  rintro e w' ⟨rfl, hR, hG⟩
  have c1 : w'.cell? ⟨p1, 0, none⟩ = some (.int .i64 most) := (cell_of_block (hG.block _ (World.block_lt_of_cell? w _ q1) (fun e => n1 (by injection e))) 0).trans q1
  have c0 : w'.cell? ⟨p0, 0, none⟩ = some (.pointer (some ⟨b, 0, none⟩)) := (cell_of_block (hG.block _ (World.block_lt_of_cell? w _ q0) (fun e => n0 (by injection e))) 0).trans q0
  have HX := Lib.hid (cut_ok (m := X) (s := s.adv 4) w' hR hga.out hlx.out)
  have r2 := Lib.hid (q2.only hG hne)
  replace hG := Lib.hid hG
  clear HC hR q1 q0 q2
  go_wp2_with fail
  refine (refuse_no _ _).mono ?_
  rintro e w3 ⟨rfl, rfl⟩
  go_wp2_with fail
  refine HX.out.mono ?_
  rintro e w4 ⟨a', c', rfl, hRow, hc', hnil, hR4, hG4⟩
  have HK := Lib.hid (clone_any a' X c' _ w4 hRow (by have := hb.out; omega) hnil)
  have r4 := r2.out.only hG4 hne
  have hG5 := Lib.hid (grown_trans hG.out hG4)
  replace hR4 := Lib.hid hR4
  clear HX hRow hnil r2 hG hG4 hc'
  go_wp2_with fail
  refine HK.out.mono ?_
  rintro e w5 ⟨u, rfl, hOw, hfar, hB5⟩
  obtain ⟨au, cu, rfl, _⟩ := hOw.row
  obtain ⟨u, hu⟩ : ∃ u, Value.slice au X cu = u := ⟨_, rfl⟩
  rw [hu] at hOw hfar
  have r5 := r4.below hB5 r4.lt
  have hR5 := hR4.out.below hB5
  have d0 := r5.cell 0
  have f0 := r5.free 0
  simp only [List.getElem?_toArray, List.getElem?_cons_zero] at d0
  have hsz := hG5.out.size
  have hR6 := Lib.hid (hR5.away hne ho 0 u)
  have hup : u.ownBlock ≠ some p2 := fun e => by have := hfar _ e; have := r4.lt; omega
  have hO6 := Lib.hid (hOw.away hup 0 u)
  have hW6 := Lib.hid ((r5.put 0 u))
  have hS6 := Lib.hid (((Only2.of_grownb (o := some p2) hG5.out).trans (Only2.of_below hB5) (.inl rfl)).trans (Only2.of_grown (o := some p2) (b := b) (only_set (g := p2) (Below.only (Below.refl _ w5) p2) 0 u)) (.inl rfl))
  have hfar2 := Lib.hid (fun y (e : u.ownBlock = some y) => Nat.le_trans hsz (hfar y e))
  clear HK hR4 r4 hG5 hOw hfar hB5 r5 hR5 hup hsz
  subst hu
  go_wp2_with fail
  go_end0
  exact ⟨rfl, hR6.out, hS6.out, _, hW6.out.as rfl, hO6.out, hfar2.out⟩
theorem rbytes_any {b : Nat} {v : Value} {s : RS} (most : Int) (w : World) (h : Rd w b v s) (hg : s.Good) :
    Calls Try.prog 51 #[.pointer (some ⟨b, 0, none⟩), .int .i64 most] w fun e w' => ∃ a c, e = .returned (.tuple #[.slice a (if s.bytesE most = 0 then s.num 4 else 0) c, .int .i64 (s.bytesE most : Nat)]) ∧ OwnRow w.heap.size w' a (if s.bytesE most = 0 then s.num 4 else 0) (shiftF (s.at_ + 4) s.f) ∧ (∀ G, a = some G → G.block ≠ b) ∧ Rd w' b v (if s.bytesE most = 0 then s.bytesS else s) ∧ w.grownBy w' (some b) := by
  have hmf := makeF
  have hP := ((Whole.fresh w 44 #[.pointer (some ⟨b, 0, none⟩)]).alloc (.cells #[.int .i64 most] 3)).alloc (.cells #[.slice none 0 0] 25)
  have hM := (Whole.fresh (w.alloc (.cells #[.pointer (some ⟨b, 0, none⟩)] 44)) 3 #[.int .i64 most]).alloc (.cells #[.slice none 0 0] 25)
  have hS := Whole.fresh ((w.alloc (.cells #[.pointer (some ⟨b, 0, none⟩)] 44)).alloc (.cells #[.int .i64 most] 3)) 25 #[.slice none 0 0]
  have hB := (((Below.refl w.heap.size w).alloc (Nat.le_refl _) (.cells #[.pointer (some ⟨b, 0, none⟩)] 44)).alloc (by simp) (.cells #[.int .i64 most] 3)).alloc (by simp; omega) (.cells #[.slice none 0 0] 25)
  have hs1 : (w.alloc (.cells #[.pointer (some ⟨b, 0, none⟩)] 44)).heap.size = w.heap.size + 1 := by simp
  have hs2 : ((w.alloc (.cells #[.pointer (some ⟨b, 0, none⟩)] 44)).alloc (.cells #[.int .i64 most] 3)).heap.size = w.heap.size + 1 + 1 := by simp
  rw [hs1] at hM
  rw [hs2] at hS
  have hbl := h.head.lt
  have hol := h.body.lt
  have h2 := h.below hB
  generalize hW : ((w.alloc (.cells #[.pointer (some ⟨b, 0, none⟩)] 44)).alloc (.cells #[.int .i64 most] 3)).alloc (.cells #[.slice none 0 0] 25) = W at *
  have p0 := hP.cell 0
  simp only [List.getElem?_toArray, List.getElem?_cons_zero] at p0
  have hSl := hS.lt
  have hBA := (Below.refl W.heap.size W).alloc (Nat.le_refl _) (.cells #[.int .i64 0] 27)
  by_cases hE : s.bytesE most = 0
  · rw [if_pos hE, if_pos hE, hE]
    have HA := rattempt_okQ (k := 80) (caps := #[.pointer (some ⟨w.heap.size, 0, none⟩), .pointer (some ⟨w.heap.size + 1, 0, none⟩), .pointer (some ⟨w.heap.size + 1 + 1, 0, none⟩)]) (x := some (w.heap.size + 1 + 1)) W
      (fun V => ∃ u, Whole V (w.heap.size + 1 + 1) 25 #[u] ∧ Owns V u (s.num 4) (shiftF (s.at_ + 4) s.f) ∧ ∀ y, u.ownBlock = some y → W.heap.size + 1 ≤ y)
      (fun V u0 ⟨u, k1, k2, k3⟩ hV => ⟨u, k1.away (p := ⟨W.heap.size, 0, none⟩) (by show w.heap.size + 1 + 1 ≠ W.heap.size; omega) u0, k2.away (x := W.heap.size) (fun e => by have := k3 _ e; omega) 0 u0, k3⟩)
      h2 (fun y hy => by injection hy with hy; omega) (enters_of Try.func80 (by kernel_rfl) rfl)
      ((rbytes1_ok (most := most) _ (h2.below hBA) hg (by rw [(hP.alloc _).cell 0]; rfl) (by rw [(hM.alloc _).cell 0]; rfl) (by omega) (by omega) (hS.alloc _) (by omega) (fun e => by have := hol _ e; omega) hE).mono (by
        rintro e w' ⟨rfl, k1, k2, u, k3, k4, k5⟩
        exact ⟨rfl, k1, k2, u, k3, k4, fun y hy => by have := k5 y hy; simpa using this⟩))
    generalize s.bytesS = S2 at *
    generalize s.num 4 = X at *
    replace HA := Lib.hid HA
    replace hB := Lib.hid hB
    clear h hg h2 hP hS hM hs1 hs2 hBA hE
    go_enter Try.func51, Try.ntmps51
    go_upto_region 2 with (fail)
    clear hW
    go_wp2_with fail
    refine HA.out.mono ?_
    rintro e w' ⟨rfl, h3, h4, u, h5, h6, h7⟩
    obtain ⟨a, c, rfl, hR6⟩ := h6.row
    have b0 := h5.cell 0
    simp only [List.getElem?_toArray, List.getElem?_cons_zero] at b0
    have hG := Lib.hid (only2_grown h4 hB.out (by omega))
    have hOR : OwnRow w.heap.size w' a X (shiftF (s.at_ + 4) s.f) := by
      rcases h6.2 with ⟨e, h0⟩ | ⟨g, cap, cs, e, hw, q1, q2, q3, q4⟩
      · injection e with e1 e2 e3
        exact .inl ⟨e1, h0⟩
      · injection e with e1 e2 e3
        refine .inr ⟨g, e1, ?_, cs, hw, by omega, fun i hi => ⟨h6.1 i hi, q4 i hi⟩⟩
        have := h7 g (by rw [e1]; rfl)
        omega
    have hnb : ∀ G, a = some G → G.block ≠ b := fun G e => by subst e; have := h7 G.block rfl; omega
    replace h3 := Lib.hid h3
    replace hOR := Lib.hid hOR
    replace hnb := Lib.hid hnb
    clear HA h4 h5 h6 h7 hmf p0 hR6
    go_wp2_with fail
    go_ret2
    exact ⟨a, c, rfl, hOR.out, hnb.out, h3.out, hG.out⟩
  · rw [if_neg hE, if_neg hE]
    have HA := rattempt_no (k := 80) (caps := #[.pointer (some ⟨w.heap.size, 0, none⟩), .pointer (some ⟨w.heap.size + 1, 0, none⟩), .pointer (some ⟨w.heap.size + 1 + 1, 0, none⟩)]) (x := some (w.heap.size + 1 + 1)) (t := 25) (cs := #[.slice none 0 0]) W h2 hE (fun y hy => by injection hy with hy; omega) (enters_of Try.func80 (by kernel_rfl) rfl)
      (rbytes1_no (most := most) _ (h2.below hBA) hg (by rw [(hP.alloc _).cell 0]; rfl) (by rw [(hM.alloc _).cell 0]; rfl) (by omega) (by omega) (hS.alloc _) (by omega) hE)
    generalize s.bytesE most = E at *
    replace HA := Lib.hid HA
    replace hB := Lib.hid hB
    clear h hg h2 hP hS hM hs1 hs2 hBA hE
    go_enter Try.func51, Try.ntmps51
    go_upto_region 2 with (fail)
    clear hW
    go_wp2_with fail
    refine HA.out.mono ?_
    rintro e w' ⟨rfl, h3, h4, h5⟩
    have b0 := (h5 _ rfl).cell 0
    simp only [List.getElem?_toArray, List.getElem?_cons_zero] at b0
    have hG := Lib.hid (only2_grown h4 hB.out (by omega))
    replace h3 := Lib.hid h3
    clear HA h4 h5 hmf p0
    go_wp2_with fail
    go_ret2
    exact ⟨none, 0, rfl, .inl ⟨rfl, rfl⟩, (fun G e => by cases e), h3.out, hG.out⟩
end Go.Proofs.Ytacnmnodbmbplaa
