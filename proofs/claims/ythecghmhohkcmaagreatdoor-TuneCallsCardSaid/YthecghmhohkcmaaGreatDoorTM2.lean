/-
  Moving, combining, changing (gentm.py writes this text).
-/
import Derived.Test.YthecghmhohkcmaaGreatDoorTCb
namespace Go.Proofs.YthecghmhohkcmaaGreatDoor
open Go.RowKit Go.Shelf
set_option maxRecDepth 100000
set_option maxHeartbeats 1000000
set_option linter.unusedVariables false

section
variable {K : Cx} {z : Zs} {s : Ts} {w w' : World} {c cd nd co no : Nat} {nm fm : ByteArray}
def tellL : List Nat := [65, 88, 89]
def moveTM (cd nd co no : Nat) : M Unit := M.bind (Go.Proofs.YthecghmhohkcmaaGreatDoor.readO co no) fun v => M.bind (writeO cd nd v) fun _ => M.set (tellR v)
theorem moveTA_any (h : Tk K z s w) (hz : Zd K z w c nm fm cd nd co no) (hr : readable co) (hw : writable cd) (hcd : cd = 65) (hl : s.l.length ≤ 80) :
    Calls Tryz.prog 78 #[.pointer (some ⟨K.b, 0, none⟩)] w (Post K z s w (moveTM cd nd co no) unitV (fun _ => True) 12) := by
  obtain ⟨Q, hQ, F⟩ := post_name (Post K z s w (moveTM cd nd co no) unitV (fun _ => True) 12)
  rw [hQ]
  clear hQ
  replace F := Lib.hid F
  have t0 := Lib.hid h
  have k0 := Lib.hid (Kp.refl K w)
  have hz0 := Lib.hid hz
  have hl0 := Lib.hid hl
  have se0 := Lib.hid (show s.l.length ≤ s.l.length + 0 from Nat.le_refl _)
  clear h hz hl
  go_enter Tryz.func78, Tryz.ntmps78
  obtain ⟨kf1, cp1, cf1, hen1, H1⟩ := (hz0.out.stay t0.out k0.out).readO t0.out hr (by have := hl0.out; have := se0.out; omega)
  replace H1 := Lib.hid H1
  go_wp2_with fail
  with_reducible refine H1.out.mono ?_
  rintro e w1 ⟨s1, t1, k1, l1, (⟨v1, r1, q1, rfl⟩ | ⟨g1, rfl⟩)⟩
  rotate_left
  · skip
    have hf := Lib.hid (F.out lackE _ ⟨s1, t1, k0.out.trans k1, (by have := se0.out; omega), .inr ⟨Gave.bind g1, rfl⟩⟩)
    clear F
    unfold lackE at hf ⊢
    go_wp2_with fail
    first | exact hf.out | exact ⟨rfl, hf.out⟩
  replace k1 := Lib.hid (k0.out.trans k1)
  have se1 := Lib.hid (show s1.l.length ≤ s.l.length + 3 from (by have := se0.out; omega))
  replace t1 := Lib.hid t1
  replace r1 := Lib.hid r1
  clear H1 l1
  clear cf1 hen1
  unfold byteV
  have q1h := Lib.hid q1
  obtain ⟨kf2, cp2, cf2, hen2, H2⟩ := (hz0.out.stay t0.out k1.out).writeD t1.out hw (v1) q1h.out (by have := hl0.out; have := se1.out; omega)
  replace H2 := Lib.hid H2
  go_wp2_with fail
  with_reducible refine H2.out.mono ?_
  rintro e w2 ⟨s2, t2, k2, l2, (⟨_u2, r2, q2, rfl⟩ | ⟨g2, rfl⟩)⟩
  rotate_left
  · skip
    have hf := Lib.hid (F.out lackE _ ⟨s2, t2, k1.out.trans k2, (by have := se1.out; omega), .inr ⟨Gave.then r1.out (Gave.bind g2), rfl⟩⟩)
    clear F
    unfold lackE at hf ⊢
    go_wp2_with fail
    first | exact hf.out | exact ⟨rfl, hf.out⟩
  replace k2 := Lib.hid (k1.out.trans k2)
  have se2 := Lib.hid (show s2.l.length ≤ s.l.length + 6 from (by have := se1.out; omega))
  replace t2 := Lib.hid t2
  replace r2 := Lib.hid r2
  clear H2 l2
  clear cf2 hen2
  unfold unitV
  have cd0 := t2.out.lookD.1.trans (by rw [hz0.out.d0])
  rw [show ((cd : Nat) : Int) = 65 from by rw [hcd]; rfl] at cd0
  have H3 := tell_any v1 t2.out q1h.out
  replace H3 := Lib.hid H3
  go_wp2_with fail
  with_reducible refine H3.out.mono ?_
  rintro e w3 ⟨rfl, t3, k3⟩
  have r3 := Ran.set (tellR v1) s2
  have se3 := (show ({ s2 with r := (tellR v1) s2.r } : Ts).l.length ≤ s.l.length + 6 from se2.out)
  generalize hs3 : ({ s2 with r := (tellR v1) s2.r } : Ts) = s3 at r3 t3 se3
  replace hs3 := Lib.hid hs3
  replace k3 := Lib.hid (k2.out.trans k3)
  replace t3 := Lib.hid t3
  replace r3 := Lib.hid r3
  replace se3 := Lib.hid se3
  clear H3
  have hf := Lib.hid (F.out (.returned (unitV ())) _ (Post.done (r1.out.bind (r2.out.bind (r3.out))) t3.out k3.out trivial (by have := se3.out; omega)))
  unfold unitV at hf
  clear F
  go_wp2_with fail
  first | exact hf.out | (go_end0; exact hf.out) | (go_ret; exact hf.out)
theorem moveTX_any (h : Tk K z s w) (hz : Zd K z w c nm fm cd nd co no) (hr : readable co) (hw : writable cd) (hcd : cd = 88) (hl : s.l.length ≤ 80) :
    Calls Tryz.prog 78 #[.pointer (some ⟨K.b, 0, none⟩)] w (Post K z s w (moveTM cd nd co no) unitV (fun _ => True) 12) := by
  obtain ⟨Q, hQ, F⟩ := post_name (Post K z s w (moveTM cd nd co no) unitV (fun _ => True) 12)
  rw [hQ]
  clear hQ
  replace F := Lib.hid F
  have t0 := Lib.hid h
  have k0 := Lib.hid (Kp.refl K w)
  have hz0 := Lib.hid hz
  have hl0 := Lib.hid hl
  have se0 := Lib.hid (show s.l.length ≤ s.l.length + 0 from Nat.le_refl _)
  clear h hz hl
  go_enter Tryz.func78, Tryz.ntmps78
  obtain ⟨kf1, cp1, cf1, hen1, H1⟩ := (hz0.out.stay t0.out k0.out).readO t0.out hr (by have := hl0.out; have := se0.out; omega)
  replace H1 := Lib.hid H1
  go_wp2_with fail
  with_reducible refine H1.out.mono ?_
  rintro e w1 ⟨s1, t1, k1, l1, (⟨v1, r1, q1, rfl⟩ | ⟨g1, rfl⟩)⟩
  rotate_left
  · skip
    have hf := Lib.hid (F.out lackE _ ⟨s1, t1, k0.out.trans k1, (by have := se0.out; omega), .inr ⟨Gave.bind g1, rfl⟩⟩)
    clear F
    unfold lackE at hf ⊢
    go_wp2_with fail
    first | exact hf.out | exact ⟨rfl, hf.out⟩
  replace k1 := Lib.hid (k0.out.trans k1)
  have se1 := Lib.hid (show s1.l.length ≤ s.l.length + 3 from (by have := se0.out; omega))
  replace t1 := Lib.hid t1
  replace r1 := Lib.hid r1
  clear H1 l1
  clear cf1 hen1
  unfold byteV
  have q1h := Lib.hid q1
  obtain ⟨kf2, cp2, cf2, hen2, H2⟩ := (hz0.out.stay t0.out k1.out).writeD t1.out hw (v1) q1h.out (by have := hl0.out; have := se1.out; omega)
  replace H2 := Lib.hid H2
  go_wp2_with fail
  with_reducible refine H2.out.mono ?_
  rintro e w2 ⟨s2, t2, k2, l2, (⟨_u2, r2, q2, rfl⟩ | ⟨g2, rfl⟩)⟩
  rotate_left
  · skip
    have hf := Lib.hid (F.out lackE _ ⟨s2, t2, k1.out.trans k2, (by have := se1.out; omega), .inr ⟨Gave.then r1.out (Gave.bind g2), rfl⟩⟩)
    clear F
    unfold lackE at hf ⊢
    go_wp2_with fail
    first | exact hf.out | exact ⟨rfl, hf.out⟩
  replace k2 := Lib.hid (k1.out.trans k2)
  have se2 := Lib.hid (show s2.l.length ≤ s.l.length + 6 from (by have := se1.out; omega))
  replace t2 := Lib.hid t2
  replace r2 := Lib.hid r2
  clear H2 l2
  clear cf2 hen2
  unfold unitV
  have cd0 := t2.out.lookD.1.trans (by rw [hz0.out.d0])
  rw [show ((cd : Nat) : Int) = 88 from by rw [hcd]; rfl] at cd0
  have H3 := tell_any v1 t2.out q1h.out
  replace H3 := Lib.hid H3
  go_wp2_with fail
  with_reducible refine H3.out.mono ?_
  rintro e w3 ⟨rfl, t3, k3⟩
  have r3 := Ran.set (tellR v1) s2
  have se3 := (show ({ s2 with r := (tellR v1) s2.r } : Ts).l.length ≤ s.l.length + 6 from se2.out)
  generalize hs3 : ({ s2 with r := (tellR v1) s2.r } : Ts) = s3 at r3 t3 se3
  replace hs3 := Lib.hid hs3
  replace k3 := Lib.hid (k2.out.trans k3)
  replace t3 := Lib.hid t3
  replace r3 := Lib.hid r3
  replace se3 := Lib.hid se3
  clear H3
  have hf := Lib.hid (F.out (.returned (unitV ())) _ (Post.done (r1.out.bind (r2.out.bind (r3.out))) t3.out k3.out trivial (by have := se3.out; omega)))
  unfold unitV at hf
  clear F
  go_wp2_with fail
  first | exact hf.out | (go_end0; exact hf.out) | (go_ret; exact hf.out)
theorem moveTY_any (h : Tk K z s w) (hz : Zd K z w c nm fm cd nd co no) (hr : readable co) (hw : writable cd) (hcd : cd = 89) (hl : s.l.length ≤ 80) :
    Calls Tryz.prog 78 #[.pointer (some ⟨K.b, 0, none⟩)] w (Post K z s w (moveTM cd nd co no) unitV (fun _ => True) 12) := by
  obtain ⟨Q, hQ, F⟩ := post_name (Post K z s w (moveTM cd nd co no) unitV (fun _ => True) 12)
  rw [hQ]
  clear hQ
  replace F := Lib.hid F
  have t0 := Lib.hid h
  have k0 := Lib.hid (Kp.refl K w)
  have hz0 := Lib.hid hz
  have hl0 := Lib.hid hl
  have se0 := Lib.hid (show s.l.length ≤ s.l.length + 0 from Nat.le_refl _)
  clear h hz hl
  go_enter Tryz.func78, Tryz.ntmps78
  obtain ⟨kf1, cp1, cf1, hen1, H1⟩ := (hz0.out.stay t0.out k0.out).readO t0.out hr (by have := hl0.out; have := se0.out; omega)
  replace H1 := Lib.hid H1
  go_wp2_with fail
  with_reducible refine H1.out.mono ?_
  rintro e w1 ⟨s1, t1, k1, l1, (⟨v1, r1, q1, rfl⟩ | ⟨g1, rfl⟩)⟩
  rotate_left
  · skip
    have hf := Lib.hid (F.out lackE _ ⟨s1, t1, k0.out.trans k1, (by have := se0.out; omega), .inr ⟨Gave.bind g1, rfl⟩⟩)
    clear F
    unfold lackE at hf ⊢
    go_wp2_with fail
    first | exact hf.out | exact ⟨rfl, hf.out⟩
  replace k1 := Lib.hid (k0.out.trans k1)
  have se1 := Lib.hid (show s1.l.length ≤ s.l.length + 3 from (by have := se0.out; omega))
  replace t1 := Lib.hid t1
  replace r1 := Lib.hid r1
  clear H1 l1
  clear cf1 hen1
  unfold byteV
  have q1h := Lib.hid q1
  obtain ⟨kf2, cp2, cf2, hen2, H2⟩ := (hz0.out.stay t0.out k1.out).writeD t1.out hw (v1) q1h.out (by have := hl0.out; have := se1.out; omega)
  replace H2 := Lib.hid H2
  go_wp2_with fail
  with_reducible refine H2.out.mono ?_
  rintro e w2 ⟨s2, t2, k2, l2, (⟨_u2, r2, q2, rfl⟩ | ⟨g2, rfl⟩)⟩
  rotate_left
  · skip
    have hf := Lib.hid (F.out lackE _ ⟨s2, t2, k1.out.trans k2, (by have := se1.out; omega), .inr ⟨Gave.then r1.out (Gave.bind g2), rfl⟩⟩)
    clear F
    unfold lackE at hf ⊢
    go_wp2_with fail
    first | exact hf.out | exact ⟨rfl, hf.out⟩
  replace k2 := Lib.hid (k1.out.trans k2)
  have se2 := Lib.hid (show s2.l.length ≤ s.l.length + 6 from (by have := se1.out; omega))
  replace t2 := Lib.hid t2
  replace r2 := Lib.hid r2
  clear H2 l2
  clear cf2 hen2
  unfold unitV
  have cd0 := t2.out.lookD.1.trans (by rw [hz0.out.d0])
  rw [show ((cd : Nat) : Int) = 89 from by rw [hcd]; rfl] at cd0
  have H3 := tell_any v1 t2.out q1h.out
  replace H3 := Lib.hid H3
  go_wp2_with fail
  with_reducible refine H3.out.mono ?_
  rintro e w3 ⟨rfl, t3, k3⟩
  have r3 := Ran.set (tellR v1) s2
  have se3 := (show ({ s2 with r := (tellR v1) s2.r } : Ts).l.length ≤ s.l.length + 6 from se2.out)
  generalize hs3 : ({ s2 with r := (tellR v1) s2.r } : Ts) = s3 at r3 t3 se3
  replace hs3 := Lib.hid hs3
  replace k3 := Lib.hid (k2.out.trans k3)
  replace t3 := Lib.hid t3
  replace r3 := Lib.hid r3
  replace se3 := Lib.hid se3
  clear H3
  have hf := Lib.hid (F.out (.returned (unitV ())) _ (Post.done (r1.out.bind (r2.out.bind (r3.out))) t3.out k3.out trivial (by have := se3.out; omega)))
  unfold unitV at hf
  clear F
  go_wp2_with fail
  first | exact hf.out | (go_end0; exact hf.out) | (go_ret; exact hf.out)
def moveNM (cd nd co no : Nat) : M Unit := M.bind (Go.Proofs.YthecghmhohkcmaaGreatDoor.readO co no) fun v => M.bind (writeO cd nd v) fun _ => M.pure ()
theorem moveN_any (h : Tk K z s w) (hz : Zd K z w c nm fm cd nd co no) (hr : readable co) (hw : writable cd) (hcd : cd ∉ tellL) (hl : s.l.length ≤ 80) :
    Calls Tryz.prog 78 #[.pointer (some ⟨K.b, 0, none⟩)] w (Post K z s w (moveNM cd nd co no) unitV (fun _ => True) 12) := by
  obtain ⟨Q, hQ, F⟩ := post_name (Post K z s w (moveNM cd nd co no) unitV (fun _ => True) 12)
  rw [hQ]
  clear hQ
  replace F := Lib.hid F
  have n0 : ((cd : Int) == 65) = false := by rw [beq_eq_false_iff_ne]; intro e; exact hcd (by rw [show cd = 65 by omega]; decide)
  have n1 : ((cd : Int) == 88) = false := by rw [beq_eq_false_iff_ne]; intro e; exact hcd (by rw [show cd = 88 by omega]; decide)
  have n2 : ((cd : Int) == 89) = false := by rw [beq_eq_false_iff_ne]; intro e; exact hcd (by rw [show cd = 89 by omega]; decide)
  have t0 := Lib.hid h
  have k0 := Lib.hid (Kp.refl K w)
  have hz0 := Lib.hid hz
  have hl0 := Lib.hid hl
  have se0 := Lib.hid (show s.l.length ≤ s.l.length + 0 from Nat.le_refl _)
  clear h hz hl
  go_enter Tryz.func78, Tryz.ntmps78
  obtain ⟨kf1, cp1, cf1, hen1, H1⟩ := (hz0.out.stay t0.out k0.out).readO t0.out hr (by have := hl0.out; have := se0.out; omega)
  replace H1 := Lib.hid H1
  go_wp2_with fail
  with_reducible refine H1.out.mono ?_
  rintro e w1 ⟨s1, t1, k1, l1, (⟨v1, r1, q1, rfl⟩ | ⟨g1, rfl⟩)⟩
  rotate_left
  · skip
    have hf := Lib.hid (F.out lackE _ ⟨s1, t1, k0.out.trans k1, (by have := se0.out; omega), .inr ⟨Gave.bind g1, rfl⟩⟩)
    clear F
    unfold lackE at hf ⊢
    go_wp2_with fail
    first | exact hf.out | exact ⟨rfl, hf.out⟩
  replace k1 := Lib.hid (k0.out.trans k1)
  have se1 := Lib.hid (show s1.l.length ≤ s.l.length + 3 from (by have := se0.out; omega))
  replace t1 := Lib.hid t1
  replace r1 := Lib.hid r1
  clear H1 l1
  clear cf1 hen1
  unfold byteV
  have q1h := Lib.hid q1
  obtain ⟨kf2, cp2, cf2, hen2, H2⟩ := (hz0.out.stay t0.out k1.out).writeD t1.out hw (v1) q1h.out (by have := hl0.out; have := se1.out; omega)
  replace H2 := Lib.hid H2
  go_wp2_with fail
  with_reducible refine H2.out.mono ?_
  rintro e w2 ⟨s2, t2, k2, l2, (⟨_u2, r2, q2, rfl⟩ | ⟨g2, rfl⟩)⟩
  rotate_left
  · skip
    have hf := Lib.hid (F.out lackE _ ⟨s2, t2, k1.out.trans k2, (by have := se1.out; omega), .inr ⟨Gave.then r1.out (Gave.bind g2), rfl⟩⟩)
    clear F
    unfold lackE at hf ⊢
    go_wp2_with fail
    first | exact hf.out | exact ⟨rfl, hf.out⟩
  replace k2 := Lib.hid (k1.out.trans k2)
  have se2 := Lib.hid (show s2.l.length ≤ s.l.length + 6 from (by have := se1.out; omega))
  replace t2 := Lib.hid t2
  replace r2 := Lib.hid r2
  clear H2 l2
  clear cf2 hen2
  unfold unitV
  have cd0 := t2.out.lookD.1.trans (by rw [hz0.out.d0])
  have hf := Lib.hid (F.out (.returned (unitV ())) _ (Post.done (r1.out.bind (r2.out.bind (Ran.pure () _))) t2.out k2.out trivial (by have := se2.out; omega)))
  unfold unitV at hf
  clear F
  go_wp2_with fail
  first | exact hf.out | (go_end0; exact hf.out) | (go_ret; exact hf.out)
def moveM (cd nd co no : Nat) : M Unit := if cd ∈ tellL then moveTM cd nd co no else moveNM cd nd co no
theorem move_any (h : Tk K z s w) (hz : Zd K z w c nm fm cd nd co no) (hr : readable co) (hw : writable cd) (hl : s.l.length ≤ 80) :
    Calls Tryz.prog 78 #[.pointer (some ⟨K.b, 0, none⟩)] w (Post K z s w (moveM cd nd co no) unitV (fun _ => True) 12) := by
  unfold moveM
  by_cases hc : cd ∈ tellL
  · rw [if_pos hc]
    simp only [tellL, List.mem_cons, List.not_mem_nil, or_false] at hc
    rcases hc with hc | hc | hc
    · exact moveTA_any h hz hr hw hc hl
    · exact moveTX_any h hz hr hw hc hl
    · exact moveTY_any h hz hr hw hc hl
  · rw [if_neg hc]
    exact moveN_any h hz hr hw hc hl
def combineM (k cd nd co no : Nat) : M Unit := M.bind (Go.Proofs.YthecghmhohkcmaaGreatDoor.readO co no) fun o => M.bind (Go.Proofs.YthecghmhohkcmaaGreatDoor.readO cd nd) fun d => M.bind (M.ask fun r => combV k r d o) fun v => M.bind (M.set (combR k d o)) fun _ => M.bind (writeO cd nd v) fun _ => M.set (tellR v)
theorem combine_any (h : Tk K z s w) (hz : Zd K z w c nm fm cd nd co no) (k : Nat) (hk : k < 5) (hn : z.n1 = .string (combN k)) (hr : readable co) (hrd : readable cd) (hw : writable cd) (hl : s.l.length ≤ 80) :
    Calls Tryz.prog 79 #[.pointer (some ⟨K.b, 0, none⟩)] w (Post K z s w (combineM k cd nd co no) unitV (fun _ => True) 12) := by
  obtain ⟨Q, hQ, F⟩ := post_name (Post K z s w (combineM k cd nd co no) unitV (fun _ => True) 12)
  rw [hQ]
  clear hQ
  replace F := Lib.hid F
  have t0 := Lib.hid h
  have k0 := Lib.hid (Kp.refl K w)
  have hz0 := Lib.hid hz
  have hl0 := Lib.hid hl
  have se0 := Lib.hid (show s.l.length ≤ s.l.length + 0 from Nat.le_refl _)
  clear h hz hl
  go_enter Tryz.func79, Tryz.ntmps79
  obtain ⟨kf1, cp1, cf1, hen1, H1⟩ := (hz0.out.stay t0.out k0.out).readO t0.out hr (by have := hl0.out; have := se0.out; omega)
  replace H1 := Lib.hid H1
  go_wp2_with fail
  with_reducible refine H1.out.mono ?_
  rintro e w1 ⟨s1, t1, k1, l1, (⟨v1, r1, q1, rfl⟩ | ⟨g1, rfl⟩)⟩
  rotate_left
  · skip
    have hf := Lib.hid (F.out lackE _ ⟨s1, t1, k0.out.trans k1, (by have := se0.out; omega), .inr ⟨Gave.bind g1, rfl⟩⟩)
    clear F
    unfold lackE at hf ⊢
    go_wp2_with fail
    first | exact hf.out | exact ⟨rfl, hf.out⟩
  replace k1 := Lib.hid (k0.out.trans k1)
  have se1 := Lib.hid (show s1.l.length ≤ s.l.length + 3 from (by have := se0.out; omega))
  replace t1 := Lib.hid t1
  replace r1 := Lib.hid r1
  clear H1 l1
  clear cf1 hen1
  unfold byteV
  have q1h := Lib.hid q1
  obtain ⟨kf2, cp2, cf2, hen2, H2⟩ := (hz0.out.stay t0.out k1.out).readD t1.out hrd (by have := hl0.out; have := se1.out; omega)
  replace H2 := Lib.hid H2
  go_wp2_with fail
  with_reducible refine H2.out.mono ?_
  rintro e w2 ⟨s2, t2, k2, l2, (⟨v2, r2, q2, rfl⟩ | ⟨g2, rfl⟩)⟩
  rotate_left
  · skip
    have hf := Lib.hid (F.out lackE _ ⟨s2, t2, k1.out.trans k2, (by have := se1.out; omega), .inr ⟨Gave.then r1.out (Gave.bind g2), rfl⟩⟩)
    clear F
    unfold lackE at hf ⊢
    go_wp2_with fail
    first | exact hf.out | exact ⟨rfl, hf.out⟩
  replace k2 := Lib.hid (k1.out.trans k2)
  have se2 := Lib.hid (show s2.l.length ≤ s.l.length + 6 from (by have := se1.out; omega))
  replace t2 := Lib.hid t2
  replace r2 := Lib.hid r2
  clear H2 l2
  clear cf2 hen2
  unfold byteV
  have q2h := Lib.hid q2
  obtain ⟨x1, hx1, x1b⟩ : ∃ x : Nat, combV k s2.r v2 v1 = x ∧ x < 256 := ⟨_, rfl, combV_lt _ _ _ _ q2h.out q1h.out⟩
  replace hx1 := Lib.hid hx1
  have H3x := combined_any k v2 v1 hk t2.out hn q2h.out q1h.out
  rw [hx1.out] at H3x
  have H3 := H3x
  replace H3 := Lib.hid H3
  go_wp2_with fail
  with_reducible refine H3.out.mono ?_
  rintro e w3 ⟨rfl, t3, k3⟩
  have a3 := Lib.hid (Ran.ask (fun r => combV k r v2 v1) s2)
  have r3 := Ran.set (combR k v2 v1) s2
  have se3 := (show ({ s2 with r := (combR k v2 v1) s2.r } : Ts).l.length ≤ s.l.length + 6 from se2.out)
  generalize hs3 : ({ s2 with r := (combR k v2 v1) s2.r } : Ts) = s3 at r3 t3 se3
  replace hs3 := Lib.hid hs3
  replace k3 := Lib.hid (k2.out.trans k3)
  replace t3 := Lib.hid t3
  replace r3 := Lib.hid r3
  replace se3 := Lib.hid se3
  clear H3
  obtain ⟨kf4, cp4, cf4, hen4, H4⟩ := (hz0.out.stay t0.out k3.out).writeD t3.out hw (x1) x1b (by have := hl0.out; have := se3.out; omega)
  replace H4 := Lib.hid H4
  go_wp2_with fail
  with_reducible refine H4.out.mono ?_
  rintro e w4 ⟨s4, t4, k4, l4, (⟨_u4, r4, q4, rfl⟩ | ⟨g4, rfl⟩)⟩
  rotate_left
  · skip
    have e_x1 := hx1.out
    subst e_x1
    have hf := Lib.hid (F.out lackE _ ⟨s4, t4, k3.out.trans k4, (by have := se3.out; omega), .inr ⟨Gave.then r1.out (Gave.then r2.out (Gave.then a3.out (Gave.then r3.out (Gave.bind g4)))), rfl⟩⟩)
    clear F
    unfold lackE at hf ⊢
    go_wp2_with fail
    first | exact hf.out | exact ⟨rfl, hf.out⟩
  replace k4 := Lib.hid (k3.out.trans k4)
  have se4 := Lib.hid (show s4.l.length ≤ s.l.length + 9 from (by have := se3.out; omega))
  replace t4 := Lib.hid t4
  replace r4 := Lib.hid r4
  clear H4 l4
  clear cf4 hen4
  unfold unitV
  have H5 := tell_any x1 t4.out x1b
  replace H5 := Lib.hid H5
  go_wp2_with fail
  with_reducible refine H5.out.mono ?_
  rintro e w5 ⟨rfl, t5, k5⟩
  have r5 := Ran.set (tellR x1) s4
  have se5 := (show ({ s4 with r := (tellR x1) s4.r } : Ts).l.length ≤ s.l.length + 9 from se4.out)
  generalize hs5 : ({ s4 with r := (tellR x1) s4.r } : Ts) = s5 at r5 t5 se5
  replace hs5 := Lib.hid hs5
  replace k5 := Lib.hid (k4.out.trans k5)
  replace t5 := Lib.hid t5
  replace r5 := Lib.hid r5
  replace se5 := Lib.hid se5
  clear H5
  have e_x1 := hx1.out
  subst e_x1
  have hf := Lib.hid (F.out (.returned (unitV ())) _ (Post.done (r1.out.bind (r2.out.bind (a3.out.bind (r3.out.bind (r4.out.bind (r5.out)))))) t5.out k5.out trivial (by have := se5.out; omega)))
  unfold unitV at hf
  clear F
  go_wp2_with fail
  first | exact hf.out | (go_end0; exact hf.out) | (go_ret; exact hf.out)
def changeM (k cd nd : Nat) : M Unit := M.bind (Go.Proofs.YthecghmhohkcmaaGreatDoor.readO cd nd) fun d => M.bind (M.ask fun r => changeV k r d) fun v => M.bind (M.set (changeR k d)) fun _ => M.bind (writeO cd nd v) fun _ => M.set (tellR v)
theorem change_any (h : Tk K z s w) (hz : Zd K z w c nm fm cd nd co no) (k : Nat) (hk : k < 6) (hn : z.n1 = .string (changeN k)) (hrd : readable cd) (hw : writable cd) (hl : s.l.length ≤ 80) :
    Calls Tryz.prog 81 #[.pointer (some ⟨K.b, 0, none⟩)] w (Post K z s w (changeM k cd nd) unitV (fun _ => True) 12) := by
  obtain ⟨Q, hQ, F⟩ := post_name (Post K z s w (changeM k cd nd) unitV (fun _ => True) 12)
  rw [hQ]
  clear hQ
  replace F := Lib.hid F
  have t0 := Lib.hid h
  have k0 := Lib.hid (Kp.refl K w)
  have hz0 := Lib.hid hz
  have hl0 := Lib.hid hl
  have se0 := Lib.hid (show s.l.length ≤ s.l.length + 0 from Nat.le_refl _)
  clear h hz hl
  go_enter Tryz.func81, Tryz.ntmps81
  obtain ⟨kf1, cp1, cf1, hen1, H1⟩ := (hz0.out.stay t0.out k0.out).readD t0.out hrd (by have := hl0.out; have := se0.out; omega)
  replace H1 := Lib.hid H1
  go_wp2_with fail
  with_reducible refine H1.out.mono ?_
  rintro e w1 ⟨s1, t1, k1, l1, (⟨v1, r1, q1, rfl⟩ | ⟨g1, rfl⟩)⟩
  rotate_left
  · skip
    have hf := Lib.hid (F.out lackE _ ⟨s1, t1, k0.out.trans k1, (by have := se0.out; omega), .inr ⟨Gave.bind g1, rfl⟩⟩)
    clear F
    unfold lackE at hf ⊢
    go_wp2_with fail
    first | exact hf.out | exact ⟨rfl, hf.out⟩
  replace k1 := Lib.hid (k0.out.trans k1)
  have se1 := Lib.hid (show s1.l.length ≤ s.l.length + 3 from (by have := se0.out; omega))
  replace t1 := Lib.hid t1
  replace r1 := Lib.hid r1
  clear H1 l1
  clear cf1 hen1
  unfold byteV
  have q1h := Lib.hid q1
  obtain ⟨x1, hx1, x1b⟩ : ∃ x : Nat, changeV k s1.r v1 = x ∧ x < 256 := ⟨_, rfl, changeV_lt _ _ _ q1h.out⟩
  replace hx1 := Lib.hid hx1
  have H3x := changed_any k v1 hk t1.out hn q1h.out
  rw [hx1.out] at H3x
  have H2 := H3x
  replace H2 := Lib.hid H2
  go_wp2_with fail
  with_reducible refine H2.out.mono ?_
  rintro e w2 ⟨rfl, t2, k2⟩
  have a2 := Lib.hid (Ran.ask (fun r => changeV k r v1) s1)
  have r2 := Ran.set (changeR k v1) s1
  have se2 := (show ({ s1 with r := (changeR k v1) s1.r } : Ts).l.length ≤ s.l.length + 3 from se1.out)
  generalize hs2 : ({ s1 with r := (changeR k v1) s1.r } : Ts) = s2 at r2 t2 se2
  replace hs2 := Lib.hid hs2
  replace k2 := Lib.hid (k1.out.trans k2)
  replace t2 := Lib.hid t2
  replace r2 := Lib.hid r2
  replace se2 := Lib.hid se2
  clear H2
  obtain ⟨kf3, cp3, cf3, hen3, H3⟩ := (hz0.out.stay t0.out k2.out).writeD t2.out hw (x1) x1b (by have := hl0.out; have := se2.out; omega)
  replace H3 := Lib.hid H3
  go_wp2_with fail
  with_reducible refine H3.out.mono ?_
  rintro e w3 ⟨s3, t3, k3, l3, (⟨_u3, r3, q3, rfl⟩ | ⟨g3, rfl⟩)⟩
  rotate_left
  · skip
    have e_x1 := hx1.out
    subst e_x1
    have hf := Lib.hid (F.out lackE _ ⟨s3, t3, k2.out.trans k3, (by have := se2.out; omega), .inr ⟨Gave.then r1.out (Gave.then a2.out (Gave.then r2.out (Gave.bind g3))), rfl⟩⟩)
    clear F
    unfold lackE at hf ⊢
    go_wp2_with fail
    first | exact hf.out | exact ⟨rfl, hf.out⟩
  replace k3 := Lib.hid (k2.out.trans k3)
  have se3 := Lib.hid (show s3.l.length ≤ s.l.length + 6 from (by have := se2.out; omega))
  replace t3 := Lib.hid t3
  replace r3 := Lib.hid r3
  clear H3 l3
  clear cf3 hen3
  unfold unitV
  have H4 := tell_any x1 t3.out x1b
  replace H4 := Lib.hid H4
  go_wp2_with fail
  with_reducible refine H4.out.mono ?_
  rintro e w4 ⟨rfl, t4, k4⟩
  have r4 := Ran.set (tellR x1) s3
  have se4 := (show ({ s3 with r := (tellR x1) s3.r } : Ts).l.length ≤ s.l.length + 6 from se3.out)
  generalize hs4 : ({ s3 with r := (tellR x1) s3.r } : Ts) = s4 at r4 t4 se4
  replace hs4 := Lib.hid hs4
  replace k4 := Lib.hid (k3.out.trans k4)
  replace t4 := Lib.hid t4
  replace r4 := Lib.hid r4
  replace se4 := Lib.hid se4
  clear H4
  have e_x1 := hx1.out
  subst e_x1
  have hf := Lib.hid (F.out (.returned (unitV ())) _ (Post.done (r1.out.bind (a2.out.bind (r2.out.bind (r3.out.bind (r4.out))))) t4.out k4.out trivial (by have := se4.out; omega)))
  unfold unitV at hf
  clear F
  go_wp2_with fail
  first | exact hf.out | (go_end0; exact hf.out) | (go_ret; exact hf.out)
end
end Go.Proofs.YthecghmhohkcmaaGreatDoor
