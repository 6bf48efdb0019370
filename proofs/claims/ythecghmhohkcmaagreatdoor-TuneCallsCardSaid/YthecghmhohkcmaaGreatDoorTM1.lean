/-
  Comparing (gentm.py writes this text).
-/
import Derived.Test.YthecghmhohkcmaaGreatDoorTZd
namespace Go.Proofs.YthecghmhohkcmaaGreatDoor
open Go.RowKit Go.Shelf
set_option maxRecDepth 100000
set_option maxHeartbeats 1000000
set_option linter.unusedVariables false

section
variable {K : Cx} {z : Zs} {s : Ts} {w w' : World} {c cd nd co no : Nat} {nm fm : ByteArray}
def compareM (cd nd co no : Nat) : M Unit := M.bind (Go.Proofs.YthecghmhohkcmaaGreatDoor.readO co no) fun o => M.bind (Go.Proofs.YthecghmhohkcmaaGreatDoor.readO cd nd) fun d => M.bind (M.set (putR 1 (decide (o ≤ d)))) fun _ => M.set (tellR ((d + 256 - o) % 256))
theorem compare_any (h : Tk K z s w) (hz : Zd K z w c nm fm cd nd co no) (hr : readable co) (hrd : readable cd) (hl : s.l.length ≤ 80) :
    Calls Tryz.prog 80 #[.pointer (some ⟨K.b, 0, none⟩)] w (Post K z s w (compareM cd nd co no) unitV (fun _ => True) 12) := by
  obtain ⟨Q, hQ, F⟩ := post_name (Post K z s w (compareM cd nd co no) unitV (fun _ => True) 12)
  rw [hQ]
  clear hQ
  replace F := Lib.hid F
  have t0 := Lib.hid h
  have k0 := Lib.hid (Kp.refl K w)
  have hz0 := Lib.hid hz
  have hl0 := Lib.hid hl
  have se0 := Lib.hid (show s.l.length ≤ s.l.length + 0 from Nat.le_refl _)
  clear h hz hl
  go_enter Tryz.func80, Tryz.ntmps80
  obtain ⟨kf1, cp1, cf1, hen1, H1⟩ := (hz0.out.stay t0.out k0.out).readO t0.out hr (by have := hl0.out; have := se0.out; omega)
  replace H1 := Lib.hid H1
  go_wp2_with fail
  with_reducible refine H1.out.mono ?_
  rintro e w1 ⟨s1, t1, k1, l1, (⟨v1, r1, q1, rfl⟩ | ⟨g1, rfl⟩)⟩
  rotate_left
  · skip
    have hf := Lib.hid (F.out lackE _ ⟨s1, t1, k0.out.trans k1, (by have := se0.out; omega), .inr ⟨Gave.bind g1, rfl⟩⟩)
    clear F
    unfold lackE at hf ⊢
    go_wp2_with fail
    first | exact hf.out | exact ⟨rfl, hf.out⟩
  replace k1 := Lib.hid (k0.out.trans k1)
  have se1 := Lib.hid (show s1.l.length ≤ s.l.length + 3 from (by have := se0.out; omega))
  replace t1 := Lib.hid t1
  replace r1 := Lib.hid r1
  clear H1 l1
  clear cf1 hen1
  unfold byteV
  obtain ⟨kf2, cp2, cf2, hen2, H2⟩ := (hz0.out.stay t0.out k1.out).readD t1.out hrd (by have := hl0.out; have := se1.out; omega)
  replace H2 := Lib.hid H2
  go_wp2_with fail
  with_reducible refine H2.out.mono ?_
  rintro e w2 ⟨s2, t2, k2, l2, (⟨v2, r2, q2, rfl⟩ | ⟨g2, rfl⟩)⟩
  rotate_left
  · skip
    have hf := Lib.hid (F.out lackE _ ⟨s2, t2, k1.out.trans k2, (by have := se1.out; omega), .inr ⟨Gave.then r1.out (Gave.bind g2), rfl⟩⟩)
    clear F
    unfold lackE at hf ⊢
    go_wp2_with fail
    first | exact hf.out | exact ⟨rfl, hf.out⟩
  replace k2 := Lib.hid (k1.out.trans k2)
  have se2 := Lib.hid (show s2.l.length ≤ s.l.length + 6 from (by have := se1.out; omega))
  replace t2 := Lib.hid t2
  replace r2 := Lib.hid r2
  clear H2 l2
  clear cf2 hen2
  unfold byteV
  have e1 : decide ((v2 : Int) ≥ (v1 : Int)) = decide (v1 ≤ v2) := by rw [Bool.eq_iff_iff]; simp only [decide_eq_true_eq]; omega
  have e1b : decide ((v1 : Int) ≤ (v2 : Int)) = decide (v1 ≤ v2) := by rw [Bool.eq_iff_iff]; simp only [decide_eq_true_eq]; omega
  obtain ⟨x1, hx1, x1b, x1w⟩ : ∃ x : Nat, (v2 + 256 - v1) % 256 = x ∧ x < 256 ∧ IntKind.u8.wrap ((v2 : Int) - (v1 : Int)) = (x : Int) := ⟨_, rfl, Nat.mod_lt _ (by decide), (by simp only [IntKind.wrap_u8]; omega)⟩
  replace hx1 := Lib.hid hx1
  have H3 := put_any 1 1 rfl (decide (v1 ≤ v2)) t2.out (by decide)
  replace H3 := Lib.hid H3
  go_wp2_with fail
  with_reducible refine H3.out.mono ?_
  rintro e w3 ⟨rfl, t3, k3⟩
  have r3 := Ran.set (putR 1 (decide (v1 ≤ v2))) s2
  have se3 := (show ({ s2 with r := (putR 1 (decide (v1 ≤ v2))) s2.r } : Ts).l.length ≤ s.l.length + 6 from se2.out)
  generalize hs3 : ({ s2 with r := (putR 1 (decide (v1 ≤ v2))) s2.r } : Ts) = s3 at r3 t3 se3
  replace hs3 := Lib.hid hs3
  replace k3 := Lib.hid (k2.out.trans k3)
  replace t3 := Lib.hid t3
  replace r3 := Lib.hid r3
  replace se3 := Lib.hid se3
  clear H3
  have H4 := tell_any x1 t3.out x1b
  replace H4 := Lib.hid H4
  go_wp2_with fail
  with_reducible refine H4.out.mono ?_
  rintro e w4 ⟨rfl, t4, k4⟩
  have r4 := Ran.set (tellR x1) s3
  have se4 := (show ({ s3 with r := (tellR x1) s3.r } : Ts).l.length ≤ s.l.length + 6 from se3.out)
  generalize hs4 : ({ s3 with r := (tellR x1) s3.r } : Ts) = s4 at r4 t4 se4
  replace hs4 := Lib.hid hs4
  replace k4 := Lib.hid (k3.out.trans k4)
  replace t4 := Lib.hid t4
  replace r4 := Lib.hid r4
  replace se4 := Lib.hid se4
  clear H4
  have e_x1 := hx1.out
  subst e_x1
  have hf := Lib.hid (F.out (.returned (unitV ())) _ (Post.done (r1.out.bind (r2.out.bind (r3.out.bind (r4.out)))) t4.out k4.out trivial (by have := se4.out; omega)))
  unfold unitV at hf
  clear F
  go_wp2_with fail
  first | exact hf.out | (go_end0; exact hf.out) | (go_ret; exact hf.out)
end
end Go.Proofs.YthecghmhohkcmaaGreatDoor
