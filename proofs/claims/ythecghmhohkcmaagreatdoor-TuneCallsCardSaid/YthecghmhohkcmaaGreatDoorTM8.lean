/-
  Calls and coming back (gentm.py writes this text).
-/
import Derived.Test.YthecghmhohkcmaaGreatDoorTWo
import Derived.StillTailTactics
namespace Go.Proofs.YthecghmhohkcmaaGreatDoor
open Go.RowKit Go.Shelf
set_option maxRecDepth 100000
set_option maxHeartbeats 1000000
set_option linter.unusedVariables false

section
variable {K : Cx} {z : Zs} {s : Ts} {w w' : World} {c cd nd co no : Nat} {nm fm : ByteArray}
def callM (no : Nat) : M Unit := M.bind pushPcM fun _ => M.set fun r => { r with Pc := no }
theorem pushPcS_len (s : Ts) : (pushPcS s).l.length = s.l.length + 2 := by unfold pushPcS; simp
theorem callA_any (h : Tk K z s w) (hz : Zd K z w c nm fm cd nd co no) (hco : co < 256) (hne : co ≠ 117) (hl : s.l.length ≤ 80) :
    Calls Tryz.prog 133 #[.pointer (some ⟨K.b, 0, none⟩)] w (Post K z s w (callM no) unitV (fun _ => True) 12) := by
  obtain ⟨Q, hQ, F⟩ := post_name (Post K z s w (callM no) unitV (fun _ => True) 12)
  rw [hQ]
  clear hQ
  replace F := Lib.hid F
  have n117 : ((co : Int) == 117) = false := by rw [beq_eq_false_iff_ne]; omega
  have t0 := Lib.hid h
  have k0 := Lib.hid (Kp.refl K w)
  have hz0 := Lib.hid hz
  have hl0 := Lib.hid hl
  have se0 := Lib.hid (show s.l.length ≤ s.l.length + 0 from Nat.le_refl _)
  clear h hz hl
  go_enter Tryz.func133, Tryz.ntmps133
  have H1 := pushPc_any t0.out (by have := hl0.out; have := se0.out; omega)
  replace H1 := Lib.hid H1
  go_wp2_with fail
  with_reducible refine H1.out.mono ?_
  rintro e w1 ⟨rfl, t1, k1⟩
  have r1 := Ran.pushPc s t0.out.ok
  have se1 : (pushPcS s).l.length ≤ s.l.length + 2 := by have := se0.out; rw [pushPcS_len]; omega
  generalize hs1 : pushPcS s = s1 at r1 t1 se1
  replace hs1 := Lib.hid hs1
  replace k1 := Lib.hid (k0.out.trans k1)
  replace t1 := Lib.hid t1
  replace r1 := Lib.hid r1
  replace se1 := Lib.hid se1
  clear H1
  have c5 := t1.out.look.2.1.1
  have f5 := t1.out.look.2.2 5
  have d18 := t1.out.lookO.1.trans (by rw [hz0.out.o0])
  have d19 := t1.out.lookO.2.1.trans (by rw [hz0.out.o1])
  have d20 := t1.out.lookO.2.2.1
  have d21 := t1.out.lookO.2.2.2
  have hno := Lib.hid hz0.out.no
  have t2 := t1.out.toPc no hno.out
  have r2 := Ran.set (fun r => { r with Pc := no }) s1
  have se2 := (show ({ s1 with r := { s1.r with Pc := no } } : Ts).l.length ≤ s.l.length + 2 from se1.out)
  generalize hs2 : ({ s1 with r := { s1.r with Pc := no } } : Ts) = s2 at r2 t2 se2
  have k2 := Lib.hid (k1.out.set 5 (.int .u16 (no : Nat)))
  replace hs2 := Lib.hid hs2
  replace t2 := Lib.hid t2
  replace r2 := Lib.hid r2
  replace se2 := Lib.hid se2
  have hf := Lib.hid (F.out (.returned (unitV ())) _ (Post.done (r1.out.bind (r2.out)) t2.out k2.out trivial (by have := se2.out; omega)))
  unfold unitV at hf
  clear F
  go_wp2_with fail
  first | exact hf.out | (go_end0; exact hf.out) | (go_ret; exact hf.out)
def callUM (no : Nat) : M Unit := M.bind pushPcM fun _ => M.bind (M.set fun r => { r with Pc := no }) fun _ => M.set fun r => { r with Pc := 65280 ||| no }
def backM : M Unit := popPcM
theorem back_any (h : Tk K z s w) (hl : s.l.length ≤ 80) :
    Calls Tryz.prog 136 #[.pointer (some ⟨K.b, 0, none⟩)] w (Post K z s w backM unitV (fun _ => True) 12) := by
  have H1 := Lib.hid (popPc_any h (by omega))
  obtain ⟨Q, hQ, F⟩ := post_name (Post K z s w backM unitV (fun _ => True) 12)
  rw [hQ]
  replace F := Lib.hid F
  clear h hQ hl
  go_enter Tryz.func136, Tryz.ntmps136
  go_wp2_with fail
  with_reducible refine H1.out.mono ?_
  rintro e w1 ⟨s1, t1, k1, l1, h1⟩
  have hf := Lib.hid (F.out e _ ⟨s1, t1, k1, by omega, h1⟩)
  clear F H1 t1 k1 l1
  rcases h1 with ⟨v, _, _, rfl⟩ | ⟨_, rfl⟩
  · unfold unitV at hf ⊢
    go_wp2_with fail
    first | exact hf.out | (go_end0; exact hf.out)
  · unfold lackE at hf ⊢
    go_wp2_with fail
    first | exact hf.out | exact ⟨rfl, hf.out⟩
end
end Go.Proofs.YthecghmhohkcmaaGreatDoor
