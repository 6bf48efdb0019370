/-
  Registers from the stack, branches by a byte or a bit (gentm.py writes this text).
-/
import Derived.Test.YtknlbmjncginnaaGreatDoorPE
import Derived.Test.YtknlbmjncginnaaGreatDoorPF
import Derived.StillTailTactics
namespace Go.Proofs.YtknlbmjncginnaaGreatDoor
open Go.RowKit Go.Shelf
set_option maxRecDepth 100000
set_option maxHeartbeats 1000000
set_option linter.unusedVariables false

section
variable {K : Cx} {z : Zs} {s : Ts} {w w' : World} {c cd nd co no : Nat} {nm fm : ByteArray}
/-- Writing the first operand, reading it: the function, whenever it is called. -/
theorem Zd.writeAt (h : Zd K z w c nm fm cd nd co no) (t : Tk K z s w) (hr : writable cd) (hl : s.l.length ≤ 96) : ∃ kf caps, z.d3 = .func (.func kf) #[] caps ∧ (∀ (args : Array Value) (W : World), (callFunc kf args).run Tryz.prog W = .ok (.enter kf args) W) ∧ ∀ s1 W, Tk K z s1 W → Kp K w W → s1.l.length ≤ 96 → ∀ x, x < 256 → Calls Tryz.prog kf (#[.int .u8 (x : Nat)] ++ caps) W (Post K z s1 W (writeO cd nd x) unitV (fun _ => True) 3) := by
  obtain ⟨kf, caps, h1, h2, _⟩ := owrite_any t h.d2 h.nd (v := 0) (by decide) hr hl
  refine ⟨kf, caps, h1, h2, fun s1 W t1 k1 hl1 x hx => ?_⟩
  obtain ⟨kf', caps', e1, _, e3⟩ := owrite_any t1 (h.stay t k1).d2 h.nd hx hr hl1
  have e := h1.symm.trans e1
  injection e with e4 _ e5
  injection e4 with e4
  subst e4
  subst e5
  exact e3
theorem Zd.readAt (h : Zd K z w c nm fm cd nd co no) (t : Tk K z s w) (hr : readable cd) (hl : s.l.length ≤ 96) : ∃ kf caps, z.d2 = .func (.func kf) #[] caps ∧ (∀ (args : Array Value) (W : World), (callFunc kf args).run Tryz.prog W = .ok (.enter kf args) W) ∧ ∀ s1 W, Tk K z s1 W → Kp K w W → s1.l.length ≤ 96 → Calls Tryz.prog kf caps W (Post K z s1 W (Go.Proofs.YtknlbmjncginnaaGreatDoor.readO cd nd) byteV (fun v => v < 256) 3) := by
  obtain ⟨kf, caps, h1, h2, _⟩ := oread_any t h.d2 h.nd hr hl
  refine ⟨kf, caps, h1, h2, fun s1 W t1 k1 hl1 => ?_⟩
  obtain ⟨kf', caps', e1, _, e3⟩ := oread_any t1 (h.stay t k1).d2 h.nd hr hl1
  have e := h1.symm.trans e1
  injection e with e4 _ e5
  injection e4 with e4
  subst e4
  subst e5
  exact e3
/-- A method that leaves A as it is. -/
def KeepA {α : Type} (m : M α) : Prop := ∀ s a s', Ran m s a s' → s'.r.A = s.r.A
theorem KeepA.of {α : Type} {m : M α} (h : Still m) : KeepA m := fun s a s' r => by rw [h s a s' r]
theorem KeepA.bind {α β : Type} {m : M α} {k : α → M β} (h : KeepA m) (h2 : ∀ a, KeepA (k a)) : KeepA (M.bind m k) := fun s b s'' hr => by
  obtain ⟨a, s', h3, h4⟩ := hr.inv
  rw [h2 a s' b s'' h4, h s a s' h3]
theorem KeepA.get {α : Type} {k : Rp → M α} (h : ∀ r, KeepA (k r)) : KeepA (M.get k) := fun s a s' hr => h s.r s a s' hr
theorem KeepA.setX (f : Rp → Nat) : KeepA (M.set fun r => { r with X := f r }) := fun s a s' h => by
  unfold Ran M.set go at h
  injection h with _ h; injection h with _ h; injection h with h; injection h with _ h
  rw [← h]
theorem ne_cast (x y : Nat) : ((x : Int) != (y : Int)) = !decide (x = y) := by
  by_cases e : x = y
  · subst e
    simp
  · have e2 : ¬ ((x : Int) = (y : Int)) := by omega
    rw [decide_eq_false e, show ((x : Int) != (y : Int)) = true from by rw [bne_iff_ne]; exact e2]
    rfl
theorem keep_address (c n : Nat) (hc : c ∈ memL) : KeepA (addressM c n) := by
  have hp : ∀ x : Nat, KeepA (M.pure x) := fun x => .of (Still.pure x)
  have hw : ∀ x : Nat, KeepA (wordInPageM x) := fun x => .of (Still.wordInPage x)
  simp only [memL, List.mem_cons, List.not_mem_nil, or_false] at hc
  rcases hc with rfl | rfl | rfl | rfl | rfl | rfl | rfl | rfl | rfl | rfl | rfl | rfl | rfl | rfl
  all_goals simp only [addressM]
  · exact KeepA.get fun r => hp _
  · exact KeepA.get fun r => hp _
  · exact KeepA.get fun r => hp _
  · exact KeepA.get fun r => hp _
  · exact KeepA.get fun r => hp _
  · exact (KeepA.setX fun r => (r.X + 1) % 256).bind fun _ => KeepA.get fun r => hp _
  · exact hp _
  · exact KeepA.get fun r => hp _
  · exact KeepA.get fun r => hp _
  · exact KeepA.get fun r => hw _
  · exact (hw _).bind fun v => KeepA.get fun r => hp _
  · exact KeepA.get fun r => hp _
  · exact hp _
  · exact hp _
theorem keep_readO (c n : Nat) (hc : readable c) : KeepA (Go.Proofs.YtknlbmjncginnaaGreatDoor.readO c n) := by
  unfold Go.Proofs.YtknlbmjncginnaaGreatDoor.readO
  by_cases h1 : c ∈ regL
  · rw [if_pos h1]
    exact .get fun r => .of (Still.pure _)
  · rw [if_neg h1]
    by_cases h2 : c = 35
    · rw [if_pos h2]
      exact .of (Still.pure _)
    · rw [if_neg h2]
      rcases hc with h | h | h
      · exact absurd h h1
      · exact absurd h h2
      · exact (keep_address c n h).bind fun a => .of (Still.read a)
def popRegM (cd nd : Nat) : M Unit := M.bind popM fun v => writeO cd nd v
theorem popRegister_any (h : Tk K z s w) (hz : Zd K z w c nm fm cd nd co no) (hw : writable cd) (hl : s.l.length ≤ 80) :
    Calls Tryz.prog 208 #[.pointer (some ⟨K.b, 0, none⟩)] w (Post K z s w (popRegM cd nd) unitV (fun _ => True) 12) := by
  obtain ⟨Q, hQ, F⟩ := post_name (Post K z s w (popRegM cd nd) unitV (fun _ => True) 12)
  rw [hQ]
  clear hQ
  replace F := Lib.hid F
  have t0 := Lib.hid h
  have k0 := Lib.hid (Kp.refl K w)
  have hz0 := Lib.hid hz
  have hl0 := Lib.hid hl
  clear h hz hl
  obtain ⟨kf, cp, e17, hen, HW⟩ := hz0.out.writeAt t0.out hw (by have := hl0.out; omega)
  replace e17 := Lib.hid e17
  replace HW := Lib.hid HW
  go_enter Tryz.func208, Tryz.ntmps208
  go_upto_region 0 with (fail)
  have t1 := Lib.hid t0.out.drew
  have k1 := Lib.hid k0.out.drew
  have HP := Lib.hid (pop_any t1.out (by have := hl0.out; omega))
  have hS := Lib.hid fun (s1 : Ts) (W : World) (tW : Tk K z s1 W) => (show W.cell? ⟨K.b, 17, none⟩ = some (.func (.func kf) #[] cp) from tW.lookD.2.2.2.trans (by rw [e17.out]))
  go_region_held2 (fun W => W.cell? ⟨K.b, 17, none⟩ = some (.func (.func kf) #[] cp)) (first | exact hS.out _ _ t1.out | exact hS.out _ _ t2.out | exact hS.out _ _ t3.out) (first
    | ((with_reducible refine (HW.out s2 _ t2.out k2.out (by have := hl0.out; have := l2; omega) v2 q2).mono ?_); rintro e w3 ⟨s3, t3, k3, l3, (⟨u3, r3, q3, rfl⟩ | ⟨g3, rfl⟩)⟩; rotate_left; (have hf := Lib.hid (F.out lackE _ ⟨s3, t3, k2.out.trans k3, (by have := l2; have := l3; omega), .inr ⟨Gave.then r2.out g3, rfl⟩⟩); clear F; unfold lackE at hf ⊢; go_wp2_with fail; (first | exact hf.out | exact ⟨rfl, hf.out⟩)); have hf := Lib.hid (F.out (.returned (unitV ())) _ (Post.done (r2.out.bind r3) t3 (k2.out.trans k3) trivial (by have := l2; have := l3; omega))); replace t3 := Lib.hid t3; clear r3 k3 l3; unfold unitV)
    | (go_at_call 237; (with_reducible refine HP.out.mono ?_); rintro e w2 ⟨s2, t2, k2, l2, (⟨v2, r2, q2, rfl⟩ | ⟨g2, rfl⟩)⟩; rotate_left; (have hf := Lib.hid (F.out lackE _ ⟨s2, t2, k1.out.trans k2, (by have := l2; omega), .inr ⟨Gave.bind g2, rfl⟩⟩); clear F; unfold lackE at hf ⊢; go_wp2_with fail; (first | exact hf.out | exact ⟨rfl, hf.out⟩)); replace k2 := Lib.hid (k1.out.trans k2); replace t2 := Lib.hid t2; replace r2 := Lib.hid r2; unfold byteV))
  all_goals
    unfold unitV at hf
    clear F
    go_wp2_with fail
    first | exact hf.out | (go_end0; exact hf.out) | (exact bodyPost_ret (results_none rfl _ _ _) rfl hf.out)
def unlessM (cd nd no : Nat) : M Unit := M.bind (Go.Proofs.YtknlbmjncginnaaGreatDoor.readO cd nd) fun v => M.bind (M.ask fun r => !decide (v = r.A)) fun b => branchM b no
theorem branchUnlessA_any (h : Tk K z s w) (hz : Zd K z w c nm fm cd nd co no) (hrd : readable cd) (hl : s.l.length ≤ 80) :
    Calls Tryz.prog 211 #[.pointer (some ⟨K.b, 0, none⟩)] w (Post K z s w (unlessM cd nd no) unitV (fun _ => True) 12) := by
  obtain ⟨Q, hQ, F⟩ := post_name (Post K z s w (unlessM cd nd no) unitV (fun _ => True) 12)
  rw [hQ]
  clear hQ
  replace F := Lib.hid F
  have t0 := Lib.hid h
  have k0 := Lib.hid (Kp.refl K w)
  have hz0 := Lib.hid hz
  have hl0 := Lib.hid hl
  clear h hz hl
  obtain ⟨kf, cp, e16, hen, HR⟩ := hz0.out.readAt t0.out hrd (by have := hl0.out; omega)
  replace e16 := Lib.hid e16
  replace HR := Lib.hid (HR s w.drew t0.out.drew k0.out.drew (by have := hl0.out; omega))
  have hkA := Lib.hid (keep_readO cd nd hrd s)
  obtain ⟨a, hA⟩ : ∃ a, s.r.A = a := ⟨_, rfl⟩
  replace hA := Lib.hid hA
  go_enter Tryz.func211, Tryz.ntmps211
  go_upto_region 0 with (fail)
  have t1 := Lib.hid t0.out.drew
  have k1 := Lib.hid k0.out.drew
  have hS := Lib.hid fun (s1 : Ts) (W : World) (tW : Tk K z s1 W) (hr : s1.r.A = a) => (show W.cell? ⟨K.b, 16, none⟩ = some (.func (.func kf) #[] cp) ∧ W.cell? ⟨K.b, 0, none⟩ = some (.int .u8 (a : Nat)) from ⟨tW.lookD.2.2.1.trans (by rw [e16.out]), tW.look.1.1.trans (by rw [hr])⟩)
  go_region_held2 (fun W => W.cell? ⟨K.b, 16, none⟩ = some (.func (.func kf) #[] cp) ∧ W.cell? ⟨K.b, 0, none⟩ = some (.int .u8 (a : Nat))) (first | exact hS.out _ _ t1.out hA.out | exact hS.out _ _ t2.out ha2.out | exact hS3.out) (first
    | (go_at_call 238; (with_reducible refine HB.out.mono ?_); rintro e w3 ⟨rfl, t3, k3⟩; have hS3 := Lib.hid (hS.out _ _ t3 (by unfold brS; split <;> exact ha2.out)); have hf := Lib.hid (F.out (.returned (unitV ())) _ (Post.done (r2.out.bind (a2.out.bind (Ran.branch b no s2))) t3 (k2.out.trans k3) trivial (by have := l2; unfold brS; split <;> simp <;> omega))); clear k3)
    | ((with_reducible refine HR.out.mono ?_); rintro e w2 ⟨s2, t2, k2, l2, (⟨v2, r2, q2, rfl⟩ | ⟨g2, rfl⟩)⟩; rotate_left; (have hf := Lib.hid (F.out lackE _ ⟨s2, t2, k1.out.trans k2, (by have := l2; omega), .inr ⟨Gave.bind g2, rfl⟩⟩); clear F; unfold lackE at hf ⊢; go_wp2_with fail; (first | exact hf.out | exact ⟨rfl, hf.out⟩)); have ha2 := Lib.hid ((hkA.out _ _ r2).trans hA.out); obtain ⟨b, hb⟩ : ∃ b, (!decide (v2 = a)) = b := ⟨_, rfl⟩; have a2 := Lib.hid (show Ran (M.ask fun r => !decide (v2 = r.A)) s2 b s2 from by rw [← hb, ← ha2.out]; exact Ran.ask (fun r => !decide (v2 = r.A)) s2); have hbe : ((v2 : Int) != (a : Int)) = b := ((ne_cast v2 a).trans hb); have HB := Lib.hid (branchIf_any b t2 (hz0.out.stay t0.out (k1.out.trans k2)) (by have := hl0.out; have := l2; omega)); clear hb; replace k2 := Lib.hid (k1.out.trans k2); replace t2 := Lib.hid t2; replace r2 := Lib.hid r2; unfold byteV))
  all_goals
    unfold unitV at hf
    clear F
    go_wp2_with fail
    first | exact hf.out | (go_end0; exact hf.out) | (exact bodyPost_ret (results_none rfl _ _ _) rfl hf.out)
theorem branchBBS_any (h : Tk K z s w) (hz : Zd K z w c nm fm cd nd co no) (hn : z.n1 = .string ⟨#[66, 66, 83]⟩) (hrd : readable cd) (hcd : cd < 256) (hl : s.l.length ≤ 80) :
    Calls Tryz.prog 210 #[.pointer (some ⟨K.b, 0, none⟩)] w (Post K z s w (M.bind (readBitM c cd nd) fun b => branchM b no) unitV (fun _ => True) 12) := by
  obtain ⟨Q, hQ, F⟩ := post_name (Post K z s w (M.bind (readBitM c cd nd) fun b => branchM b no) unitV (fun _ => True) 12)
  rw [hQ]
  clear hQ
  replace F := Lib.hid F
  have t0 := Lib.hid h
  have k0 := Lib.hid (Kp.refl K w)
  have hz0 := Lib.hid hz
  have hl0 := Lib.hid hl
  clear h hz hl
  go_enter Tryz.func210, Tryz.ntmps210
  go_upto_region 0 with (fail)
  have t1 := Lib.hid t0.out.drew
  have k1 := Lib.hid k0.out.drew
  have HR := Lib.hid (readBit_any cd nd z.d2 z.d3 t1.out hz0.out.n0 hz0.out.c hz0.out.nd hcd (hz0.out.stay t0.out k1.out).d2 hrd (by have := hl0.out; omega))
  have hS := Lib.hid fun (s1 : Ts) (W : World) (tW : Tk K z s1 W) => (show W.cell? ⟨K.b, 14, none⟩ = some (.int .u8 (cd : Nat)) ∧ W.cell? ⟨K.b, 15, none⟩ = some (.int .u16 (nd : Nat)) ∧ W.cell? ⟨K.b, 16, none⟩ = some z.d2 ∧ W.cell? ⟨K.b, 17, none⟩ = some z.d3 ∧ W.cell? ⟨K.b, 10, none⟩ = some (.string ⟨#[66, 66, 83]⟩) from ⟨(tW.cellsD hz0.out).1, (tW.cellsD hz0.out).2.1, (tW.cellsD hz0.out).2.2.1, (tW.cellsD hz0.out).2.2.2, tW.lookN.2.1.trans (by rw [hn])⟩)
  go_region_held2 (fun W => W.cell? ⟨K.b, 14, none⟩ = some (.int .u8 (cd : Nat)) ∧ W.cell? ⟨K.b, 15, none⟩ = some (.int .u16 (nd : Nat)) ∧ W.cell? ⟨K.b, 16, none⟩ = some z.d2 ∧ W.cell? ⟨K.b, 17, none⟩ = some z.d3 ∧ W.cell? ⟨K.b, 10, none⟩ = some (.string ⟨#[66, 66, 83]⟩)) (first | exact hS.out _ _ t1.out | exact hS.out _ _ t2.out | exact hS.out _ _ t3) (first
    | (go_at_call 238; (with_reducible refine HB.out.mono ?_); rintro e w3 ⟨rfl, t3, k3⟩; have hf := Lib.hid (F.out (.returned (unitV ())) _ (Post.done (r2.out.bind (Ran.branch vb no s2)) t3 (k2.out.trans k3) trivial (by have := l2; unfold brS; split <;> simp <;> omega))); clear k3)
    | (go_at_call 200; (with_reducible refine HR.out.mono ?_); rintro e w2 ⟨s2, t2, k2, l2, (⟨vb, r2, q2, rfl⟩ | ⟨g2, rfl⟩)⟩; rotate_left; (have hf := Lib.hid (F.out lackE _ ⟨s2, t2, k1.out.trans k2, (by have := l2; omega), .inr ⟨Gave.bind g2, rfl⟩⟩); clear F; unfold lackE at hf ⊢; go_wp2_with fail; (first | exact hf.out | exact ⟨rfl, hf.out⟩)); have HB := Lib.hid (branchIf_any vb t2 (hz0.out.stay t0.out (k1.out.trans k2)) (by have := hl0.out; have := l2; omega)); replace k2 := Lib.hid (k1.out.trans k2); replace t2 := Lib.hid t2; replace r2 := Lib.hid r2; unfold boolV))
  all_goals
    unfold unitV at hf
    clear F
    go_wp2_with fail
    first | exact hf.out | (go_end0; exact hf.out) | (exact bodyPost_ret (results_none rfl _ _ _) rfl hf.out)
theorem branchBBC_any (h : Tk K z s w) (hz : Zd K z w c nm fm cd nd co no) (hn : z.n1 = .string ⟨#[66, 66, 67]⟩) (hrd : readable cd) (hcd : cd < 256) (hl : s.l.length ≤ 80) :
    Calls Tryz.prog 210 #[.pointer (some ⟨K.b, 0, none⟩)] w (Post K z s w (M.bind (readBitM c cd nd) fun b => branchM (!b) no) unitV (fun _ => True) 12) := by
  obtain ⟨Q, hQ, F⟩ := post_name (Post K z s w (M.bind (readBitM c cd nd) fun b => branchM (!b) no) unitV (fun _ => True) 12)
  rw [hQ]
  clear hQ
  replace F := Lib.hid F
  have t0 := Lib.hid h
  have k0 := Lib.hid (Kp.refl K w)
  have hz0 := Lib.hid hz
  have hl0 := Lib.hid hl
  clear h hz hl
  go_enter Tryz.func210, Tryz.ntmps210
  go_upto_region 0 with (fail)
  have t1 := Lib.hid t0.out.drew
  have k1 := Lib.hid k0.out.drew
  have HR := Lib.hid (readBit_any cd nd z.d2 z.d3 t1.out hz0.out.n0 hz0.out.c hz0.out.nd hcd (hz0.out.stay t0.out k1.out).d2 hrd (by have := hl0.out; omega))
  have hS := Lib.hid fun (s1 : Ts) (W : World) (tW : Tk K z s1 W) => (show W.cell? ⟨K.b, 14, none⟩ = some (.int .u8 (cd : Nat)) ∧ W.cell? ⟨K.b, 15, none⟩ = some (.int .u16 (nd : Nat)) ∧ W.cell? ⟨K.b, 16, none⟩ = some z.d2 ∧ W.cell? ⟨K.b, 17, none⟩ = some z.d3 ∧ W.cell? ⟨K.b, 10, none⟩ = some (.string ⟨#[66, 66, 67]⟩) from ⟨(tW.cellsD hz0.out).1, (tW.cellsD hz0.out).2.1, (tW.cellsD hz0.out).2.2.1, (tW.cellsD hz0.out).2.2.2, tW.lookN.2.1.trans (by rw [hn])⟩)
  go_region_held2 (fun W => W.cell? ⟨K.b, 14, none⟩ = some (.int .u8 (cd : Nat)) ∧ W.cell? ⟨K.b, 15, none⟩ = some (.int .u16 (nd : Nat)) ∧ W.cell? ⟨K.b, 16, none⟩ = some z.d2 ∧ W.cell? ⟨K.b, 17, none⟩ = some z.d3 ∧ W.cell? ⟨K.b, 10, none⟩ = some (.string ⟨#[66, 66, 67]⟩)) (first | exact hS.out _ _ t1.out | exact hS.out _ _ t2.out | exact hS.out _ _ t3) (first
    | (go_at_call 238; (with_reducible refine HB.out.mono ?_); rintro e w3 ⟨rfl, t3, k3⟩; have hf := Lib.hid (F.out (.returned (unitV ())) _ (Post.done (r2.out.bind (Ran.branch (!vb) no s2)) t3 (k2.out.trans k3) trivial (by have := l2; unfold brS; split <;> simp <;> omega))); clear k3)
    | (go_at_call 200; (with_reducible refine HR.out.mono ?_); rintro e w2 ⟨s2, t2, k2, l2, (⟨vb, r2, q2, rfl⟩ | ⟨g2, rfl⟩)⟩; rotate_left; (have hf := Lib.hid (F.out lackE _ ⟨s2, t2, k1.out.trans k2, (by have := l2; omega), .inr ⟨Gave.bind g2, rfl⟩⟩); clear F; unfold lackE at hf ⊢; go_wp2_with fail; (first | exact hf.out | exact ⟨rfl, hf.out⟩)); have HB := Lib.hid (branchIf_any (!vb) t2 (hz0.out.stay t0.out (k1.out.trans k2)) (by have := hl0.out; have := l2; omega)); replace k2 := Lib.hid (k1.out.trans k2); replace t2 := Lib.hid t2; replace r2 := Lib.hid r2; unfold boolV))
  all_goals
    unfold unitV at hf
    clear F
    go_wp2_with fail
    first | exact hf.out | (go_end0; exact hf.out) | (exact bodyPost_ret (results_none rfl _ _ _) rfl hf.out)
end
end Go.Proofs.YtknlbmjncginnaaGreatDoor
namespace Go.Proofs.YtknlbmjncginnaaGreatDoor
open Go.RowKit Go.Shelf
set_option maxRecDepth 100000
set_option maxHeartbeats 1000000
set_option linter.unusedVariables false

section
variable {K : Cx} {z : Zs} {s : Ts} {w w' : World} {c cd nd co no : Nat} {nm fm : ByteArray}
theorem pushPcS_len4 (s : Ts) : (pushPcS s).l.length = s.l.length + 2 := by unfold pushPcS; simp
theorem or_lt65536 (a b : Nat) (ha : a < 65536) (hb : b < 65536) : a ||| b < 65536 := Nat.or_lt_two_pow (n := 16) ha hb
def callLastM (no : Nat) : M Unit := M.bind pushPcM fun _ => M.bind (M.set fun r => { r with Pc := no }) fun _ => M.set fun r => { r with Pc := no ||| 65280 }
theorem callU_any (h : Tk K z s w) (hz : Zd K z w c nm fm cd nd co no) (hco : co = 117) (hl : s.l.length ≤ 80) :
    Calls Tryz.prog 214 #[.pointer (some ⟨K.b, 0, none⟩)] w (Post K z s w (callLastM no) unitV (fun _ => True) 12) := by
  obtain ⟨Q, hQ, F⟩ := post_name (Post K z s w (callLastM no) unitV (fun _ => True) 12)
  rw [hQ]
  clear hQ
  replace F := Lib.hid F
  have t0 := Lib.hid h
  have k0 := Lib.hid (Kp.refl K w)
  have hz0 := Lib.hid hz
  have hl0 := Lib.hid hl
  have se0 := Lib.hid (show s.l.length ≤ s.l.length + 0 from Nat.le_refl _)
  clear h hz hl
  go_enter Tryz.func214, Tryz.ntmps214
  have H1 := pushPc_any t0.out (by have := hl0.out; have := se0.out; omega)
  replace H1 := Lib.hid H1
  go_wp2_with fail
  with_reducible refine H1.out.mono ?_
  rintro e w1 ⟨rfl, t1, k1⟩
  have r1 := Ran.pushPc s t0.out.ok
  have se1 : (pushPcS s).l.length ≤ s.l.length + 2 := by have := se0.out; rw [pushPcS_len4]; omega
  generalize hs1 : pushPcS s = s1 at r1 t1 se1
  replace hs1 := Lib.hid hs1
  replace k1 := Lib.hid (k0.out.trans k1)
  replace t1 := Lib.hid t1
  replace r1 := Lib.hid r1
  replace se1 := Lib.hid se1
  clear H1
  have c5 := t1.out.look.2.1.1
  have f5 := t1.out.look.2.2 5
  have d18 := t1.out.lookO.1.trans (by rw [hz0.out.o0])
  have d19 := t1.out.lookO.2.1.trans (by rw [hz0.out.o1])
  have d20 := t1.out.lookO.2.2.1
  have d21 := t1.out.lookO.2.2.2
  rw [hco, show ((117 : Nat) : Int) = 117 from rfl] at d18
  have hno := Lib.hid hz0.out.no
  have t2 := t1.out.toPc no hno.out
  have r2 := Ran.set (fun r => { r with Pc := no }) s1
  have se2 := (show ({ s1 with r := { s1.r with Pc := no } } : Ts).l.length ≤ s.l.length + 2 from se1.out)
  generalize hs2 : ({ s1 with r := { s1.r with Pc := no } } : Ts) = s2 at r2 t2 se2
  have k2 := Lib.hid (k1.out.set 5 (.int .u16 (no : Nat)))
  replace hs2 := Lib.hid hs2
  replace t2 := Lib.hid t2
  replace r2 := Lib.hid r2
  replace se2 := Lib.hid se2
  go_upto_region 3 with (fail)
  clear c5 f5 d18 d19 d20 d21
  generalize (w1.setCell ⟨K.b, 5, none⟩ (.int .u16 (no : Nat))) = wg3 at *
  have c5 := t2.out.look.2.1.1
  have f5 := t2.out.look.2.2 5
  rw [← hs2.out] at c5
  dsimp only at c5
  obtain ⟨x1, hx1, x1b, x1w⟩ : ∃ x : Nat, no ||| 65280 = x ∧ x < 65536 ∧ bits .or .u16 (no : Int) 65280 = (x : Int) := ⟨_, rfl, or_lt65536 _ _ hno.out (by decide), u16_or_nat no 65280 hno.out (by decide)⟩
  replace hx1 := Lib.hid hx1
  have t4 := t2.out.toPc x1 x1b
  have r4 := Ran.set (fun r => { r with Pc := x1 }) s2
  have se4 := (show ({ s2 with r := { s2.r with Pc := x1 } } : Ts).l.length ≤ s.l.length + 2 from se2.out)
  generalize hs4 : ({ s2 with r := { s2.r with Pc := x1 } } : Ts) = s4 at r4 t4 se4
  have k4 := Lib.hid (k2.out.set 5 (.int .u16 (x1 : Nat)))
  replace hs4 := Lib.hid hs4
  replace t4 := Lib.hid t4
  replace r4 := Lib.hid r4
  replace se4 := Lib.hid se4
  have e_x1 := hx1.out
  try subst e_x1
  have hf := Lib.hid (F.out (.returned (unitV ())) _ (Post.done (r1.out.bind (r2.out.bind (r4.out))) t4.out k4.out trivial (by have := se4.out; omega)))
  unfold unitV at hf
  clear F
  go_wp2_with fail
  first | exact hf.out | (go_end0; exact hf.out) | (go_ret; exact hf.out)
def jumpAtM (no : Nat) : M Unit := M.bind (M.set fun r => { r with Pc := no }) fun _ => M.bind (M.ask fun r => (no + r.X) % 65536) fun a => M.bind (wordAtM a) fun v => M.set fun r => { r with Pc := v }
theorem Still.wordAt (a : Nat) : Still (wordAtM a) := Still.readWord _ _
theorem jumpAt_any (h : Tk K z s w) (hz : Zd K z w c nm fm cd nd co no) (hco : co = 42) (hl : s.l.length ≤ 80) :
    Calls Tryz.prog 213 #[.pointer (some ⟨K.b, 0, none⟩)] w (Post K z s w (jumpAtM no) unitV (fun _ => True) 12) := by
  obtain ⟨Q, hQ, F⟩ := post_name (Post K z s w (jumpAtM no) unitV (fun _ => True) 12)
  rw [hQ]
  clear hQ
  replace F := Lib.hid F
  have t0 := Lib.hid h
  have k0 := Lib.hid (Kp.refl K w)
  have hz0 := Lib.hid hz
  have hl0 := Lib.hid hl
  have se0 := Lib.hid (show s.l.length ≤ s.l.length + 0 from Nat.le_refl _)
  clear h hz hl
  go_enter Tryz.func213, Tryz.ntmps213
  have c5 := t0.out.look.2.1.1
  have f5 := t0.out.look.2.2 5
  have d18 := t0.out.lookO.1.trans (by rw [hz0.out.o0])
  have d19 := t0.out.lookO.2.1.trans (by rw [hz0.out.o1])
  have d20 := t0.out.lookO.2.2.1
  have d21 := t0.out.lookO.2.2.2
  rw [hco, show ((42 : Nat) : Int) = 42 from rfl] at d18
  have hno := Lib.hid hz0.out.no
  have t1 := t0.out.toPc no hno.out
  have r1 := Ran.set (fun r => { r with Pc := no }) s
  have se1 := (show ({ s with r := { s.r with Pc := no } } : Ts).l.length ≤ s.l.length + 0 from se0.out)
  generalize hs1 : ({ s with r := { s.r with Pc := no } } : Ts) = s1 at r1 t1 se1
  have k1 := Lib.hid (k0.out.set 5 (.int .u16 (no : Nat)))
  replace hs1 := Lib.hid hs1
  replace t1 := Lib.hid t1
  replace r1 := Lib.hid r1
  replace se1 := Lib.hid se1
  go_upto_region 2 with (fail)
  clear c5 f5 d18 d19 d20 d21
  generalize (w.setCell ⟨K.b, 5, none⟩ (.int .u16 (no : Nat))) = wg2 at *
  have hX := Lib.hid t1.out.ok.X
  obtain ⟨rX, hrX⟩ : ∃ x, s1.r.X = x := ⟨_, rfl⟩
  rw [hrX] at hX
  replace hrX := Lib.hid hrX
  obtain ⟨x1, hx1, x1b, x1w⟩ : ∃ x : Nat, (no + rX) % 65536 = x ∧ x < 65536 ∧ IntKind.u16.wrap ((no : Int) + (rX : Int)) = (x : Int) := ⟨_, rfl, Nat.mod_lt _ (by decide), (by have := hX.out; have := hno.out; simp only [IntKind.wrap_u16]; omega)⟩
  replace hx1 := Lib.hid hx1
  have ax := Lib.hid (show Ran (M.ask fun r => (no + r.X) % 65536) s1 x1 s1 from by rw [← hx1.out, ← hrX.out]; exact Ran.ask (fun r => (no + r.X) % 65536) s1)
  have wX : IntKind.u16.wrap (rX : Int) = (rX : Int) := by have := hX.out; simp only [IntKind.wrap_u16]; omega
  have sA := s1
  have t3 := Lib.hid t1.out.drew
  have k3 := Lib.hid k1.out.drew
  have hS := Lib.hid fun (sx : Ts) (W : World) (tW : Tk K z sx W) (hr : sx.r.X = rX) => (show W.cell? ⟨K.b, 19, none⟩ = some (.int .u16 (no : Nat)) ∧ W.cell? ⟨K.b, 1, none⟩ = some (.int .u8 (rX : Nat)) from ⟨tW.lookO.2.1.trans (by rw [hz0.out.o1]), tW.look.1.2.1.trans (by rw [hr])⟩)
  have hstX := Lib.hid fun (sx : Ts) (v : Nat) (r : Ran (wordAtM x1) s1 v sx) => (show sx.r.X = rX from by rw [Still.wordAt x1 _ _ _ r]; exact hrX.out)
  have hSc := Lib.hid fun (sx : Ts) (W : World) (tW : Tk K z sx W) (hr : sx.r.X = rX) (v : Nat) (hv : v < 65536) => (show (W.setCell ⟨K.b, 5, none⟩ (.int .u16 (v : Nat))).cell? ⟨K.b, 19, none⟩ = some (.int .u16 (no : Nat)) ∧ (W.setCell ⟨K.b, 5, none⟩ (.int .u16 (v : Nat))).cell? ⟨K.b, 1, none⟩ = some (.int .u8 (rX : Nat)) from ⟨(tW.toPc v hv).lookO.2.1.trans (by rw [hz0.out.o1]), (tW.toPc v hv).look.1.2.1.trans (by rw [← hr])⟩)
  have tD := t3.out
  clear sA
  have H4 := wordAt_any x1 t3.out x1b (by have := hl0.out; have := se1.out; omega)
  replace H4 := Lib.hid H4
  go_region_held2 (fun W => W.cell? ⟨K.b, 19, none⟩ = some (.int .u16 (no : Nat)) ∧ W.cell? ⟨K.b, 1, none⟩ = some (.int .u8 (rX : Nat))) (first | exact hS.out _ _ tD hrX.out | exact hSb.out | exact hS4.out) (first
    | ((with_reducible refine H4.out.mono ?_); rintro e w4 ⟨s4, t4, k4, l4, (⟨vw, r4, q4, rfl⟩ | ⟨g4, rfl⟩)⟩; rotate_left; (have e_x1 := hx1.out; (try subst e_x1); have hf := Lib.hid (F.out lackE _ ⟨s4, t4, k3.out.trans k4, (by have := se1.out; omega), .inr ⟨Gave.then r1.out (Gave.then ax.out (Gave.bind g4)), rfl⟩⟩); clear F; unfold lackE at hf ⊢; go_wp2_with fail; (first | exact hf.out | exact ⟨rfl, hf.out⟩)); replace k4 := Lib.hid (k3.out.trans k4); have se4 := Lib.hid (show s4.l.length ≤ s.l.length + 2 from (by have := se1.out; omega)); replace t4 := Lib.hid t4; replace r4 := Lib.hid r4; have hSb := Lib.hid (hS.out _ _ t4.out (hstX.out _ _ r4.out)); have hS4 := Lib.hid (hSc.out _ _ t4.out (hstX.out _ _ r4.out) vw q4); have c5 := t4.out.look.2.1.1; have f5 := t4.out.look.2.2 5; have hvw := Lib.hid (show vw < 65536 from q4); unfold wordV))
  all_goals
    have t5 := t4.out.toPc vw hvw.out
    have r5 := Ran.set (fun r => { r with Pc := vw }) s4
    have se5 := (show ({ s4 with r := { s4.r with Pc := vw } } : Ts).l.length ≤ s.l.length + 2 from se4.out)
    generalize hs5 : ({ s4 with r := { s4.r with Pc := vw } } : Ts) = s5 at r5 t5 se5
    have k5 := Lib.hid (k4.out.set 5 (.int .u16 (vw : Nat)))
    replace hs5 := Lib.hid hs5
    replace t5 := Lib.hid t5
    replace r5 := Lib.hid r5
    replace se5 := Lib.hid se5
    have e_x1 := hx1.out
    try subst e_x1
    have hf := Lib.hid (F.out (.returned (unitV ())) _ (Post.done (r1.out.bind (ax.out.bind (r4.out.bind (r5.out)))) t5.out k5.out trivial (by have := se5.out; omega)))
    unfold unitV at hf
    clear F
    go_wp2_with fail
    first | exact hf.out | (go_end0; exact hf.out) | (go_ret; exact hf.out)
end
end Go.Proofs.YtknlbmjncginnaaGreatDoor
