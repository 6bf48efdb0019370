/-
  Words by their places; where the next instruction stands, pushed and popped; idle cycles; the registers in pairs, sums.
-/
import Derived.Test.YthecghmhohkcmaaGreatDoorTStk
namespace Go.Proofs.YthecghmhohkcmaaGreatDoor
open Go.RowKit Go.Shelf
set_option maxRecDepth 100000
set_option maxHeartbeats 1000000
set_option linter.unusedVariables false

section
variable {K : Cx} {z : Zs} {s : Ts} {w : World}
def wordAtM (a : Nat) : M Nat := readWordM a ((a + 1) % 65536)
theorem wordAt_any (a : Nat) (h : Tk K z s w) (ha : a < 65536) (hl : s.l.length ≤ 98) :
    Calls Tryz.prog 150 #[.pointer (some ⟨K.b, 0, none⟩), .int .u16 a] w (Post K z s w (wordAtM a) wordV (fun v => v < 65536) 2) := by
  have H1 := Lib.hid (readWord_any a ((a + 1) % 65536) h ha (Nat.mod_lt _ (by decide)) hl)
  have e1 : IntKind.u16.wrap ((a : Int) + 1) = (((a + 1) % 65536 : Nat) : Int) := by simp only [IntKind.wrap_u16]; omega
  obtain ⟨Q, hQ, F⟩ := post_name (Post K z s w (wordAtM a) wordV (fun v => v < 65536) 2)
  rw [hQ]
  clear h hQ
  replace F : ∀ e w', Post K z s w (readWordM a ((a + 1) % 65536)) wordV (fun v => v < 65536) 2 e w' → Q e w' := F
  replace F := Lib.hid F
  generalize (a + 1) % 65536 = a' at *
  clear hl ha
  go_enter Tryz.func150, Tryz.ntmps150
  go_wp2_with fail
  with_reducible refine H1.out.mono ?_
  intro e w1 hp
  have hfin := Lib.hid (F.out _ _ hp)
  obtain ⟨s1, _, _, _, (⟨v, _, _, rfl⟩ | ⟨_, rfl⟩)⟩ := hp
  · clear H1 F
    unfold wordV at hfin ⊢
    go_wp2_with fail
    exact hfin.out
  · clear H1 F
    unfold lackE at hfin ⊢
    go_wp2_with fail
    first | exact hfin.out | exact ⟨rfl, hfin.out⟩
def wordInPageM (v : Nat) : M Nat := M.get fun r => readWordM (placeR r v) (placeR r ((v + 1) % 256))
theorem wordInPage_any (v : Nat) (h : Tk K z s w) (hv : v < 256) (hl : s.l.length ≤ 98) :
    Calls Tryz.prog 146 #[.pointer (some ⟨K.b, 0, none⟩), .int .u8 v] w (Post K z s w (wordInPageM v) wordV (fun v => v < 65536) 2) := by
  have hv1 : (v + 1) % 256 < 256 := Nat.mod_lt _ (by decide)
  have P1 := Lib.hid (place_any v h hv)
  have P2 := Lib.hid (place_any ((v + 1) % 256) h hv1)
  have H1 := Lib.hid (readWord_any (placeR s.r v) (placeR s.r ((v + 1) % 256)) h (placeR_lt _ _ hv) (placeR_lt _ _ hv1) hl)
  have e1 : IntKind.u8.wrap ((v : Int) + 1) = (((v + 1) % 256 : Nat) : Int) := by simp only [IntKind.wrap_u8]; omega
  obtain ⟨Q, hQ, F⟩ := post_name (Post K z s w (wordInPageM v) wordV (fun v => v < 65536) 2)
  rw [hQ]
  clear h hQ
  replace F : ∀ e w', Post K z s w (readWordM (placeR s.r v) (placeR s.r ((v + 1) % 256))) wordV (fun v => v < 65536) 2 e w' → Q e w' := fun e w' hp => F e w' (Post.get (k := fun r => readWordM (placeR r v) (placeR r ((v + 1) % 256))) hp)
  replace F := Lib.hid F
  generalize placeR s.r ((v + 1) % 256) = x2 at *
  generalize placeR s.r v = x1 at *
  generalize (v + 1) % 256 = v' at *
  clear hl hv hv1
  go_enter Tryz.func146, Tryz.ntmps146
  go_wp2_with fail
  with_reducible refine P1.out.mono ?_
  rintro e w0 ⟨rfl, hw0⟩
  rw [hw0]
  clear P1 hw0
  go_wp2_with fail
  with_reducible refine P2.out.mono ?_
  rintro e w0 ⟨rfl, hw0⟩
  rw [hw0]
  clear P2 hw0
  go_wp2_with fail
  with_reducible refine H1.out.mono ?_
  intro e w1 hp
  have hfin := Lib.hid (F.out _ _ hp)
  obtain ⟨s1, _, _, _, (⟨v, _, _, rfl⟩ | ⟨_, rfl⟩)⟩ := hp
  · clear H1 F
    unfold wordV at hfin ⊢
    go_wp2_with fail
    exact hfin.out
  · clear H1 F
    unfold lackE at hfin ⊢
    go_wp2_with fail
    first | exact hfin.out | exact ⟨rfl, hfin.out⟩
theorem Still.readWord (a b : Nat) : Still (readWordM a b) := (Still.read a).bind fun x => (Still.read b).bind fun y => Still.pure _
theorem Still.wordInPage (v : Nat) : Still (wordInPageM v) := Still.get (k := fun r => readWordM (placeR r v) (placeR r ((v + 1) % 256))) fun r => Still.readWord _ _
/-- Where the next instruction stands is pushed. -/
def pushPcM : M Unit := M.get fun r => M.bind (pushM (r.Pc / 256)) fun _ => pushM (r.Pc % 256)
def pushPcS (s : Ts) : Ts := { s with l := s.l ++ [(2, 256 + s.r.S, s.r.Pc / 256), (2, 256 + (s.r.S + 255) % 256, s.r.Pc % 256)], r := { s.r with S := (s.r.S + 254) % 256 } }
theorem Ran.pushPc (s : Ts) (h : s.r.Ok) : Ran pushPcM s () (pushPcS s) := by
  have h1 := Ran.push (s.r.Pc / 256) s h.S (by have := h.Pc; omega)
  have h2 := Ran.push (s.r.Pc % 256) { s with l := s.l ++ [(2, 256 + s.r.S, s.r.Pc / 256)], r := { s.r with S := (s.r.S + 255) % 256 } } (Nat.mod_lt _ (by decide)) (by omega)
  have h3 := Ran.get (k := fun r => M.bind (pushM (r.Pc / 256)) fun _ => pushM (r.Pc % 256)) (h1.bind h2)
  dsimp only at h3
  rw [List.append_assoc] at h3
  rw [show (s.r.S + 255) % 256 + 255 = (s.r.S + 255) % 256 + 255 from rfl] at h3
  unfold pushPcS
  rw [show (s.r.S + 254) % 256 = ((s.r.S + 255) % 256 + 255) % 256 by omega]
  exact h3
theorem pushPc_any (h : Tk K z s w) (hl : s.l.length ≤ 98) :
    Calls Tryz.prog 151 #[.pointer (some ⟨K.b, 0, none⟩)] w fun e w' => e = .returned (.tuple #[]) ∧ Tk K z (pushPcS s) w' ∧ Kp K w w' := by
  obtain ⟨⟨rA, rX, rY, rS, rP, rPc, rH⟩, l, q⟩ := s
  have c5 := h.look.2.1.1
  have hP := h.ok.Pc
  dsimp only at c5 hP hl
  have H1 := Lib.hid (push_any (rPc / 256) h (by omega) (show l.length ≤ 99 by omega))
  have H2 := Lib.hid fun (W : World) (hW : Tk K z ⟨⟨rA, rX, rY, (rS + 255) % 256, rP, rPc, rH⟩, l ++ [(2, 256 + rS, rPc / 256)], q⟩ W) => And.intro hW.look.2.1.1 (push_any (rPc % 256) hW (by omega) (by simp; omega))
  dsimp only at H1 H2
  rw [List.append_assoc, show ((rS + 255) % 256 + 255) % 256 = (rS + 254) % 256 by omega] at H2
  have e1 : IntKind.u8.wrap ((rPc : Int) / 256) = ((rPc / 256 : Nat) : Int) := by simp only [IntKind.wrap_u8]; omega
  have e2 : IntKind.u8.wrap (rPc : Int) = ((rPc % 256 : Nat) : Int) := by simp only [IntKind.wrap_u8]; omega
  unfold pushPcS
  dsimp only
  generalize rPc / 256 = hi at *
  generalize rPc % 256 = lo at *
  clear h hl hP
  
  go_enter Tryz.func151, Tryz.ntmps151
  go_wp2_with fail
  with_reducible refine H1.out.mono ?_
  rintro e w1 ⟨rfl, t1, k1⟩
  obtain ⟨d5, H3⟩ := H2.out _ t1
  replace H3 := Lib.hid H3
  replace k1 := Lib.hid k1
  clear H1 H2 t1 c5
  go_wp2_with fail
  with_reducible refine H3.out.mono ?_
  rintro e w2 ⟨rfl, t2, k2⟩
  have hfin := Lib.hid (And.intro t2 (k1.out.trans k2))
  clear H3 t2 k2 k1
  go_wp2_with fail
  go_end0
  exact ⟨rfl, hfin.out⟩
def popPcM : M Unit := M.bind popM fun lo => M.bind popM fun hi => M.set fun r => { r with Pc := hi * 256 + lo }
theorem popPc_any (h : Tk K z s w) (hl : s.l.length ≤ 98) :
    Calls Tryz.prog 152 #[.pointer (some ⟨K.b, 0, none⟩)] w (Post K z s w popPcM unitV (fun _ => True) 2) := by
  have H1 := Lib.hid (pop_any h (by omega))
  obtain ⟨Q, hQ, F⟩ := post_name (Post K z s w popPcM unitV (fun _ => True) 2)
  rw [hQ]
  clear h hQ
  replace F := Lib.hid F
  replace hl := Lib.hid hl
  go_enter Tryz.func152, Tryz.ntmps152
  go_wp2_with fail
  with_reducible refine H1.out.mono ?_
  rintro e w1 ⟨s1, t1, k1, l1, (⟨x, r1, hx, rfl⟩ | ⟨g1, rfl⟩)⟩
  · have H2 := Lib.hid (pop_any t1 (by have := hl.out; omega))
    have hx2 := Lib.hid hx
    replace r1 := Lib.hid r1
    replace k1 := Lib.hid k1
    replace l1 := Lib.hid l1
    have ex : IntKind.u16.wrap (x : Int) = (x : Int) := by simp only [IntKind.wrap_u16]; omega
    clear H1 t1
    unfold byteV
    go_wp2_with fail
    with_reducible refine H2.out.mono ?_
    rintro e w2 ⟨s2, t2, k2, l2, (⟨y, r2, hy, rfl⟩ | ⟨g2, rfl⟩)⟩
    · have ey : IntKind.u16.wrap (y : Int) = (y : Int) := by simp only [IntKind.wrap_u16]; omega
      have eo : bits .or .u16 ((y : Int) * 256) (x : Int) = ((y * 256 + x : Nat) : Int) := by
        have hx := hx2.out
        rw [show (y : Int) * 256 = ((y * 256 : Nat) : Int) from by omega, u16_or_nat (y * 256) x (by omega) (by omega), show y * 256 ||| x = y * 256 + x from by rw [show y * 256 = y <<< 8 from (Nat.shiftLeft_eq y 8).symm, ← Nat.shiftLeft_add_eq_or_of_lt (show x < 2 ^ 8 from hx)]]
      have c5 := t2.look.2.1.1
      have f5 := t2.look.2.2 5
      have hlt : y * 256 + x < 65536 := by have := hx2.out; omega
      have t3 := t2.toPc _ hlt
      have hfin := Lib.hid (F.out (.returned (unitV ())) _ (Post.done (r1.out.bind (r2.bind (Ran.set (fun r => { r with Pc := y * 256 + x }) _))) t3 ((k1.out.trans k2).set 5 _) trivial (by have := l1.out; dsimp only; omega)))
      unfold unitV at hfin
      unfold byteV
      generalize y * 256 + x = v at *
      generalize s2.r.Pc = P at *
      clear H2 F t2 k2 l2 r2 hx k1 l1 r1 t3 hlt hx2
      go_wp2_with fail
      first | exact hfin.out | (go_end0; exact hfin.out)
    · have hfin := Lib.hid (F.out lackE _ (Post.after r1.out k1.out l1.out (Post.gave g2 t2 k2 l2) (Nat.le_refl 2)))
      clear H2 F t2 k2 l2 g2 k1 l1 r1
      unfold lackE at hfin ⊢
      go_wp2_with fail
      first | exact hfin.out | exact ⟨rfl, hfin.out⟩
  · have hfin := Lib.hid (F.out lackE _ (Post.gave g1 t1 k1 (Nat.le_trans l1 (Nat.le_succ _))))
    clear H1 F t1 k1 l1 g1
    unfold lackE at hfin ⊢
    go_wp2_with fail
    first | exact hfin.out | exact ⟨rfl, hfin.out⟩
end
end Go.Proofs.YthecghmhohkcmaaGreatDoor
