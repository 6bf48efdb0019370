/-
  Where the byte of an operand stands, letter by letter (gentad.py writes this text).
-/
import Derived.Test.YtknlbmjncginnaaGreatDoorPB
import Derived.Deep.RegionHeld2
import Derived.Test.YtknlbmjncginnaaGreatDoorPA
namespace Go.Proofs.YtknlbmjncginnaaGreatDoor
open Go.RowKit Go.Shelf
set_option maxRecDepth 100000
set_option maxHeartbeats 1000000
set_option linter.unusedVariables false

def addressM (c n : Nat) : M Nat :=
  match c with
  | 100 => M.get fun r => M.pure (placeR r (n % 256))
  | 98 => M.get fun r => M.pure (placeR r (n % 256))
  | 120 => M.get fun r => M.pure (placeR r ((n + r.X) % 256))
  | 121 => M.get fun r => M.pure (placeR r ((n + r.Y) % 256))
  | 105 => M.get fun r => M.pure (placeR r r.X)
  | 106 => M.get fun r => M.pure (placeR r r.Y)
  | 43 => M.bind (M.set fun r => { r with X := (r.X + 1) % 256 }) fun _ => M.get fun r => M.pure (placeR r ((r.X + 255) % 256))
  | 112 => M.get fun r => M.pure ((n + r.X) % 65536)
  | 113 => M.get fun r => M.pure ((n + r.Y) % 65536)
  | 108 => M.get fun r => wordInPageM ((n + r.X) % 256)
  | 109 => M.bind (wordInPageM (n % 256)) fun v => M.get fun r => M.pure ((v + r.Y) % 65536)
  | 110 => M.pure (n % 8192)
  | 47 => M.pure (n % 8192)
  | _ => M.pure n
section
variable {K : Cx} {z : Zs} {s : Ts} {w : World}
/-- What a letter's address comes to. -/
def AdP (K : Cx) (z : Zs) (s : Ts) (w : World) (c n : Nat) : Prop := Calls Tryz.prog 191 #[.pointer (some ⟨K.b, 0, none⟩), .int .u8 (c : Nat), .int .u16 (n : Nat)] w (Post K z s w (addressM c n) wordV (fun v => v < 65536) 2)
theorem address_100 (n : Nat) (h : Tk K z s w) (hn : n < 65536) (hl : s.l.length ≤ 98) : AdP K z s w 100 n := by
  obtain ⟨⟨rA, rX, rY, rS, rP, rPc, rH⟩, l, q⟩ := s
  have c1 := h.look.1.2.1
  have c2 := h.look.1.2.2.1
  have hX := h.ok.X
  have hY := h.ok.Y
  dsimp only at c1 c2 hX hY
  have e0 : IntKind.u8.wrap (n : Int) = ((n % 256 : Nat) : Int) := by simp only [IntKind.wrap_u8]; omega
  have hb : n % 256 < 256 := Nat.mod_lt _ (by decide)
  have hv : n % 256 < 256 := by omega
  have P1 := place_any (n % 256) h hv
  have hp := placeR_lt ⟨rA, rX, rY, rS, rP, rPc, rH⟩ (n % 256) hv
  dsimp only at P1 hp
  unfold AdP
  obtain ⟨Q, hQ, F⟩ := post_name (Post K z ⟨⟨rA, rX, rY, rS, rP, rPc, rH⟩, l, q⟩ w (addressM 100 n) wordV (fun v => v < 65536) 2)
  rw [hQ]
  have hfin := Lib.hid fun (W : World) (hW : W = w) => (by rw [hW]; exact F (.returned (wordV (placeR ⟨rA, rX, rY, rS, rP, rPc, rH⟩ (n % 256)))) w (Post.done (Ran.get (k := fun r => M.pure (placeR r (n % 256))) (Ran.pure _ _)) h (Kp.refl _ _) hp (Nat.le_add_right _ 2)) : Q (.returned (wordV (placeR ⟨rA, rX, rY, rS, rP, rPc, rH⟩ (n % 256)))) W)
  clear h hQ F hp hl
  generalize placeR ⟨rA, rX, rY, rS, rP, rPc, rH⟩ (n % 256) = x at *
  generalize n % 256 = y at *
  replace P1 := Lib.hid P1
  unfold wordV at hfin
  clear hn hX hY hb hv
  simp only [show ((100 : Nat) : Int) = 100 from rfl]
  go_enter Tryz.func191, Tryz.ntmps191
  go_wp2_with fail
  with_reducible refine P1.out.mono ?_
  rintro e w1 ⟨rfl, hw⟩
  have hf := hfin.out w1 hw
  replace hf := Lib.hid hf
  clear P1 hfin hw
  go_wp2_with fail
  exact hf.out
theorem address_98 (n : Nat) (h : Tk K z s w) (hn : n < 65536) (hl : s.l.length ≤ 98) : AdP K z s w 98 n := by
  obtain ⟨⟨rA, rX, rY, rS, rP, rPc, rH⟩, l, q⟩ := s
  have c1 := h.look.1.2.1
  have c2 := h.look.1.2.2.1
  have hX := h.ok.X
  have hY := h.ok.Y
  dsimp only at c1 c2 hX hY
  have e0 : IntKind.u8.wrap (n : Int) = ((n % 256 : Nat) : Int) := by simp only [IntKind.wrap_u8]; omega
  have hb : n % 256 < 256 := Nat.mod_lt _ (by decide)
  have hv : n % 256 < 256 := by omega
  have P1 := place_any (n % 256) h hv
  have hp := placeR_lt ⟨rA, rX, rY, rS, rP, rPc, rH⟩ (n % 256) hv
  dsimp only at P1 hp
  unfold AdP
  obtain ⟨Q, hQ, F⟩ := post_name (Post K z ⟨⟨rA, rX, rY, rS, rP, rPc, rH⟩, l, q⟩ w (addressM 98 n) wordV (fun v => v < 65536) 2)
  rw [hQ]
  have hfin := Lib.hid fun (W : World) (hW : W = w) => (by rw [hW]; exact F (.returned (wordV (placeR ⟨rA, rX, rY, rS, rP, rPc, rH⟩ (n % 256)))) w (Post.done (Ran.get (k := fun r => M.pure (placeR r (n % 256))) (Ran.pure _ _)) h (Kp.refl _ _) hp (Nat.le_add_right _ 2)) : Q (.returned (wordV (placeR ⟨rA, rX, rY, rS, rP, rPc, rH⟩ (n % 256)))) W)
  clear h hQ F hp hl
  generalize placeR ⟨rA, rX, rY, rS, rP, rPc, rH⟩ (n % 256) = x at *
  generalize n % 256 = y at *
  replace P1 := Lib.hid P1
  unfold wordV at hfin
  clear hn hX hY hb hv
  simp only [show ((98 : Nat) : Int) = 98 from rfl]
  go_enter Tryz.func191, Tryz.ntmps191
  go_wp2_with fail
  with_reducible refine P1.out.mono ?_
  rintro e w1 ⟨rfl, hw⟩
  have hf := hfin.out w1 hw
  replace hf := Lib.hid hf
  clear P1 hfin hw
  go_wp2_with fail
  exact hf.out
theorem address_120 (n : Nat) (h : Tk K z s w) (hn : n < 65536) (hl : s.l.length ≤ 98) : AdP K z s w 120 n := by
  obtain ⟨⟨rA, rX, rY, rS, rP, rPc, rH⟩, l, q⟩ := s
  have c1 := h.look.1.2.1
  have c2 := h.look.1.2.2.1
  have hX := h.ok.X
  have hY := h.ok.Y
  dsimp only at c1 c2 hX hY
  have e0 : IntKind.u8.wrap (n : Int) = ((n % 256 : Nat) : Int) := by simp only [IntKind.wrap_u8]; omega
  have hb : n % 256 < 256 := Nat.mod_lt _ (by decide)
  have e1 : ((n : Int) + (rX : Int)) % 256 = (((n + rX) % 256 : Nat) : Int) := by omega
  have hv : (n + rX) % 256 < 256 := by omega
  have P1 := place_any ((n + rX) % 256) h hv
  have hp := placeR_lt ⟨rA, rX, rY, rS, rP, rPc, rH⟩ ((n + rX) % 256) hv
  dsimp only at P1 hp
  unfold AdP
  obtain ⟨Q, hQ, F⟩ := post_name (Post K z ⟨⟨rA, rX, rY, rS, rP, rPc, rH⟩, l, q⟩ w (addressM 120 n) wordV (fun v => v < 65536) 2)
  rw [hQ]
  have hfin := Lib.hid fun (W : World) (hW : W = w) => (by rw [hW]; exact F (.returned (wordV (placeR ⟨rA, rX, rY, rS, rP, rPc, rH⟩ ((n + rX) % 256)))) w (Post.done (Ran.get (k := fun r => M.pure (placeR r ((n + r.X) % 256))) (Ran.pure _ _)) h (Kp.refl _ _) hp (Nat.le_add_right _ 2)) : Q (.returned (wordV (placeR ⟨rA, rX, rY, rS, rP, rPc, rH⟩ ((n + rX) % 256)))) W)
  clear h hQ F hp hl
  generalize placeR ⟨rA, rX, rY, rS, rP, rPc, rH⟩ ((n + rX) % 256) = x at *
  generalize (n + rX) % 256 = y at *
  replace P1 := Lib.hid P1
  unfold wordV at hfin
  clear hn hX hY hb hv
  simp only [show ((120 : Nat) : Int) = 120 from rfl]
  go_enter Tryz.func191, Tryz.ntmps191
  go_wp2_with fail
  with_reducible refine P1.out.mono ?_
  rintro e w1 ⟨rfl, hw⟩
  have hf := hfin.out w1 hw
  replace hf := Lib.hid hf
  clear P1 hfin hw
  go_wp2_with fail
  exact hf.out
theorem address_121 (n : Nat) (h : Tk K z s w) (hn : n < 65536) (hl : s.l.length ≤ 98) : AdP K z s w 121 n := by
  obtain ⟨⟨rA, rX, rY, rS, rP, rPc, rH⟩, l, q⟩ := s
  have c1 := h.look.1.2.1
  have c2 := h.look.1.2.2.1
  have hX := h.ok.X
  have hY := h.ok.Y
  dsimp only at c1 c2 hX hY
  have e0 : IntKind.u8.wrap (n : Int) = ((n % 256 : Nat) : Int) := by simp only [IntKind.wrap_u8]; omega
  have hb : n % 256 < 256 := Nat.mod_lt _ (by decide)
  have e1 : ((n : Int) + (rY : Int)) % 256 = (((n + rY) % 256 : Nat) : Int) := by omega
  have hv : (n + rY) % 256 < 256 := by omega
  have P1 := place_any ((n + rY) % 256) h hv
  have hp := placeR_lt ⟨rA, rX, rY, rS, rP, rPc, rH⟩ ((n + rY) % 256) hv
  dsimp only at P1 hp
  unfold AdP
  obtain ⟨Q, hQ, F⟩ := post_name (Post K z ⟨⟨rA, rX, rY, rS, rP, rPc, rH⟩, l, q⟩ w (addressM 121 n) wordV (fun v => v < 65536) 2)
  rw [hQ]
  have hfin := Lib.hid fun (W : World) (hW : W = w) => (by rw [hW]; exact F (.returned (wordV (placeR ⟨rA, rX, rY, rS, rP, rPc, rH⟩ ((n + rY) % 256)))) w (Post.done (Ran.get (k := fun r => M.pure (placeR r ((n + r.Y) % 256))) (Ran.pure _ _)) h (Kp.refl _ _) hp (Nat.le_add_right _ 2)) : Q (.returned (wordV (placeR ⟨rA, rX, rY, rS, rP, rPc, rH⟩ ((n + rY) % 256)))) W)
  clear h hQ F hp hl
  generalize placeR ⟨rA, rX, rY, rS, rP, rPc, rH⟩ ((n + rY) % 256) = x at *
  generalize (n + rY) % 256 = y at *
  replace P1 := Lib.hid P1
  unfold wordV at hfin
  clear hn hX hY hb hv
  simp only [show ((121 : Nat) : Int) = 121 from rfl]
  go_enter Tryz.func191, Tryz.ntmps191
  go_wp2_with fail
  with_reducible refine P1.out.mono ?_
  rintro e w1 ⟨rfl, hw⟩
  have hf := hfin.out w1 hw
  replace hf := Lib.hid hf
  clear P1 hfin hw
  go_wp2_with fail
  exact hf.out
theorem address_105 (n : Nat) (h : Tk K z s w) (hn : n < 65536) (hl : s.l.length ≤ 98) : AdP K z s w 105 n := by
  obtain ⟨⟨rA, rX, rY, rS, rP, rPc, rH⟩, l, q⟩ := s
  have c1 := h.look.1.2.1
  have c2 := h.look.1.2.2.1
  have hX := h.ok.X
  have hY := h.ok.Y
  dsimp only at c1 c2 hX hY
  have e0 : IntKind.u8.wrap (n : Int) = ((n % 256 : Nat) : Int) := by simp only [IntKind.wrap_u8]; omega
  have hb : n % 256 < 256 := Nat.mod_lt _ (by decide)
  have hv : rX < 256 := by omega
  have P1 := place_any (rX) h hv
  have hp := placeR_lt ⟨rA, rX, rY, rS, rP, rPc, rH⟩ (rX) hv
  dsimp only at P1 hp
  unfold AdP
  obtain ⟨Q, hQ, F⟩ := post_name (Post K z ⟨⟨rA, rX, rY, rS, rP, rPc, rH⟩, l, q⟩ w (addressM 105 n) wordV (fun v => v < 65536) 2)
  rw [hQ]
  have hfin := Lib.hid fun (W : World) (hW : W = w) => (by rw [hW]; exact F (.returned (wordV (placeR ⟨rA, rX, rY, rS, rP, rPc, rH⟩ (rX)))) w (Post.done (Ran.get (k := fun r => M.pure (placeR r r.X)) (Ran.pure _ _)) h (Kp.refl _ _) hp (Nat.le_add_right _ 2)) : Q (.returned (wordV (placeR ⟨rA, rX, rY, rS, rP, rPc, rH⟩ (rX)))) W)
  clear h hQ F hp hl
  generalize placeR ⟨rA, rX, rY, rS, rP, rPc, rH⟩ (rX) = x at *
  replace P1 := Lib.hid P1
  unfold wordV at hfin
  clear hn hX hY hb hv
  simp only [show ((105 : Nat) : Int) = 105 from rfl]
  go_enter Tryz.func191, Tryz.ntmps191
  go_wp2_with fail
  with_reducible refine P1.out.mono ?_
  rintro e w1 ⟨rfl, hw⟩
  have hf := hfin.out w1 hw
  replace hf := Lib.hid hf
  clear P1 hfin hw
  go_wp2_with fail
  exact hf.out
theorem address_106 (n : Nat) (h : Tk K z s w) (hn : n < 65536) (hl : s.l.length ≤ 98) : AdP K z s w 106 n := by
  obtain ⟨⟨rA, rX, rY, rS, rP, rPc, rH⟩, l, q⟩ := s
  have c1 := h.look.1.2.1
  have c2 := h.look.1.2.2.1
  have hX := h.ok.X
  have hY := h.ok.Y
  dsimp only at c1 c2 hX hY
  have e0 : IntKind.u8.wrap (n : Int) = ((n % 256 : Nat) : Int) := by simp only [IntKind.wrap_u8]; omega
  have hb : n % 256 < 256 := Nat.mod_lt _ (by decide)
  have hv : rY < 256 := by omega
  have P1 := place_any (rY) h hv
  have hp := placeR_lt ⟨rA, rX, rY, rS, rP, rPc, rH⟩ (rY) hv
  dsimp only at P1 hp
  unfold AdP
  obtain ⟨Q, hQ, F⟩ := post_name (Post K z ⟨⟨rA, rX, rY, rS, rP, rPc, rH⟩, l, q⟩ w (addressM 106 n) wordV (fun v => v < 65536) 2)
  rw [hQ]
  have hfin := Lib.hid fun (W : World) (hW : W = w) => (by rw [hW]; exact F (.returned (wordV (placeR ⟨rA, rX, rY, rS, rP, rPc, rH⟩ (rY)))) w (Post.done (Ran.get (k := fun r => M.pure (placeR r r.Y)) (Ran.pure _ _)) h (Kp.refl _ _) hp (Nat.le_add_right _ 2)) : Q (.returned (wordV (placeR ⟨rA, rX, rY, rS, rP, rPc, rH⟩ (rY)))) W)
  clear h hQ F hp hl
  generalize placeR ⟨rA, rX, rY, rS, rP, rPc, rH⟩ (rY) = x at *
  replace P1 := Lib.hid P1
  unfold wordV at hfin
  clear hn hX hY hb hv
  simp only [show ((106 : Nat) : Int) = 106 from rfl]
  go_enter Tryz.func191, Tryz.ntmps191
  go_wp2_with fail
  with_reducible refine P1.out.mono ?_
  rintro e w1 ⟨rfl, hw⟩
  have hf := hfin.out w1 hw
  replace hf := Lib.hid hf
  clear P1 hfin hw
  go_wp2_with fail
  exact hf.out
theorem address_112 (n : Nat) (h : Tk K z s w) (hn : n < 65536) (hl : s.l.length ≤ 98) : AdP K z s w 112 n := by
  obtain ⟨⟨rA, rX, rY, rS, rP, rPc, rH⟩, l, q⟩ := s
  have c1 := h.look.1.2.1
  have c2 := h.look.1.2.2.1
  have hX := h.ok.X
  have hY := h.ok.Y
  dsimp only at c1 c2 hX hY
  have eX : IntKind.u16.wrap (rX : Int) = (rX : Int) := by simp only [IntKind.wrap_u16]; omega
  have eY : IntKind.u16.wrap (rY : Int) = (rY : Int) := by simp only [IntKind.wrap_u16]; omega
  have hv : (n + rX) % 65536 < 65536 := by omega
  have e1 : IntKind.u16.wrap ((n : Int) + (rX : Int)) = (((n + rX) % 65536 : Nat) : Int) := by simp only [IntKind.wrap_u16]; omega
  unfold AdP
  obtain ⟨Q, hQ, F⟩ := post_name (Post K z ⟨⟨rA, rX, rY, rS, rP, rPc, rH⟩, l, q⟩ w (addressM 112 n) wordV (fun v => v < 65536) 2)
  rw [hQ]
  have hfin := Lib.hid (F (.returned (wordV ((n + rX) % 65536))) w (Post.done (Ran.get (k := fun r => M.pure ((n + r.X) % 65536)) (Ran.pure _ _)) h (Kp.refl _ _) hv (Nat.le_add_right _ 2)))
  clear h hQ F hl
  generalize (n + rX) % 65536 = x at *
  unfold wordV at hfin
  clear hn hv
  simp only [show ((112 : Nat) : Int) = 112 from rfl]
  go_enter Tryz.func191, Tryz.ntmps191
  go_wp2_with fail
  exact hfin.out
theorem address_113 (n : Nat) (h : Tk K z s w) (hn : n < 65536) (hl : s.l.length ≤ 98) : AdP K z s w 113 n := by
  obtain ⟨⟨rA, rX, rY, rS, rP, rPc, rH⟩, l, q⟩ := s
  have c1 := h.look.1.2.1
  have c2 := h.look.1.2.2.1
  have hX := h.ok.X
  have hY := h.ok.Y
  dsimp only at c1 c2 hX hY
  have eX : IntKind.u16.wrap (rX : Int) = (rX : Int) := by simp only [IntKind.wrap_u16]; omega
  have eY : IntKind.u16.wrap (rY : Int) = (rY : Int) := by simp only [IntKind.wrap_u16]; omega
  have hv : (n + rY) % 65536 < 65536 := by omega
  have e1 : IntKind.u16.wrap ((n : Int) + (rY : Int)) = (((n + rY) % 65536 : Nat) : Int) := by simp only [IntKind.wrap_u16]; omega
  unfold AdP
  obtain ⟨Q, hQ, F⟩ := post_name (Post K z ⟨⟨rA, rX, rY, rS, rP, rPc, rH⟩, l, q⟩ w (addressM 113 n) wordV (fun v => v < 65536) 2)
  rw [hQ]
  have hfin := Lib.hid (F (.returned (wordV ((n + rY) % 65536))) w (Post.done (Ran.get (k := fun r => M.pure ((n + r.Y) % 65536)) (Ran.pure _ _)) h (Kp.refl _ _) hv (Nat.le_add_right _ 2)))
  clear h hQ F hl
  generalize (n + rY) % 65536 = x at *
  unfold wordV at hfin
  clear hn hv
  simp only [show ((113 : Nat) : Int) = 113 from rfl]
  go_enter Tryz.func191, Tryz.ntmps191
  go_wp2_with fail
  exact hfin.out
theorem address_110 (n : Nat) (h : Tk K z s w) (hn : n < 65536) (hl : s.l.length ≤ 98) : AdP K z s w 110 n := by
  obtain ⟨⟨rA, rX, rY, rS, rP, rPc, rH⟩, l, q⟩ := s
  have c1 := h.look.1.2.1
  have c2 := h.look.1.2.2.1
  have hX := h.ok.X
  have hY := h.ok.Y
  dsimp only at c1 c2 hX hY
  have eX : IntKind.u16.wrap (rX : Int) = (rX : Int) := by simp only [IntKind.wrap_u16]; omega
  have eY : IntKind.u16.wrap (rY : Int) = (rY : Int) := by simp only [IntKind.wrap_u16]; omega
  have hv : n % 8192 < 65536 := by omega
  have e1 : bits .and .u16 (n : Int) 8191 = ((n % 8192 : Nat) : Int) := (u16_and_nat n 8191 hn (by decide)).trans (by rw [show (8191 : Nat) = 2 ^ 13 - 1 from rfl, Nat.and_two_pow_sub_one_eq_mod])
  unfold AdP
  obtain ⟨Q, hQ, F⟩ := post_name (Post K z ⟨⟨rA, rX, rY, rS, rP, rPc, rH⟩, l, q⟩ w (addressM 110 n) wordV (fun v => v < 65536) 2)
  rw [hQ]
  have hfin := Lib.hid (F (.returned (wordV (n % 8192))) w (Post.done (Ran.pure _ _) h (Kp.refl _ _) hv (Nat.le_add_right _ 2)))
  clear h hQ F hl
  generalize n % 8192 = x at *
  unfold wordV at hfin
  clear hn hv
  simp only [show ((110 : Nat) : Int) = 110 from rfl]
  go_enter Tryz.func191, Tryz.ntmps191
  go_wp2_with fail
  exact hfin.out
theorem address_47 (n : Nat) (h : Tk K z s w) (hn : n < 65536) (hl : s.l.length ≤ 98) : AdP K z s w 47 n := by
  obtain ⟨⟨rA, rX, rY, rS, rP, rPc, rH⟩, l, q⟩ := s
  have c1 := h.look.1.2.1
  have c2 := h.look.1.2.2.1
  have hX := h.ok.X
  have hY := h.ok.Y
  dsimp only at c1 c2 hX hY
  have eX : IntKind.u16.wrap (rX : Int) = (rX : Int) := by simp only [IntKind.wrap_u16]; omega
  have eY : IntKind.u16.wrap (rY : Int) = (rY : Int) := by simp only [IntKind.wrap_u16]; omega
  have hv : n % 8192 < 65536 := by omega
  have e1 : bits .and .u16 (n : Int) 8191 = ((n % 8192 : Nat) : Int) := (u16_and_nat n 8191 hn (by decide)).trans (by rw [show (8191 : Nat) = 2 ^ 13 - 1 from rfl, Nat.and_two_pow_sub_one_eq_mod])
  unfold AdP
  obtain ⟨Q, hQ, F⟩ := post_name (Post K z ⟨⟨rA, rX, rY, rS, rP, rPc, rH⟩, l, q⟩ w (addressM 47 n) wordV (fun v => v < 65536) 2)
  rw [hQ]
  have hfin := Lib.hid (F (.returned (wordV (n % 8192))) w (Post.done (Ran.pure _ _) h (Kp.refl _ _) hv (Nat.le_add_right _ 2)))
  clear h hQ F hl
  generalize n % 8192 = x at *
  unfold wordV at hfin
  clear hn hv
  simp only [show ((47 : Nat) : Int) = 47 from rfl]
  go_enter Tryz.func191, Tryz.ntmps191
  go_wp2_with fail
  exact hfin.out
theorem address_97 (n : Nat) (h : Tk K z s w) (hn : n < 65536) (hl : s.l.length ≤ 98) : AdP K z s w 97 n := by
  obtain ⟨⟨rA, rX, rY, rS, rP, rPc, rH⟩, l, q⟩ := s
  have c1 := h.look.1.2.1
  have c2 := h.look.1.2.2.1
  have hX := h.ok.X
  have hY := h.ok.Y
  dsimp only at c1 c2 hX hY
  have eX : IntKind.u16.wrap (rX : Int) = (rX : Int) := by simp only [IntKind.wrap_u16]; omega
  have eY : IntKind.u16.wrap (rY : Int) = (rY : Int) := by simp only [IntKind.wrap_u16]; omega
  have hv : n < 65536 := by omega
  unfold AdP
  obtain ⟨Q, hQ, F⟩ := post_name (Post K z ⟨⟨rA, rX, rY, rS, rP, rPc, rH⟩, l, q⟩ w (addressM 97 n) wordV (fun v => v < 65536) 2)
  rw [hQ]
  have hfin := Lib.hid (F (.returned (wordV (n))) w (Post.done (Ran.pure _ _) h (Kp.refl _ _) hv (Nat.le_add_right _ 2)))
  clear h hQ F hl
  unfold wordV at hfin
  clear hn hv
  simp only [show ((97 : Nat) : Int) = 97 from rfl]
  go_enter Tryz.func191, Tryz.ntmps191
  go_wp2_with fail
  exact hfin.out
theorem address_43 (n : Nat) (h : Tk K z s w) (hn : n < 65536) (hl : s.l.length ≤ 98) : AdP K z s w 43 n := by
  obtain ⟨⟨rA, rX, rY, rS, rP, rPc, rH⟩, l, q⟩ := s
  have c1 := h.look.1.2.1
  have f1 := h.look.2.2 1
  have hX := h.ok.X
  dsimp only at c1 hX
  have e0 : IntKind.u8.wrap (rX + 1 : Int) = (((rX + 1) % 256 : Nat) : Int) := by simp only [IntKind.wrap_u8]; omega
  have hx1 : (rX + 1) % 256 < 256 := Nat.mod_lt _ (by decide)
  have e1 : IntKind.u8.wrap ((((rX + 1) % 256 : Nat) : Int) - 1) = ((((rX + 1) % 256 + 255) % 256 : Nat) : Int) := by simp only [IntKind.wrap_u8]; omega
  have t1 := h.toX ((rX + 1) % 256) hx1
  have d1 := t1.look.1.2.1
  have hv : ((rX + 1) % 256 + 255) % 256 < 256 := by omega
  have P1 := place_any (((rX + 1) % 256 + 255) % 256) t1 hv
  have hp := placeR_lt ⟨rA, (rX + 1) % 256, rY, rS, rP, rPc, rH⟩ (((rX + 1) % 256 + 255) % 256) hv
  dsimp only at P1 hp d1 t1
  unfold AdP
  obtain ⟨Q, hQ, F⟩ := post_name (Post K z ⟨⟨rA, rX, rY, rS, rP, rPc, rH⟩, l, q⟩ w (addressM 43 n) wordV (fun v => v < 65536) 2)
  rw [hQ]
  have hfin := Lib.hid fun (W : World) (hW : W = w.setCell ⟨K.b, 1, none⟩ (.int .u8 (((rX + 1) % 256 : Nat) : Int))) => (by rw [hW]; exact F (.returned (wordV (placeR ⟨rA, (rX + 1) % 256, rY, rS, rP, rPc, rH⟩ (((rX + 1) % 256 + 255) % 256)))) _ (Post.done ((Ran.set (fun r => { r with X := (r.X + 1) % 256 }) ⟨⟨rA, rX, rY, rS, rP, rPc, rH⟩, l, q⟩).bind (k := fun _ => M.get fun r => M.pure (placeR r ((r.X + 255) % 256))) (Ran.get (k := fun r => M.pure (placeR r ((r.X + 255) % 256))) (Ran.pure _ _))) t1 ((Kp.refl _ _).set 1 _) hp (Nat.le_add_right _ 2)) : Q (.returned (wordV (placeR ⟨rA, (rX + 1) % 256, rY, rS, rP, rPc, rH⟩ (((rX + 1) % 256 + 255) % 256)))) W)
  clear h hQ F hp hl t1
  generalize placeR ⟨rA, (rX + 1) % 256, rY, rS, rP, rPc, rH⟩ (((rX + 1) % 256 + 255) % 256) = x at *
  generalize ((rX + 1) % 256 + 255) % 256 = y at *
  generalize (rX + 1) % 256 = y1 at *
  replace P1 := Lib.hid P1
  unfold wordV at hfin
  clear hn hX hx1 hv
  simp only [show ((43 : Nat) : Int) = 43 from rfl]
  go_enter Tryz.func191, Tryz.ntmps191
  go_wp2_with fail
  with_reducible refine P1.out.mono ?_
  rintro e w1 ⟨rfl, hw⟩
  have hf := hfin.out w1 hw
  replace hf := Lib.hid hf
  clear P1 hfin hw
  go_wp2_with fail
  exact hf.out
theorem address_108 (n : Nat) (h : Tk K z s w) (hn : n < 65536) (hl : s.l.length ≤ 98) : AdP K z s w 108 n := by
  obtain ⟨⟨rA, rX, rY, rS, rP, rPc, rH⟩, l, q⟩ := s
  have c1 := h.look.1.2.1
  have hX := h.ok.X
  dsimp only at c1 hX
  have e1 : ((n : Int) + (rX : Int)) % 256 = (((n + rX) % 256 : Nat) : Int) := by omega
  have P1 := wordInPage_any ((n + rX) % 256) h (Nat.mod_lt _ (by decide)) hl
  unfold AdP
  obtain ⟨Q, hQ, F⟩ := post_name (Post K z ⟨⟨rA, rX, rY, rS, rP, rPc, rH⟩, l, q⟩ w (addressM 108 n) wordV (fun v => v < 65536) 2)
  rw [hQ]
  replace F : ∀ e w', Post K z ⟨⟨rA, rX, rY, rS, rP, rPc, rH⟩, l, q⟩ w (wordInPageM ((n + rX) % 256)) wordV (fun v => v < 65536) 2 e w' → Q e w' := fun e w' hp => F e w' (Post.get (k := fun r => wordInPageM ((n + r.X) % 256)) hp)
  replace F := Lib.hid F
  replace P1 := Lib.hid P1
  clear h hQ hl
  generalize (n + rX) % 256 = y at *
  clear hn hX
  simp only [show ((108 : Nat) : Int) = 108 from rfl]
  go_enter Tryz.func191, Tryz.ntmps191
  go_wp2_with fail
  with_reducible refine P1.out.mono ?_
  intro e w1 hp
  have hfin := Lib.hid (F.out _ _ hp)
  obtain ⟨s1, _, _, _, (⟨v, _, _, rfl⟩ | ⟨_, rfl⟩)⟩ := hp
  · clear P1 F
    unfold wordV at hfin ⊢
    go_wp2_with fail
    exact hfin.out
  · clear P1 F
    unfold lackE at hfin ⊢
    go_wp2_with fail
    first | exact hfin.out | exact ⟨rfl, hfin.out⟩
theorem address_109 (n : Nat) (h : Tk K z s w) (hn : n < 65536) (hl : s.l.length ≤ 98) : AdP K z s w 109 n := by
  have c2 := h.look.1.2.2.1
  have e0 : IntKind.u8.wrap (n : Int) = ((n % 256 : Nat) : Int) := by simp only [IntKind.wrap_u8]; omega
  have P1 := Lib.hid (wordInPage_any (n % 256) h.drew (Nat.mod_lt _ (by decide)) hl)
  have hY := h.ok.Y
  have eY : IntKind.u16.wrap (s.r.Y : Int) = (s.r.Y : Int) := by simp only [IntKind.wrap_u16]; omega
  unfold AdP
  obtain ⟨Q, hQ, F⟩ := post_name (Post K z s w (addressM 109 n) wordV (fun v => v < 65536) 2)
  rw [hQ]
  have kd := Lib.hid ((Kp.refl K w).drew)
  replace F : ∀ e w', Post K z s w (M.bind (wordInPageM (n % 256)) fun v => M.get fun r => M.pure ((v + r.Y) % 65536)) wordV (fun v => v < 65536) 2 e w' → Q e w' := F
  replace F := Lib.hid F
  clear h hQ hl hn
  generalize n % 256 = b at *
  simp only [show ((109 : Nat) : Int) = 109 from rfl]
  go_enter Tryz.func191, Tryz.ntmps191
  go_upto_region 24 with (fail)
  go_region_held2 (fun W => W.cell? ⟨K.b, 2, none⟩ = some (.int .u8 (s.r.Y : Nat))) (first | assumption | exact c2) (first
    | (go_at_call 235; (with_reducible refine P1.out.mono ?_); rintro e w1 ⟨s1, t1, k1, l1, (⟨v, r1, hv, rfl⟩ | ⟨g1, rfl⟩)⟩; rotate_left; (have hf := Lib.hid (F.out lackE _ (Post.gave g1 t1 (kd.out.trans k1) l1)); unfold lackE at hf ⊢; go_wp2_with fail; first | exact hf.out | exact ⟨rfl, hf.out⟩); have d2 : w1.cell? ⟨K.b, 2, none⟩ = some (.int .u8 (s.r.Y : Nat)) := (by rw [← Still.wordInPage b s v s1 r1]; exact t1.look.1.2.2.1); have hh := Lib.hid (And.intro r1 (And.intro t1 (And.intro k1 (And.intro l1 hv)))); unfold wordV))
  all_goals
    obtain ⟨r1, t1, k1, l1, hv⟩ := hh.out
    have eA : IntKind.u16.wrap ((v : Int) + (s.r.Y : Int)) = (((v + s.r.Y) % 65536 : Nat) : Int) := by simp only [IntKind.wrap_u16]; omega
    have hf := F.out (.returned (wordV ((v + s.r.Y) % 65536))) w1 (Post.done (r1.bind (Ran.get (k := fun r => M.pure ((v + r.Y) % 65536)) (by rw [Still.wordInPage b s v s1 r1]; exact Ran.pure _ _))) t1 (kd.out.trans k1) (Nat.mod_lt _ (by decide)) l1)
    unfold wordV at hf
    rw [← eA] at hf
    replace hf := Lib.hid hf
    clear hh r1 t1 k1 l1 hv eA
    go_wp2_with fail
    exact hf.out
end
end Go.Proofs.YtknlbmjncginnaaGreatDoor
namespace Go.Proofs.YtknlbmjncginnaaGreatDoor
open Go.RowKit Go.Shelf
set_option maxRecDepth 100000
set_option maxHeartbeats 1000000
set_option linter.unusedVariables false

def regL : List Nat := [65, 88, 89, 83, 80]
def memL : List Nat := [100, 120, 121, 105, 106, 43, 97, 112, 113, 108, 109, 98, 110, 47]
def regIx (c : Nat) : Nat := match c with | 88 => 1 | 89 => 2 | 83 => 3 | 80 => 4 | _ => 0
def regGet (c : Nat) (r : Rp) : Nat := match c with | 88 => r.X | 89 => r.Y | 83 => r.S | 80 => r.P | _ => r.A
def regSet (c v : Nat) (r : Rp) : Rp := match c with | 88 => { r with X := v } | 89 => { r with Y := v } | 83 => { r with S := v } | 80 => { r with P := v } | _ => { r with A := v }
section
variable {K : Cx} {z : Zs} {s : Ts} {w : World}
theorem register_any (c : Nat) (hc : c ∈ regL) : Calls Tryz.prog 186 #[.pointer (some ⟨K.b, 0, none⟩), .int .u8 (c : Nat)] w fun e w' => e = .returned (.pointer (some ⟨K.b, regIx c, none⟩)) ∧ w' = w := by
  simp only [regL, List.mem_cons, List.not_mem_nil, or_false] at hc
  rcases hc with rfl | rfl | rfl | rfl | rfl
  all_goals
    go_enter Tryz.func186, Tryz.ntmps186
    go_wp2_with fail
    go_ret
    exact ⟨rfl, rfl⟩
theorem address_any (c n : Nat) (hc : c ∈ memL) (h : Tk K z s w) (hn : n < 65536) (hl : s.l.length ≤ 98) : AdP K z s w c n := by
  simp only [memL, List.mem_cons, List.not_mem_nil, or_false] at hc
  rcases hc with rfl | rfl | rfl | rfl | rfl | rfl | rfl | rfl | rfl | rfl | rfl | rfl | rfl | rfl
  · exact address_100 n h hn hl
  · exact address_120 n h hn hl
  · exact address_121 n h hn hl
  · exact address_105 n h hn hl
  · exact address_106 n h hn hl
  · exact address_43 n h hn hl
  · exact address_97 n h hn hl
  · exact address_112 n h hn hl
  · exact address_113 n h hn hl
  · exact address_108 n h hn hl
  · exact address_109 n h hn hl
  · exact address_98 n h hn hl
  · exact address_110 n h hn hl
  · exact address_47 n h hn hl
/-- The program's next bytes as a number. -/
def numM : Nat → M Nat
  | 0 => M.pure 0
  | k + 1 => M.bind (numM k) fun n => M.bind fetchM fun v => M.pure (n + v * 256 ^ k)
theorem Gave.numUp {j : Nat} (s s1 : Ts) : ∀ i, j ≤ i → Gave (numM j) s s1 → Gave (numM i) s s1
  | 0, h, g => by obtain rfl : j = 0 := by omega
                  exact g
  | i + 1, h, g => by
    by_cases e : j = i + 1
    · subst e; exact g
    · exact Gave.bind (Gave.numUp s s1 i (by omega) g)
theorem fetchNumber_any (k : Nat) (hk : k ≤ 2) (h : Tk K z s w) (hl : s.l.length ≤ 98) :
    Calls Tryz.prog 185 #[.pointer (some ⟨K.b, 0, none⟩), .int .i64 (k : Nat)] w (Post K z s w (numM k) wordV (fun v => v < 65536) 2) := by
  obtain ⟨Q, hQ, F⟩ := post_name (Post K z s w (numM k) wordV (fun v => v < 65536) 2)
  rw [hQ]
  clear hQ
  have HF := Lib.hid fun (W : World) (s1 : Ts) (hW : Tk K z s1 W) (hl1 : s1.l.length ≤ 99) => fetch_any hW hl1
  replace F := Lib.hid F
  replace hl := Lib.hid hl
  replace h := Lib.hid h
  go_enter Tryz.func185, Tryz.ntmps185
  go_wp2_with fail
  go_loopw [5, 8] (fun s5 s8 wr => ∃ i n : Nat, ∃ s1 : Ts, i ≤ k ∧ s8 = .int .i64 i ∧ s5 = .int .u16 n ∧ n < 256 ^ i ∧ Ran (numM i) s n s1 ∧ Tk K z s1 wr ∧ Kp K w wr ∧ s1.l.length ≤ s.l.length + i) (fun _ s8 _ => k - (intOf s8).toNat)
  case atStart => exact ⟨0, 0, s, Nat.zero_le _, rfl, rfl, by decide, Ran.pure _ _, h.out, Kp.refl _ _, Nat.le_refl _⟩
  case round =>
    obtain ⟨i, n, s1, hi, rfl, rfl, hn, r1, t1, k1, l1⟩ := hrel
    by_cases hlt : i < k
    · have HC := Lib.hid (HF.out wr s1 t1 (by have := hl.out; omega))
      replace r1 := Lib.hid r1
      replace k1 := Lib.hid k1
      replace l1 := Lib.hid l1
      clear HF t1 h
      go_wp2_with fail
      with_reducible refine HC.out.mono ?_
      rintro e w1 ⟨s2, t2, k2, l2, (⟨v, r2, hv, rfl⟩ | ⟨g2, rfl⟩)⟩
      · have hR : Ran (numM (i + 1)) s (n + v * 256 ^ i) s2 := r1.out.bind (r2.bind (Ran.pure _ _))
        have hkp := k1.out.trans k2
        have hle : s2.l.length ≤ s.l.length + (i + 1) := by have := l1.out; omega
        have ev : IntKind.u16.wrap (v : Int) = (v : Int) := by simp only [IntKind.wrap_u16]; omega
        replace hR := Lib.hid hR
        replace hkp := Lib.hid hkp
        replace hle := Lib.hid hle
        replace t2 := Lib.hid t2
        clear HC r2 k2 l2 r1 k1 l1 F
        unfold byteV
        obtain rfl | rfl : i = 0 ∨ i = 1 := by omega
        · have eo : bits .or .u16 (n : Int) (v : Int) = ((n + v : Nat) : Int) := by
            obtain rfl : n = 0 := by omega
            rw [u16_or_nat 0 v (by omega) (by omega), Nat.zero_or, Nat.zero_add]
          go_wp2_with fail
          go_roundw
          case rel => exact ⟨1, n + v, s2, hlt, rfl, rfl, by omega, by simpa using hR.out, t2.out, hkp.out, hle.out⟩
          case measure => simp [intOf]; omega
        · have eo : bits .or .u16 (n : Int) ((v : Int) * 256) = ((n + v * 256 : Nat) : Int) := by
            rw [word_or n v (by omega) hv, Nat.add_comm]
          have ew : IntKind.u16.wrap ((v : Int) * 256) = (v : Int) * 256 := by simp only [IntKind.wrap_u16]; omega
          go_wp2_with fail
          go_roundw
          case rel => exact ⟨2, n + v * 256, s2, hlt, rfl, rfl, by omega, by simpa using hR.out, t2.out, hkp.out, hle.out⟩
          case measure => simp [intOf]; omega
      · have hf := Lib.hid (F.out lackE _ ⟨s2, t2, k1.out.trans k2, by have := l1.out; omega, .inr ⟨Gave.numUp s s2 k (j := i + 1) hlt (Gave.then r1.out (Gave.bind g2)), rfl⟩⟩)
        clear HC t2 k2 l2 g2 F
        unfold lackE at hf ⊢
        go_wp2_with fail
        first | exact hf.out | exact ⟨rfl, hf.out⟩
    · obtain rfl : i = k := by omega
      have hlt2 : n < 65536 := by
        have : 256 ^ i ≤ 256 ^ 2 := Nat.pow_le_pow_right (by decide) hk
        omega
      have hf := Lib.hid (F.out (.returned (wordV n)) wr (Post.done r1 t1 k1 hlt2 (by omega)))
      unfold wordV at hf
      clear HF F h r1 t1 k1 l1
      go_wp2_with fail
      exact hf.out
end
end Go.Proofs.YtknlbmjncginnaaGreatDoor
namespace Go.Proofs.YtknlbmjncginnaaGreatDoor
open Go.RowKit Go.Shelf
set_option maxRecDepth 100000
set_option maxHeartbeats 1000000
set_option linter.unusedVariables false

theorem regGet_lt {r : Rp} (h : r.Ok) (c : Nat) : regGet c r < 256 := by
  unfold regGet
  split
  · exact h.X
  · exact h.Y
  · exact h.S
  · exact h.P
  · exact h.A
/-- What an operand's functions are. -/
def OpAt (K : Cx) (w : World) (c n : Nat) (v2 v3 : Value) : Prop :=
  (c ∈ regL ∧ ∃ X, v2 = .func (.func 187) #[] #[.pointer (some ⟨X, 0, none⟩)] ∧ v3 = .func (.func 188) #[] #[.pointer (some ⟨X, 0, none⟩)] ∧ Whole w X 131 #[.pointer (some ⟨K.b, regIx c, none⟩)]) ∨
  (c = 35 ∧ ∃ X, v2 = .func (.func 189) #[] #[.pointer (some ⟨X, 0, none⟩)] ∧ Whole w X 22 #[.int .u16 (n : Nat)] ∧ v3 = .nilFunc) ∨
  (c ∈ memL ∧ ∃ U L N, v2 = .func (.func 190) #[] #[.pointer (some ⟨U, 0, none⟩), .pointer (some ⟨L, 0, none⟩), .pointer (some ⟨N, 0, none⟩)] ∧ v3 = .func (.func 192) #[] #[.pointer (some ⟨U, 0, none⟩), .pointer (some ⟨L, 0, none⟩), .pointer (some ⟨N, 0, none⟩)] ∧
    Whole w U 87 #[.pointer (some ⟨K.b, 0, none⟩)] ∧ Whole w L 5 #[.int .u8 (c : Nat)] ∧ Whole w N 22 #[.int .u16 (n : Nat)]) ∨
  (c ∉ regL ∧ c ≠ 35 ∧ c ∉ memL ∧ v2 = .nilFunc ∧ v3 = .nilFunc)
/-- A function, or none. -/
def FnV (v : Value) : Prop := v = .nilFunc ∨ ∃ f a b, v = .func f a b
theorem OpAt.fns {K : Cx} {w : World} {c n : Nat} {v2 v3 : Value} (h : OpAt K w c n v2 v3) : FnV v2 ∧ FnV v3 := by
  rcases h with ⟨h0, X, h1, h2, h3⟩ | ⟨h0, X, h1, h3, h9⟩ | ⟨h0, U, L, N, h1, h2, h3, h4, h5⟩ | ⟨h0, h1, h2, h3, h4⟩
  · exact ⟨.inr ⟨_, _, _, h1⟩, .inr ⟨_, _, _, h2⟩⟩
  · exact ⟨.inr ⟨_, _, _, h1⟩, .inl h9⟩
  · exact ⟨.inr ⟨_, _, _, h1⟩, .inr ⟨_, _, _, h2⟩⟩
  · exact ⟨.inl h3, .inl h4⟩
theorem FnV.store {v : Value} (h : FnV v) (P : Program) (w : World) (a : Addr) (m : Mode) : (Go.store a v m).run P w = stored P w a v m := by
  rcases h with rfl | ⟨f, x, y, rfl⟩
  · exact run_store_nilFunc P w a m
  · exact run_store_func P w a m f x y
def readO (c n : Nat) : M Nat := if c ∈ regL then M.get fun r => M.pure (regGet c r) else if c = 35 then M.pure (n % 256) else M.bind (addressM c n) fun a => M.read a
def writeO (c n v : Nat) : M Unit := if c ∈ regL then M.set (regSet c v) else M.bind (addressM c n) fun a => M.write a v
section
variable {K : Cx} {z : Zs} {s : Ts} {w w' : World}
theorem Tk.away (h : Tk K z s w) {x : Nat} {t : TypeId} {cs : Array Value} (hx : Whole w x t cs) (h1 : t ≠ 98) (h2 : t ≠ 25) : x ≠ K.b ∧ x ≠ K.x := by
  obtain ⟨lv, h3, _⟩ := h.cells
  obtain ⟨_, _, _, _, h4, _⟩ := h.box
  exact ⟨whole_apart hx h3 h1, whole_apart hx h4 h2⟩
theorem Kp.stay (k : Kp K w w') (h : Tk K z s w) {x : Nat} {t : TypeId} {cs : Array Value} (hx : Whole w x t cs) (h1 : t ≠ 98 := by decide) (h2 : t ≠ 25 := by decide) (h3 : t ≠ 42 := by decide) : Whole w' x t cs :=
  k.keep x t cs (h.away hx h1 h2).1 (h.away hx h1 h2).2 h3 hx
theorem OpAt.stay {c n : Nat} {v2 v3 : Value} (h : OpAt K w c n v2 v3) (t : Tk K z s w) (k : Kp K w w') : OpAt K w' c n v2 v3 := by
  rcases h with ⟨h0, X, h1, h2, h3⟩ | ⟨h0, X, h1, h3, h9⟩ | ⟨h0, U, L, N, h1, h2, h3, h4, h5⟩ | h0
  · exact .inl ⟨h0, X, h1, h2, k.stay t h3⟩
  · exact .inr (.inl ⟨h0, X, h1, k.stay t h3, h9⟩)
  · exact .inr (.inr (.inl ⟨h0, U, L, N, h1, h2, k.stay t h3, k.stay t h4, k.stay t h5⟩))
  · exact .inr (.inr (.inr h0))
theorem regCell (h : Tk K z s w) (c : Nat) (hc : c ∈ regL) : w.cell? ⟨K.b, regIx c, none⟩ = some (.int .u8 (regGet c s.r : Nat)) := by
  have hl := h.look.1
  simp only [regL, List.mem_cons, List.not_mem_nil, or_false] at hc
  rcases hc with rfl | rfl | rfl | rfl | rfl
  · exact hl.1
  · exact hl.2.1
  · exact hl.2.2.1
  · exact hl.2.2.2.1
  · exact hl.2.2.2.2
theorem Tk.toReg (h : Tk K z s w) (c v : Nat) (hc : c ∈ regL) (hv : v < 256) : Tk K z { s with r := regSet c v s.r } (w.setCell ⟨K.b, regIx c, none⟩ (.int .u8 (v : Nat))) := by
  simp only [regL, List.mem_cons, List.not_mem_nil, or_false] at hc
  rcases hc with rfl | rfl | rfl | rfl | rfl
  · exact h.toA v hv
  · exact h.toX v hv
  · exact h.toY v hv
  · exact h.toS v hv
  · exact h.toP v hv
theorem regRead (c X : Nat) (h : Tk K z s w) (hc : c ∈ regL) (hX : Whole w X 131 #[.pointer (some ⟨K.b, regIx c, none⟩)]) :
    Calls Tryz.prog 187 #[.pointer (some ⟨X, 0, none⟩)] w fun e w' => e = .returned (.int .u8 (regGet c s.r : Nat)) ∧ w' = w := by
  have c0 := hX.cell 0
  simp only [List.getElem?_toArray, List.getElem?_cons_zero] at c0
  have d0 := regCell h c hc
  clear h hX hc
  generalize regGet c s.r = v at *
  generalize regIx c = i at *
  go_enter Tryz.func187, Tryz.ntmps187
  go_wp2_with fail
  go_ret
  exact ⟨rfl, rfl⟩
theorem regWrite (c X v : Nat) (h : Tk K z s w) (hc : c ∈ regL) (hv : v < 256) (hX : Whole w X 131 #[.pointer (some ⟨K.b, regIx c, none⟩)]) :
    Calls Tryz.prog 188 #[.int .u8 (v : Nat), .pointer (some ⟨X, 0, none⟩)] w (Turns K z s w (regSet c v s.r) (.tuple #[])) := by
  have c0 := hX.cell 0
  simp only [List.getElem?_toArray, List.getElem?_cons_zero] at c0
  have d0 := regCell h c hc
  have f0 := h.look.2.2 (regIx c)
  have hfin := Lib.hid (And.intro (h.toReg c v hc hv) ((Kp.refl K w).set (regIx c) (.int .u8 (v : Nat))))
  unfold Turns
  clear h hX hc
  generalize regGet c s.r = y at *
  generalize regIx c = i at *
  generalize regSet c v s.r = r' at *
  go_enter Tryz.func188, Tryz.ntmps188
  go_wp2_with fail
  go_end0
  exact ⟨rfl, hfin.out⟩
theorem hashRead (n X : Nat) (hn : n < 65536) (hX : Whole w X 22 #[.int .u16 (n : Nat)]) :
    Calls Tryz.prog 189 #[.pointer (some ⟨X, 0, none⟩)] w fun e w' => e = .returned (.int .u8 (n % 256 : Nat)) ∧ w' = w := by
  have c0 := hX.cell 0
  simp only [List.getElem?_toArray, List.getElem?_cons_zero] at c0
  have e1 : (n : Int) % 256 = ((n % 256 : Nat) : Int) := by omega
  clear hX
  rw [← e1]
  clear e1
  go_enter Tryz.func189, Tryz.ntmps189
  go_wp2_with fail
  go_ret
  exact ⟨rfl, rfl⟩
theorem memRead (c n U L N : Nat) (h : Tk K z s w) (hc : c ∈ memL) (hn : n < 65536) (hl : s.l.length ≤ 96) (hU : Whole w U 87 #[.pointer (some ⟨K.b, 0, none⟩)]) (hL : Whole w L 5 #[.int .u8 (c : Nat)]) (hN : Whole w N 22 #[.int .u16 (n : Nat)]) :
    Calls Tryz.prog 190 #[.pointer (some ⟨U, 0, none⟩), .pointer (some ⟨L, 0, none⟩), .pointer (some ⟨N, 0, none⟩)] w (Post K z s w (M.bind (addressM c n) fun a => M.read a) byteV (fun v => v < 256) 3) := by
  have cU := hU.cell 0
  have cL := hL.cell 0
  have cN := hN.cell 0
  simp only [List.getElem?_toArray, List.getElem?_cons_zero] at cU cL cN
  have HA := address_any c n hc h.drew hn (by omega)
  unfold AdP at HA
  have HR := Lib.hid fun (a : Nat) (W : World) (s1 : Ts) (hW : Tk K z s1 W) (hl1 : s1.l.length ≤ 99) (ha : a < 65536) => read_any a hW ha hl1
  have hst := Lib.hid fun (W : World) (k1 : Kp K w.drew W) => And.intro ((k1.stay h.drew (hU.drew)).cell 0) (And.intro ((k1.stay h.drew (hL.drew)).cell 0) ((k1.stay h.drew (hN.drew)).cell 0))
  simp only [List.getElem?_toArray, List.getElem?_cons_zero] at hst
  have kd := Lib.hid ((Kp.refl K w).drew)
  obtain ⟨Q, hQ, F⟩ := post_name (Post K z s w (M.bind (addressM c n) fun a => M.read a) byteV (fun v => v < 256) 3)
  rw [hQ]
  replace F := Lib.hid F
  replace HA := Lib.hid HA
  replace hl := Lib.hid hl
  clear h hc hn hU hL hN hQ
  generalize addressM c n = m at *
  go_enter Tryz.func190, Tryz.ntmps190
  go_upto_region 1 with (fail)
  go_region_held2 (fun W => W.cell? ⟨U, 0, none⟩ = some (.pointer (some ⟨K.b, 0, none⟩)) ∧ W.cell? ⟨L, 0, none⟩ = some (.int .u8 (c : Nat)) ∧ W.cell? ⟨N, 0, none⟩ = some (.int .u16 (n : Nat))) (first | exact ⟨cU, cL, cN⟩ | exact hb.out) (first
    | (go_at_call 191; (with_reducible refine HA.out.mono ?_); rintro e w1 ⟨s1, t1, k1, l1, (⟨v, r1, hv, rfl⟩ | ⟨g1, rfl⟩)⟩; rotate_left; (have hf := Lib.hid (F.out lackE _ (Post.gave g1 t1 (kd.out.trans k1) (by omega))); unfold lackE at hf ⊢; go_wp2_with fail; first | exact hf.out | exact ⟨rfl, hf.out⟩); have hb := Lib.hid (hst.out _ k1); have hh := Lib.hid (And.intro r1 (And.intro t1 (And.intro k1 (And.intro l1 hv)))); unfold wordV)
    | (go_at_call 135; (with_reducible refine (HR.out _ _ s1 hh.out.2.1 (by have := hh.out.2.2.2.1; have := hl.out; omega) hh.out.2.2.2.2).mono ?_); rintro e w2 ⟨s2, t2, k2, l2, (⟨x, r2, hx, rfl⟩ | ⟨g2, rfl⟩)⟩; rotate_left; (have hf := Lib.hid (F.out lackE _ (Post.after hh.out.1 (kd.out.trans hh.out.2.2.1) hh.out.2.2.2.1 ⟨s2, t2, k2, l2, .inr ⟨g2, rfl⟩⟩ (by omega))); unfold lackE at hf ⊢; go_wp2_with fail; first | exact hf.out | exact ⟨rfl, hf.out⟩); have hb := Lib.hid (hst.out _ (hh.out.2.2.1.trans k2)); have h2 := Lib.hid (F.out (.returned (byteV x)) _ (Post.after hh.out.1 (kd.out.trans hh.out.2.2.1) hh.out.2.2.2.1 ⟨s2, t2, k2, l2, .inl ⟨x, r2, hx, rfl⟩⟩ (by omega))); unfold byteV at h2 ⊢))
  all_goals
    go_wp2_with fail
    exact h2.out
theorem memWrite (c n v U L N : Nat) (h : Tk K z s w) (hc : c ∈ memL) (hn : n < 65536) (hv : v < 256) (hl : s.l.length ≤ 96) (hU : Whole w U 87 #[.pointer (some ⟨K.b, 0, none⟩)]) (hL : Whole w L 5 #[.int .u8 (c : Nat)]) (hN : Whole w N 22 #[.int .u16 (n : Nat)]) :
    Calls Tryz.prog 192 #[.int .u8 (v : Nat), .pointer (some ⟨U, 0, none⟩), .pointer (some ⟨L, 0, none⟩), .pointer (some ⟨N, 0, none⟩)] w (Post K z s w (M.bind (addressM c n) fun a => M.write a v) unitV (fun _ => True) 3) := by
  have cU := hU.cell 0
  have cL := hL.cell 0
  have cN := hN.cell 0
  simp only [List.getElem?_toArray, List.getElem?_cons_zero] at cU cL cN
  have HA := address_any c n hc h.drew hn (by omega)
  unfold AdP at HA
  have HR := Lib.hid fun (a : Nat) (W : World) (s1 : Ts) (hW : Tk K z s1 W) (hl1 : s1.l.length ≤ 99) (ha : a < 65536) => write_any a v hW ha hv hl1
  have hst := Lib.hid fun (W : World) (k1 : Kp K w.drew W) => And.intro ((k1.stay h.drew (hU.drew)).cell 0) (And.intro ((k1.stay h.drew (hL.drew)).cell 0) ((k1.stay h.drew (hN.drew)).cell 0))
  simp only [List.getElem?_toArray, List.getElem?_cons_zero] at hst
  have kd := Lib.hid ((Kp.refl K w).drew)
  obtain ⟨Q, hQ, F⟩ := post_name (Post K z s w (M.bind (addressM c n) fun a => M.write a v) unitV (fun _ => True) 3)
  rw [hQ]
  replace F := Lib.hid F
  replace HA := Lib.hid HA
  replace hl := Lib.hid hl
  replace hv := Lib.hid hv
  clear h hc hn hU hL hN hQ
  generalize addressM c n = m at *
  go_enter Tryz.func192, Tryz.ntmps192
  go_region_held2 (fun W => W.cell? ⟨U, 0, none⟩ = some (.pointer (some ⟨K.b, 0, none⟩)) ∧ W.cell? ⟨L, 0, none⟩ = some (.int .u8 (c : Nat)) ∧ W.cell? ⟨N, 0, none⟩ = some (.int .u16 (n : Nat))) (first | exact ⟨cU, cL, cN⟩ | exact hb.out) (first
    | (go_at_call 191; (with_reducible refine HA.out.mono ?_); rintro e w1 ⟨s1, t1, k1, l1, (⟨a, r1, ha, rfl⟩ | ⟨g1, rfl⟩)⟩; rotate_left; (have hf := Lib.hid (F.out lackE _ (Post.gave g1 t1 (kd.out.trans k1) (by omega))); unfold lackE at hf ⊢; go_wp2_with fail; first | exact hf.out | exact ⟨rfl, hf.out⟩); have hb := Lib.hid (hst.out _ k1); have hh := Lib.hid (And.intro r1 (And.intro t1 (And.intro k1 (And.intro l1 ha)))); unfold wordV)
    | (go_at_call 193; (with_reducible refine (HR.out _ _ s1 hh.out.2.1 (by have := hh.out.2.2.2.1; have := hl.out; omega) hh.out.2.2.2.2).mono ?_); rintro e w2 ⟨rfl, t2, k2⟩; have hb := Lib.hid (hst.out _ (hh.out.2.2.1.trans k2)); have h2 := Lib.hid (F.out (.returned (unitV ())) _ (Post.done (hh.out.1.bind (Ran.write a v s1 hh.out.2.2.2.2 hv.out)) t2 ((kd.out.trans hh.out.2.2.1).trans k2) trivial (by have := hh.out.2.2.2.1; simp; omega))); unfold unitV at h2))
  all_goals
    go_wp2_with fail
    first | exact h2.out | (go_end0; exact h2.out)
theorem mem_not_reg {c : Nat} (h : c ∈ memL) : c ∉ regL ∧ c ≠ 35 := by
  simp only [memL, List.mem_cons, List.not_mem_nil, or_false] at h
  rcases h with rfl | rfl | rfl | rfl | rfl | rfl | rfl | rfl | rfl | rfl | rfl | rfl | rfl | rfl
  all_goals exact ⟨by decide, by decide⟩
/-- An operand that is read. -/
theorem oread_any {c n : Nat} {v2 v3 : Value} (h : Tk K z s w) (ho : OpAt K w c n v2 v3) (hn : n < 65536) (hr : c ∈ regL ∨ c = 35 ∨ c ∈ memL) (hl : s.l.length ≤ 96) :
    ∃ kf caps, v2 = .func (.func kf) #[] caps ∧ (∀ (args : Array Value) (W : World), (callFunc kf args).run Tryz.prog W = .ok (.enter kf args) W) ∧ Calls Tryz.prog kf caps w (Post K z s w (readO c n) byteV (fun v => v < 256) 3) := by
  rcases ho with ⟨h0, X, h1, h2, h3⟩ | ⟨h0, X, h1, h3, _⟩ | ⟨h0, U, L, N, h1, h2, h3, h4, h5⟩ | ⟨h0, h1, h2, _, _⟩
  · refine ⟨_, _, h1, fun _ _ => rfl, (regRead c X h h0 h3).mono ?_⟩
    rintro e w' ⟨rfl, rfl⟩
    unfold readO
    rw [if_pos h0]
    exact Post.done (Ran.get (k := fun r => M.pure (regGet c r)) (Ran.pure _ _)) h (Kp.refl _ _) (regGet_lt h.ok c) (Nat.le_add_right _ _)
  · refine ⟨_, _, h1, fun _ _ => rfl, (hashRead n X hn h3).mono ?_⟩
    rintro e w' ⟨rfl, rfl⟩
    subst h0
    unfold readO
    rw [if_neg (by decide), if_pos rfl]
    exact Post.done (Ran.pure _ _) h (Kp.refl _ _) (Nat.mod_lt _ (by decide)) (Nat.le_add_right _ _)
  · refine ⟨_, _, h1, fun _ _ => rfl, ?_⟩
    unfold readO
    rw [if_neg (mem_not_reg h0).1, if_neg (mem_not_reg h0).2]
    exact memRead c n U L N h h0 hn hl h3 h4 h5
  · rcases hr with hr | hr | hr
    · exact absurd hr h0
    · exact absurd hr h1
    · exact absurd hr h2
/-- An operand that is written. -/
theorem owrite_any {c n v : Nat} {v2 v3 : Value} (h : Tk K z s w) (ho : OpAt K w c n v2 v3) (hn : n < 65536) (hv : v < 256) (hr : c ∈ regL ∨ c ∈ memL) (hl : s.l.length ≤ 96) :
    ∃ kf caps, v3 = .func (.func kf) #[] caps ∧ (∀ (args : Array Value) (W : World), (callFunc kf args).run Tryz.prog W = .ok (.enter kf args) W) ∧ Calls Tryz.prog kf (#[.int .u8 (v : Nat)] ++ caps) w (Post K z s w (writeO c n v) unitV (fun _ => True) 3) := by
  rcases ho with ⟨h0, X, h1, h2, h3⟩ | ⟨h0, X, h1, h3, _⟩ | ⟨h0, U, L, N, h1, h2, h3, h4, h5⟩ | ⟨h0, h1, h2, _, _⟩
  · refine ⟨_, _, h2, fun _ _ => rfl, (regWrite c X v h h0 hv h3).mono ?_⟩
    rintro e w' ⟨rfl, t, k⟩
    unfold writeO
    rw [if_pos h0]
    exact Post.done (V := unitV) (b := ()) (Ran.set (regSet c v) s) t k trivial (Nat.le_add_right _ _)
  · subst h0
    rcases hr with hr | hr
    · exact absurd hr (by decide)
    · exact absurd hr (by decide)
  · refine ⟨_, _, h2, fun _ _ => rfl, ?_⟩
    unfold writeO
    rw [if_neg (mem_not_reg h0).1]
    exact memWrite c n v U L N h h0 hn hv hl h3 h4 h5
  · rcases hr with hr | hr
    · exact absurd hr h0
    · exact absurd hr h2
end
end Go.Proofs.YtknlbmjncginnaaGreatDoor
