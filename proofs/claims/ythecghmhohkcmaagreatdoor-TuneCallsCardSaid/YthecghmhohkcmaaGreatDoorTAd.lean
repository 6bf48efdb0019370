/-
  Where the byte of an operand stands, letter by letter (gentad.py writes this text).
-/
import Derived.Test.YthecghmhohkcmaaGreatDoorTSum
import Derived.Deep.RegionHeld2
namespace Go.Proofs.YthecghmhohkcmaaGreatDoor
open Go.RowKit Go.Shelf
set_option maxRecDepth 100000
set_option maxHeartbeats 1000000
set_option linter.unusedVariables false

def addressM (c n : Nat) : M Nat :=
  match c with
  | 100 => M.get fun r => M.pure (placeR r (n % 256))
  | 98 => M.get fun r => M.pure (placeR r (n % 256))
  | 120 => M.get fun r => M.pure (placeR r ((n + r.X) % 256))
  | 121 => M.get fun r => M.pure (placeR r ((n + r.Y) % 256))
  | 105 => M.get fun r => M.pure (placeR r r.X)
  | 106 => M.get fun r => M.pure (placeR r r.Y)
  | 43 => M.bind (M.set fun r => { r with X := (r.X + 1) % 256 }) fun _ => M.get fun r => M.pure (placeR r ((r.X + 255) % 256))
  | 112 => M.get fun r => M.pure ((n + r.X) % 65536)
  | 113 => M.get fun r => M.pure ((n + r.Y) % 65536)
  | 108 => M.get fun r => wordInPageM ((n + r.X) % 256)
  | 109 => M.bind (wordInPageM (n % 256)) fun v => M.get fun r => M.pure ((v + r.Y) % 65536)
  | 110 => M.pure (n % 8192)
  | 47 => M.pure (n % 8192)
  | _ => M.pure n
section
variable {K : Cx} {z : Zs} {s : Ts} {w : World}
/-- What a letter's address comes to. -/
def AdP (K : Cx) (z : Zs) (s : Ts) (w : World) (c n : Nat) : Prop := Calls Tryz.prog 110 #[.pointer (some ⟨K.b, 0, none⟩), .int .u8 (c : Nat), .int .u16 (n : Nat)] w (Post K z s w (addressM c n) wordV (fun v => v < 65536) 2)
theorem address_100 (n : Nat) (h : Tk K z s w) (hn : n < 65536) (hl : s.l.length ≤ 98) : AdP K z s w 100 n := by
  obtain ⟨⟨rA, rX, rY, rS, rP, rPc, rH⟩, l, q⟩ := s
  have c1 := h.look.1.2.1
  have c2 := h.look.1.2.2.1
  have hX := h.ok.X
  have hY := h.ok.Y
  dsimp only at c1 c2 hX hY
  have e0 : IntKind.u8.wrap (n : Int) = ((n % 256 : Nat) : Int) := by simp only [IntKind.wrap_u8]; omega
  have hb : n % 256 < 256 := Nat.mod_lt _ (by decide)
  have hv : n % 256 < 256 := by omega
  have P1 := place_any (n % 256) h hv
  have hp := placeR_lt ⟨rA, rX, rY, rS, rP, rPc, rH⟩ (n % 256) hv
  dsimp only at P1 hp
  unfold AdP
  obtain ⟨Q, hQ, F⟩ := post_name (Post K z ⟨⟨rA, rX, rY, rS, rP, rPc, rH⟩, l, q⟩ w (addressM 100 n) wordV (fun v => v < 65536) 2)
  rw [hQ]
  have hfin := Lib.hid fun (W : World) (hW : W = w) => (by rw [hW]; exact F (.returned (wordV (placeR ⟨rA, rX, rY, rS, rP, rPc, rH⟩ (n % 256)))) w (Post.done (Ran.get (k := fun r => M.pure (placeR r (n % 256))) (Ran.pure _ _)) h (Kp.refl _ _) hp (Nat.le_add_right _ 2)) : Q (.returned (wordV (placeR ⟨rA, rX, rY, rS, rP, rPc, rH⟩ (n % 256)))) W)
  clear h hQ F hp hl
  generalize placeR ⟨rA, rX, rY, rS, rP, rPc, rH⟩ (n % 256) = x at *
  generalize n % 256 = y at *
  replace P1 := Lib.hid P1
  unfold wordV at hfin
  clear hn hX hY hb hv
  simp only [show ((100 : Nat) : Int) = 100 from rfl]
  go_enter Tryz.func110, Tryz.ntmps110
  go_wp2_with fail
  with_reducible refine P1.out.mono ?_
  rintro e w1 ⟨rfl, hw⟩
  have hf := hfin.out w1 hw
  replace hf := Lib.hid hf
  clear P1 hfin hw
  go_wp2_with fail
  exact hf.out
theorem address_98 (n : Nat) (h : Tk K z s w) (hn : n < 65536) (hl : s.l.length ≤ 98) : AdP K z s w 98 n := by
  obtain ⟨⟨rA, rX, rY, rS, rP, rPc, rH⟩, l, q⟩ := s
  have c1 := h.look.1.2.1
  have c2 := h.look.1.2.2.1
  have hX := h.ok.X
  have hY := h.ok.Y
  dsimp only at c1 c2 hX hY
  have e0 : IntKind.u8.wrap (n : Int) = ((n % 256 : Nat) : Int) := by simp only [IntKind.wrap_u8]; omega
  have hb : n % 256 < 256 := Nat.mod_lt _ (by decide)
  have hv : n % 256 < 256 := by omega
  have P1 := place_any (n % 256) h hv
  have hp := placeR_lt ⟨rA, rX, rY, rS, rP, rPc, rH⟩ (n % 256) hv
  dsimp only at P1 hp
  unfold AdP
  obtain ⟨Q, hQ, F⟩ := post_name (Post K z ⟨⟨rA, rX, rY, rS, rP, rPc, rH⟩, l, q⟩ w (addressM 98 n) wordV (fun v => v < 65536) 2)
  rw [hQ]
  have hfin := Lib.hid fun (W : World) (hW : W = w) => (by rw [hW]; exact F (.returned (wordV (placeR ⟨rA, rX, rY, rS, rP, rPc, rH⟩ (n % 256)))) w (Post.done (Ran.get (k := fun r => M.pure (placeR r (n % 256))) (Ran.pure _ _)) h (Kp.refl _ _) hp (Nat.le_add_right _ 2)) : Q (.returned (wordV (placeR ⟨rA, rX, rY, rS, rP, rPc, rH⟩ (n % 256)))) W)
  clear h hQ F hp hl
  generalize placeR ⟨rA, rX, rY, rS, rP, rPc, rH⟩ (n % 256) = x at *
  generalize n % 256 = y at *
  replace P1 := Lib.hid P1
  unfold wordV at hfin
  clear hn hX hY hb hv
  simp only [show ((98 : Nat) : Int) = 98 from rfl]
  go_enter Tryz.func110, Tryz.ntmps110
  go_wp2_with fail
  with_reducible refine P1.out.mono ?_
  rintro e w1 ⟨rfl, hw⟩
  have hf := hfin.out w1 hw
  replace hf := Lib.hid hf
  clear P1 hfin hw
  go_wp2_with fail
  exact hf.out
theorem address_120 (n : Nat) (h : Tk K z s w) (hn : n < 65536) (hl : s.l.length ≤ 98) : AdP K z s w 120 n := by
  obtain ⟨⟨rA, rX, rY, rS, rP, rPc, rH⟩, l, q⟩ := s
  have c1 := h.look.1.2.1
  have c2 := h.look.1.2.2.1
  have hX := h.ok.X
  have hY := h.ok.Y
  dsimp only at c1 c2 hX hY
  have e0 : IntKind.u8.wrap (n : Int) = ((n % 256 : Nat) : Int) := by simp only [IntKind.wrap_u8]; omega
  have hb : n % 256 < 256 := Nat.mod_lt _ (by decide)
  have e1 : ((n : Int) + (rX : Int)) % 256 = (((n + rX) % 256 : Nat) : Int) := by omega
  have hv : (n + rX) % 256 < 256 := by omega
  have P1 := place_any ((n + rX) % 256) h hv
  have hp := placeR_lt ⟨rA, rX, rY, rS, rP, rPc, rH⟩ ((n + rX) % 256) hv
  dsimp only at P1 hp
  unfold AdP
  obtain ⟨Q, hQ, F⟩ := post_name (Post K z ⟨⟨rA, rX, rY, rS, rP, rPc, rH⟩, l, q⟩ w (addressM 120 n) wordV (fun v => v < 65536) 2)
  rw [hQ]
  have hfin := Lib.hid fun (W : World) (hW : W = w) => (by rw [hW]; exact F (.returned (wordV (placeR ⟨rA, rX, rY, rS, rP, rPc, rH⟩ ((n + rX) % 256)))) w (Post.done (Ran.get (k := fun r => M.pure (placeR r ((n + r.X) % 256))) (Ran.pure _ _)) h (Kp.refl _ _) hp (Nat.le_add_right _ 2)) : Q (.returned (wordV (placeR ⟨rA, rX, rY, rS, rP, rPc, rH⟩ ((n + rX) % 256)))) W)
  clear h hQ F hp hl
  generalize placeR ⟨rA, rX, rY, rS, rP, rPc, rH⟩ ((n + rX) % 256) = x at *
  generalize (n + rX) % 256 = y at *
  replace P1 := Lib.hid P1
  unfold wordV at hfin
  clear hn hX hY hb hv
  simp only [show ((120 : Nat) : Int) = 120 from rfl]
  go_enter Tryz.func110, Tryz.ntmps110
  go_wp2_with fail
  with_reducible refine P1.out.mono ?_
  rintro e w1 ⟨rfl, hw⟩
  have hf := hfin.out w1 hw
  replace hf := Lib.hid hf
  clear P1 hfin hw
  go_wp2_with fail
  exact hf.out
theorem address_121 (n : Nat) (h : Tk K z s w) (hn : n < 65536) (hl : s.l.length ≤ 98) : AdP K z s w 121 n := by
  obtain ⟨⟨rA, rX, rY, rS, rP, rPc, rH⟩, l, q⟩ := s
  have c1 := h.look.1.2.1
  have c2 := h.look.1.2.2.1
  have hX := h.ok.X
  have hY := h.ok.Y
  dsimp only at c1 c2 hX hY
  have e0 : IntKind.u8.wrap (n : Int) = ((n % 256 : Nat) : Int) := by simp only [IntKind.wrap_u8]; omega
  have hb : n % 256 < 256 := Nat.mod_lt _ (by decide)
  have e1 : ((n : Int) + (rY : Int)) % 256 = (((n + rY) % 256 : Nat) : Int) := by omega
  have hv : (n + rY) % 256 < 256 := by omega
  have P1 := place_any ((n + rY) % 256) h hv
  have hp := placeR_lt ⟨rA, rX, rY, rS, rP, rPc, rH⟩ ((n + rY) % 256) hv
  dsimp only at P1 hp
  unfold AdP
  obtain ⟨Q, hQ, F⟩ := post_name (Post K z ⟨⟨rA, rX, rY, rS, rP, rPc, rH⟩, l, q⟩ w (addressM 121 n) wordV (fun v => v < 65536) 2)
  rw [hQ]
  have hfin := Lib.hid fun (W : World) (hW : W = w) => (by rw [hW]; exact F (.returned (wordV (placeR ⟨rA, rX, rY, rS, rP, rPc, rH⟩ ((n + rY) % 256)))) w (Post.done (Ran.get (k := fun r => M.pure (placeR r ((n + r.Y) % 256))) (Ran.pure _ _)) h (Kp.refl _ _) hp (Nat.le_add_right _ 2)) : Q (.returned (wordV (placeR ⟨rA, rX, rY, rS, rP, rPc, rH⟩ ((n + rY) % 256)))) W)
  clear h hQ F hp hl
  generalize placeR ⟨rA, rX, rY, rS, rP, rPc, rH⟩ ((n + rY) % 256) = x at *
  generalize (n + rY) % 256 = y at *
  replace P1 := Lib.hid P1
  unfold wordV at hfin
  clear hn hX hY hb hv
  simp only [show ((121 : Nat) : Int) = 121 from rfl]
  go_enter Tryz.func110, Tryz.ntmps110
  go_wp2_with fail
  with_reducible refine P1.out.mono ?_
  rintro e w1 ⟨rfl, hw⟩
  have hf := hfin.out w1 hw
  replace hf := Lib.hid hf
  clear P1 hfin hw
  go_wp2_with fail
  exact hf.out
theorem address_105 (n : Nat) (h : Tk K z s w) (hn : n < 65536) (hl : s.l.length ≤ 98) : AdP K z s w 105 n := by
  obtain ⟨⟨rA, rX, rY, rS, rP, rPc, rH⟩, l, q⟩ := s
  have c1 := h.look.1.2.1
  have c2 := h.look.1.2.2.1
  have hX := h.ok.X
  have hY := h.ok.Y
  dsimp only at c1 c2 hX hY
  have e0 : IntKind.u8.wrap (n : Int) = ((n % 256 : Nat) : Int) := by simp only [IntKind.wrap_u8]; omega
  have hb : n % 256 < 256 := Nat.mod_lt _ (by decide)
  have hv : rX < 256 := by omega
  have P1 := place_any (rX) h hv
  have hp := placeR_lt ⟨rA, rX, rY, rS, rP, rPc, rH⟩ (rX) hv
  dsimp only at P1 hp
  unfold AdP
  obtain ⟨Q, hQ, F⟩ := post_name (Post K z ⟨⟨rA, rX, rY, rS, rP, rPc, rH⟩, l, q⟩ w (addressM 105 n) wordV (fun v => v < 65536) 2)
  rw [hQ]
  have hfin := Lib.hid fun (W : World) (hW : W = w) => (by rw [hW]; exact F (.returned (wordV (placeR ⟨rA, rX, rY, rS, rP, rPc, rH⟩ (rX)))) w (Post.done (Ran.get (k := fun r => M.pure (placeR r r.X)) (Ran.pure _ _)) h (Kp.refl _ _) hp (Nat.le_add_right _ 2)) : Q (.returned (wordV (placeR ⟨rA, rX, rY, rS, rP, rPc, rH⟩ (rX)))) W)
  clear h hQ F hp hl
  generalize placeR ⟨rA, rX, rY, rS, rP, rPc, rH⟩ (rX) = x at *
  replace P1 := Lib.hid P1
  unfold wordV at hfin
  clear hn hX hY hb hv
  simp only [show ((105 : Nat) : Int) = 105 from rfl]
  go_enter Tryz.func110, Tryz.ntmps110
  go_wp2_with fail
  with_reducible refine P1.out.mono ?_
  rintro e w1 ⟨rfl, hw⟩
  have hf := hfin.out w1 hw
  replace hf := Lib.hid hf
  clear P1 hfin hw
  go_wp2_with fail
  exact hf.out
theorem address_106 (n : Nat) (h : Tk K z s w) (hn : n < 65536) (hl : s.l.length ≤ 98) : AdP K z s w 106 n := by
  obtain ⟨⟨rA, rX, rY, rS, rP, rPc, rH⟩, l, q⟩ := s
  have c1 := h.look.1.2.1
  have c2 := h.look.1.2.2.1
  have hX := h.ok.X
  have hY := h.ok.Y
  dsimp only at c1 c2 hX hY
  have e0 : IntKind.u8.wrap (n : Int) = ((n % 256 : Nat) : Int) := by simp only [IntKind.wrap_u8]; omega
  have hb : n % 256 < 256 := Nat.mod_lt _ (by decide)
  have hv : rY < 256 := by omega
  have P1 := place_any (rY) h hv
  have hp := placeR_lt ⟨rA, rX, rY, rS, rP, rPc, rH⟩ (rY) hv
  dsimp only at P1 hp
  unfold AdP
  obtain ⟨Q, hQ, F⟩ := post_name (Post K z ⟨⟨rA, rX, rY, rS, rP, rPc, rH⟩, l, q⟩ w (addressM 106 n) wordV (fun v => v < 65536) 2)
  rw [hQ]
  have hfin := Lib.hid fun (W : World) (hW : W = w) => (by rw [hW]; exact F (.returned (wordV (placeR ⟨rA, rX, rY, rS, rP, rPc, rH⟩ (rY)))) w (Post.done (Ran.get (k := fun r => M.pure (placeR r r.Y)) (Ran.pure _ _)) h (Kp.refl _ _) hp (Nat.le_add_right _ 2)) : Q (.returned (wordV (placeR ⟨rA, rX, rY, rS, rP, rPc, rH⟩ (rY)))) W)
  clear h hQ F hp hl
  generalize placeR ⟨rA, rX, rY, rS, rP, rPc, rH⟩ (rY) = x at *
  replace P1 := Lib.hid P1
  unfold wordV at hfin
  clear hn hX hY hb hv
  simp only [show ((106 : Nat) : Int) = 106 from rfl]
  go_enter Tryz.func110, Tryz.ntmps110
  go_wp2_with fail
  with_reducible refine P1.out.mono ?_
  rintro e w1 ⟨rfl, hw⟩
  have hf := hfin.out w1 hw
  replace hf := Lib.hid hf
  clear P1 hfin hw
  go_wp2_with fail
  exact hf.out
theorem address_112 (n : Nat) (h : Tk K z s w) (hn : n < 65536) (hl : s.l.length ≤ 98) : AdP K z s w 112 n := by
  obtain ⟨⟨rA, rX, rY, rS, rP, rPc, rH⟩, l, q⟩ := s
  have c1 := h.look.1.2.1
  have c2 := h.look.1.2.2.1
  have hX := h.ok.X
  have hY := h.ok.Y
  dsimp only at c1 c2 hX hY
  have eX : IntKind.u16.wrap (rX : Int) = (rX : Int) := by simp only [IntKind.wrap_u16]; omega
  have eY : IntKind.u16.wrap (rY : Int) = (rY : Int) := by simp only [IntKind.wrap_u16]; omega
  have hv : (n + rX) % 65536 < 65536 := by omega
  have e1 : IntKind.u16.wrap ((n : Int) + (rX : Int)) = (((n + rX) % 65536 : Nat) : Int) := by simp only [IntKind.wrap_u16]; omega
  unfold AdP
  obtain ⟨Q, hQ, F⟩ := post_name (Post K z ⟨⟨rA, rX, rY, rS, rP, rPc, rH⟩, l, q⟩ w (addressM 112 n) wordV (fun v => v < 65536) 2)
  rw [hQ]
  have hfin := Lib.hid (F (.returned (wordV ((n + rX) % 65536))) w (Post.done (Ran.get (k := fun r => M.pure ((n + r.X) % 65536)) (Ran.pure _ _)) h (Kp.refl _ _) hv (Nat.le_add_right _ 2)))
  clear h hQ F hl
  generalize (n + rX) % 65536 = x at *
  unfold wordV at hfin
  clear hn hv
  simp only [show ((112 : Nat) : Int) = 112 from rfl]
  go_enter Tryz.func110, Tryz.ntmps110
  go_wp2_with fail
  exact hfin.out
theorem address_113 (n : Nat) (h : Tk K z s w) (hn : n < 65536) (hl : s.l.length ≤ 98) : AdP K z s w 113 n := by
  obtain ⟨⟨rA, rX, rY, rS, rP, rPc, rH⟩, l, q⟩ := s
  have c1 := h.look.1.2.1
  have c2 := h.look.1.2.2.1
  have hX := h.ok.X
  have hY := h.ok.Y
  dsimp only at c1 c2 hX hY
  have eX : IntKind.u16.wrap (rX : Int) = (rX : Int) := by simp only [IntKind.wrap_u16]; omega
  have eY : IntKind.u16.wrap (rY : Int) = (rY : Int) := by simp only [IntKind.wrap_u16]; omega
  have hv : (n + rY) % 65536 < 65536 := by omega
  have e1 : IntKind.u16.wrap ((n : Int) + (rY : Int)) = (((n + rY) % 65536 : Nat) : Int) := by simp only [IntKind.wrap_u16]; omega
  unfold AdP
  obtain ⟨Q, hQ, F⟩ := post_name (Post K z ⟨⟨rA, rX, rY, rS, rP, rPc, rH⟩, l, q⟩ w (addressM 113 n) wordV (fun v => v < 65536) 2)
  rw [hQ]
  have hfin := Lib.hid (F (.returned (wordV ((n + rY) % 65536))) w (Post.done (Ran.get (k := fun r => M.pure ((n + r.Y) % 65536)) (Ran.pure _ _)) h (Kp.refl _ _) hv (Nat.le_add_right _ 2)))
  clear h hQ F hl
  generalize (n + rY) % 65536 = x at *
  unfold wordV at hfin
  clear hn hv
  simp only [show ((113 : Nat) : Int) = 113 from rfl]
  go_enter Tryz.func110, Tryz.ntmps110
  go_wp2_with fail
  exact hfin.out
theorem address_110 (n : Nat) (h : Tk K z s w) (hn : n < 65536) (hl : s.l.length ≤ 98) : AdP K z s w 110 n := by
  obtain ⟨⟨rA, rX, rY, rS, rP, rPc, rH⟩, l, q⟩ := s
  have c1 := h.look.1.2.1
  have c2 := h.look.1.2.2.1
  have hX := h.ok.X
  have hY := h.ok.Y
  dsimp only at c1 c2 hX hY
  have eX : IntKind.u16.wrap (rX : Int) = (rX : Int) := by simp only [IntKind.wrap_u16]; omega
  have eY : IntKind.u16.wrap (rY : Int) = (rY : Int) := by simp only [IntKind.wrap_u16]; omega
  have hv : n % 8192 < 65536 := by omega
  have e1 : bits .and .u16 (n : Int) 8191 = ((n % 8192 : Nat) : Int) := (u16_and_nat n 8191 hn (by decide)).trans (by rw [show (8191 : Nat) = 2 ^ 13 - 1 from rfl, Nat.and_two_pow_sub_one_eq_mod])
  unfold AdP
  obtain ⟨Q, hQ, F⟩ := post_name (Post K z ⟨⟨rA, rX, rY, rS, rP, rPc, rH⟩, l, q⟩ w (addressM 110 n) wordV (fun v => v < 65536) 2)
  rw [hQ]
  have hfin := Lib.hid (F (.returned (wordV (n % 8192))) w (Post.done (Ran.pure _ _) h (Kp.refl _ _) hv (Nat.le_add_right _ 2)))
  clear h hQ F hl
  generalize n % 8192 = x at *
  unfold wordV at hfin
  clear hn hv
  simp only [show ((110 : Nat) : Int) = 110 from rfl]
  go_enter Tryz.func110, Tryz.ntmps110
  go_wp2_with fail
  exact hfin.out
theorem address_47 (n : Nat) (h : Tk K z s w) (hn : n < 65536) (hl : s.l.length ≤ 98) : AdP K z s w 47 n := by
  obtain ⟨⟨rA, rX, rY, rS, rP, rPc, rH⟩, l, q⟩ := s
  have c1 := h.look.1.2.1
  have c2 := h.look.1.2.2.1
  have hX := h.ok.X
  have hY := h.ok.Y
  dsimp only at c1 c2 hX hY
  have eX : IntKind.u16.wrap (rX : Int) = (rX : Int) := by simp only [IntKind.wrap_u16]; omega
  have eY : IntKind.u16.wrap (rY : Int) = (rY : Int) := by simp only [IntKind.wrap_u16]; omega
  have hv : n % 8192 < 65536 := by omega
  have e1 : bits .and .u16 (n : Int) 8191 = ((n % 8192 : Nat) : Int) := (u16_and_nat n 8191 hn (by decide)).trans (by rw [show (8191 : Nat) = 2 ^ 13 - 1 from rfl, Nat.and_two_pow_sub_one_eq_mod])
  unfold AdP
  obtain ⟨Q, hQ, F⟩ := post_name (Post K z ⟨⟨rA, rX, rY, rS, rP, rPc, rH⟩, l, q⟩ w (addressM 47 n) wordV (fun v => v < 65536) 2)
  rw [hQ]
  have hfin := Lib.hid (F (.returned (wordV (n % 8192))) w (Post.done (Ran.pure _ _) h (Kp.refl _ _) hv (Nat.le_add_right _ 2)))
  clear h hQ F hl
  generalize n % 8192 = x at *
  unfold wordV at hfin
  clear hn hv
  simp only [show ((47 : Nat) : Int) = 47 from rfl]
  go_enter Tryz.func110, Tryz.ntmps110
  go_wp2_with fail
  exact hfin.out
theorem address_97 (n : Nat) (h : Tk K z s w) (hn : n < 65536) (hl : s.l.length ≤ 98) : AdP K z s w 97 n := by
  obtain ⟨⟨rA, rX, rY, rS, rP, rPc, rH⟩, l, q⟩ := s
  have c1 := h.look.1.2.1
  have c2 := h.look.1.2.2.1
  have hX := h.ok.X
  have hY := h.ok.Y
  dsimp only at c1 c2 hX hY
  have eX : IntKind.u16.wrap (rX : Int) = (rX : Int) := by simp only [IntKind.wrap_u16]; omega
  have eY : IntKind.u16.wrap (rY : Int) = (rY : Int) := by simp only [IntKind.wrap_u16]; omega
  have hv : n < 65536 := by omega
  unfold AdP
  obtain ⟨Q, hQ, F⟩ := post_name (Post K z ⟨⟨rA, rX, rY, rS, rP, rPc, rH⟩, l, q⟩ w (addressM 97 n) wordV (fun v => v < 65536) 2)
  rw [hQ]
  have hfin := Lib.hid (F (.returned (wordV (n))) w (Post.done (Ran.pure _ _) h (Kp.refl _ _) hv (Nat.le_add_right _ 2)))
  clear h hQ F hl
  unfold wordV at hfin
  clear hn hv
  simp only [show ((97 : Nat) : Int) = 97 from rfl]
  go_enter Tryz.func110, Tryz.ntmps110
  go_wp2_with fail
  exact hfin.out
theorem address_43 (n : Nat) (h : Tk K z s w) (hn : n < 65536) (hl : s.l.length ≤ 98) : AdP K z s w 43 n := by
  obtain ⟨⟨rA, rX, rY, rS, rP, rPc, rH⟩, l, q⟩ := s
  have c1 := h.look.1.2.1
  have f1 := h.look.2.2 1
  have hX := h.ok.X
  dsimp only at c1 hX
  have e0 : IntKind.u8.wrap (rX + 1 : Int) = (((rX + 1) % 256 : Nat) : Int) := by simp only [IntKind.wrap_u8]; omega
  have hx1 : (rX + 1) % 256 < 256 := Nat.mod_lt _ (by decide)
  have e1 : IntKind.u8.wrap ((((rX + 1) % 256 : Nat) : Int) - 1) = ((((rX + 1) % 256 + 255) % 256 : Nat) : Int) := by simp only [IntKind.wrap_u8]; omega
  have t1 := h.toX ((rX + 1) % 256) hx1
  have d1 := t1.look.1.2.1
  have hv : ((rX + 1) % 256 + 255) % 256 < 256 := by omega
  have P1 := place_any (((rX + 1) % 256 + 255) % 256) t1 hv
  have hp := placeR_lt ⟨rA, (rX + 1) % 256, rY, rS, rP, rPc, rH⟩ (((rX + 1) % 256 + 255) % 256) hv
  dsimp only at P1 hp d1 t1
  unfold AdP
  obtain ⟨Q, hQ, F⟩ := post_name (Post K z ⟨⟨rA, rX, rY, rS, rP, rPc, rH⟩, l, q⟩ w (addressM 43 n) wordV (fun v => v < 65536) 2)
  rw [hQ]
  have hfin := Lib.hid fun (W : World) (hW : W = w.setCell ⟨K.b, 1, none⟩ (.int .u8 (((rX + 1) % 256 : Nat) : Int))) => (by rw [hW]; exact F (.returned (wordV (placeR ⟨rA, (rX + 1) % 256, rY, rS, rP, rPc, rH⟩ (((rX + 1) % 256 + 255) % 256)))) _ (Post.done ((Ran.set (fun r => { r with X := (r.X + 1) % 256 }) ⟨⟨rA, rX, rY, rS, rP, rPc, rH⟩, l, q⟩).bind (k := fun _ => M.get fun r => M.pure (placeR r ((r.X + 255) % 256))) (Ran.get (k := fun r => M.pure (placeR r ((r.X + 255) % 256))) (Ran.pure _ _))) t1 ((Kp.refl _ _).set 1 _) hp (Nat.le_add_right _ 2)) : Q (.returned (wordV (placeR ⟨rA, (rX + 1) % 256, rY, rS, rP, rPc, rH⟩ (((rX + 1) % 256 + 255) % 256)))) W)
  clear h hQ F hp hl t1
  generalize placeR ⟨rA, (rX + 1) % 256, rY, rS, rP, rPc, rH⟩ (((rX + 1) % 256 + 255) % 256) = x at *
  generalize ((rX + 1) % 256 + 255) % 256 = y at *
  generalize (rX + 1) % 256 = y1 at *
  replace P1 := Lib.hid P1
  unfold wordV at hfin
  clear hn hX hx1 hv
  simp only [show ((43 : Nat) : Int) = 43 from rfl]
  go_enter Tryz.func110, Tryz.ntmps110
  go_wp2_with fail
  with_reducible refine P1.out.mono ?_
  rintro e w1 ⟨rfl, hw⟩
  have hf := hfin.out w1 hw
  replace hf := Lib.hid hf
  clear P1 hfin hw
  go_wp2_with fail
  exact hf.out
theorem address_108 (n : Nat) (h : Tk K z s w) (hn : n < 65536) (hl : s.l.length ≤ 98) : AdP K z s w 108 n := by
  obtain ⟨⟨rA, rX, rY, rS, rP, rPc, rH⟩, l, q⟩ := s
  have c1 := h.look.1.2.1
  have hX := h.ok.X
  dsimp only at c1 hX
  have e1 : ((n : Int) + (rX : Int)) % 256 = (((n + rX) % 256 : Nat) : Int) := by omega
  have P1 := wordInPage_any ((n + rX) % 256) h (Nat.mod_lt _ (by decide)) hl
  unfold AdP
  obtain ⟨Q, hQ, F⟩ := post_name (Post K z ⟨⟨rA, rX, rY, rS, rP, rPc, rH⟩, l, q⟩ w (addressM 108 n) wordV (fun v => v < 65536) 2)
  rw [hQ]
  replace F : ∀ e w', Post K z ⟨⟨rA, rX, rY, rS, rP, rPc, rH⟩, l, q⟩ w (wordInPageM ((n + rX) % 256)) wordV (fun v => v < 65536) 2 e w' → Q e w' := fun e w' hp => F e w' (Post.get (k := fun r => wordInPageM ((n + r.X) % 256)) hp)
  replace F := Lib.hid F
  replace P1 := Lib.hid P1
  clear h hQ hl
  generalize (n + rX) % 256 = y at *
  clear hn hX
  simp only [show ((108 : Nat) : Int) = 108 from rfl]
  go_enter Tryz.func110, Tryz.ntmps110
  go_wp2_with fail
  with_reducible refine P1.out.mono ?_
  intro e w1 hp
  have hfin := Lib.hid (F.out _ _ hp)
  obtain ⟨s1, _, _, _, (⟨v, _, _, rfl⟩ | ⟨_, rfl⟩)⟩ := hp
  · clear P1 F
    unfold wordV at hfin ⊢
    go_wp2_with fail
    exact hfin.out
  · clear P1 F
    unfold lackE at hfin ⊢
    go_wp2_with fail
    first | exact hfin.out | exact ⟨rfl, hfin.out⟩
theorem address_109 (n : Nat) (h : Tk K z s w) (hn : n < 65536) (hl : s.l.length ≤ 98) : AdP K z s w 109 n := by
  have c2 := h.look.1.2.2.1
  have e0 : IntKind.u8.wrap (n : Int) = ((n % 256 : Nat) : Int) := by simp only [IntKind.wrap_u8]; omega
  have P1 := Lib.hid (wordInPage_any (n % 256) h.drew (Nat.mod_lt _ (by decide)) hl)
  have hY := h.ok.Y
  have eY : IntKind.u16.wrap (s.r.Y : Int) = (s.r.Y : Int) := by simp only [IntKind.wrap_u16]; omega
  unfold AdP
  obtain ⟨Q, hQ, F⟩ := post_name (Post K z s w (addressM 109 n) wordV (fun v => v < 65536) 2)
  rw [hQ]
  have kd := Lib.hid ((Kp.refl K w).drew)
  replace F : ∀ e w', Post K z s w (M.bind (wordInPageM (n % 256)) fun v => M.get fun r => M.pure ((v + r.Y) % 65536)) wordV (fun v => v < 65536) 2 e w' → Q e w' := F
  replace F := Lib.hid F
  clear h hQ hl hn
  generalize n % 256 = b at *
  simp only [show ((109 : Nat) : Int) = 109 from rfl]
  go_enter Tryz.func110, Tryz.ntmps110
  go_upto_region 24 with (fail)
  go_region_held2 (fun W => W.cell? ⟨K.b, 2, none⟩ = some (.int .u8 (s.r.Y : Nat))) (first | assumption | exact c2) (first
    | (go_at_call 146; (with_reducible refine P1.out.mono ?_); rintro e w1 ⟨s1, t1, k1, l1, (⟨v, r1, hv, rfl⟩ | ⟨g1, rfl⟩)⟩; rotate_left; (have hf := Lib.hid (F.out lackE _ (Post.gave g1 t1 (kd.out.trans k1) l1)); unfold lackE at hf ⊢; go_wp2_with fail; first | exact hf.out | exact ⟨rfl, hf.out⟩); have d2 : w1.cell? ⟨K.b, 2, none⟩ = some (.int .u8 (s.r.Y : Nat)) := (by rw [← Still.wordInPage b s v s1 r1]; exact t1.look.1.2.2.1); have hh := Lib.hid (And.intro r1 (And.intro t1 (And.intro k1 (And.intro l1 hv)))); unfold wordV))
  all_goals
    obtain ⟨r1, t1, k1, l1, hv⟩ := hh.out
    have eA : IntKind.u16.wrap ((v : Int) + (s.r.Y : Int)) = (((v + s.r.Y) % 65536 : Nat) : Int) := by simp only [IntKind.wrap_u16]; omega
    have hf := F.out (.returned (wordV ((v + s.r.Y) % 65536))) w1 (Post.done (r1.bind (Ran.get (k := fun r => M.pure ((v + r.Y) % 65536)) (by rw [Still.wordInPage b s v s1 r1]; exact Ran.pure _ _))) t1 (kd.out.trans k1) (Nat.mod_lt _ (by decide)) l1)
    unfold wordV at hf
    rw [← eA] at hf
    replace hf := Lib.hid hf
    clear hh r1 t1 k1 l1 hv eA
    go_wp2_with fail
    exact hf.out
end
end Go.Proofs.YthecghmhohkcmaaGreatDoor
