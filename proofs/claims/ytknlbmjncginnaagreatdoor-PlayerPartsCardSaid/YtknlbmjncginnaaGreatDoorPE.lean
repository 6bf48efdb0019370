/-
  Bits of operands.
-/
import Derived.Test.YtknlbmjncginnaaGreatDoorPD
import Derived.StillTailTactics
namespace Go.Proofs.YtknlbmjncginnaaGreatDoor
open Go.RowKit Go.Shelf
set_option maxRecDepth 100000
set_option maxHeartbeats 1000000
set_option linter.unusedVariables false

/-- The bit that an operand means in its byte. -/
def bitV (c cd n : Nat) : Nat := if cd = 98 then 2 ^ (c / 32) else 2 ^ (n / 8192)
theorem bitV_lt (c cd n : Nat) (hc : c < 256) (hn : n < 65536) : bitV c cd n < 256 := by
  unfold bitV
  split
  · exact Nat.pow_lt_pow_right (by decide) (show c / 32 < 8 by omega)
  · exact Nat.pow_lt_pow_right (by decide) (show n / 8192 < 8 by omega)
section
variable {K : Cx} {z : Zs} {s : Ts} {w w' : World} {c cd nd co no : Nat} {nm fm : ByteArray}
theorem bitOf_any (cc n : Nat) (v2 v3 : Value) (h : Tk K z s w) (h0 : z.n0 = .int .u8 (c : Nat)) (hc : c < 256) (hn : n < 65536) (hcc : cc < 256) :
    Calls Tryz.prog 199 #[.pointer (some ⟨K.b, 0, none⟩), .agg #[.int .u8 (cc : Nat), .int .u16 (n : Nat), v2, v3]] w fun e w' => e = .returned (.int .u8 (bitV c cc n : Nat)) ∧ Below w.heap.size w w' := by
  have c9 := h.lookN.1
  rw [h0] at c9
  have d9 := (h.alloc (.cells #[.int .u8 (cc : Nat), .int .u16 (n : Nat), v2, v3] 96)).lookN.1
  rw [h0] at d9
  replace d9 := Lib.hid d9
  have hX := Whole.fresh w 96 #[.int .u8 (cc : Nat), .int .u16 (n : Nat), v2, v3]
  have hB := Lib.hid ((Below.refl w.heap.size w).alloc (Nat.le_refl _) (.cells #[.int .u8 (cc : Nat), .int .u16 (n : Nat), v2, v3] 96))
  have x0 := hX.cell 0
  have x1 := hX.cell 1
  simp only [List.getElem?_toArray, List.getElem?_cons_zero, List.getElem?_cons_succ] at x0 x1
  obtain ⟨x, hx⟩ : ∃ x, bitV c cc n = x := ⟨_, rfl⟩
  rw [hx]
  unfold bitV at hx
  clear h hX h0
  by_cases hcb : cc = 98
  · subst hcb
    rw [if_pos rfl] at hx
    rcases (by omega : c / 32 = 0 ∨ c / 32 = 1 ∨ c / 32 = 2 ∨ c / 32 = 3 ∨ c / 32 = 4 ∨ c / 32 = 5 ∨ c / 32 = 6 ∨ c / 32 = 7) with hk | hk | hk | hk | hk | hk | hk | hk
    · have e1 : ((c : Nat) : Int) / 32 = 0 := by omega
      obtain rfl : x = 1 := by rw [← hx, hk]
      clear hx hk
      go_enter Tryz.func199, Tryz.ntmps199
      go_upto_region 1 with (fail)
      clear c9
      generalize w.alloc (.cells #[.int .u8 ((98 : Nat) : Int), .int .u16 (n : Nat), v2, v3] 96) = W at *
      generalize hXe : w.heap.size = X at *
      replace hXe := Lib.hid hXe
      have c9 := d9.out
      go_wp2_with fail
      go_ret
      exact ⟨rfl, by rw [hXe.out]; exact hB.out⟩
    · have e1 : ((c : Nat) : Int) / 32 = 1 := by omega
      obtain rfl : x = 2 := by rw [← hx, hk]
      clear hx hk
      go_enter Tryz.func199, Tryz.ntmps199
      go_upto_region 1 with (fail)
      clear c9
      generalize w.alloc (.cells #[.int .u8 ((98 : Nat) : Int), .int .u16 (n : Nat), v2, v3] 96) = W at *
      generalize hXe : w.heap.size = X at *
      replace hXe := Lib.hid hXe
      have c9 := d9.out
      go_wp2_with fail
      go_ret
      exact ⟨rfl, by rw [hXe.out]; exact hB.out⟩
    · have e1 : ((c : Nat) : Int) / 32 = 2 := by omega
      obtain rfl : x = 4 := by rw [← hx, hk]
      clear hx hk
      go_enter Tryz.func199, Tryz.ntmps199
      go_upto_region 1 with (fail)
      clear c9
      generalize w.alloc (.cells #[.int .u8 ((98 : Nat) : Int), .int .u16 (n : Nat), v2, v3] 96) = W at *
      generalize hXe : w.heap.size = X at *
      replace hXe := Lib.hid hXe
      have c9 := d9.out
      go_wp2_with fail
      go_ret
      exact ⟨rfl, by rw [hXe.out]; exact hB.out⟩
    · have e1 : ((c : Nat) : Int) / 32 = 3 := by omega
      obtain rfl : x = 8 := by rw [← hx, hk]
      clear hx hk
      go_enter Tryz.func199, Tryz.ntmps199
      go_upto_region 1 with (fail)
      clear c9
      generalize w.alloc (.cells #[.int .u8 ((98 : Nat) : Int), .int .u16 (n : Nat), v2, v3] 96) = W at *
      generalize hXe : w.heap.size = X at *
      replace hXe := Lib.hid hXe
      have c9 := d9.out
      go_wp2_with fail
      go_ret
      exact ⟨rfl, by rw [hXe.out]; exact hB.out⟩
    · have e1 : ((c : Nat) : Int) / 32 = 4 := by omega
      obtain rfl : x = 16 := by rw [← hx, hk]
      clear hx hk
      go_enter Tryz.func199, Tryz.ntmps199
      go_upto_region 1 with (fail)
      clear c9
      generalize w.alloc (.cells #[.int .u8 ((98 : Nat) : Int), .int .u16 (n : Nat), v2, v3] 96) = W at *
      generalize hXe : w.heap.size = X at *
      replace hXe := Lib.hid hXe
      have c9 := d9.out
      go_wp2_with fail
      go_ret
      exact ⟨rfl, by rw [hXe.out]; exact hB.out⟩
    · have e1 : ((c : Nat) : Int) / 32 = 5 := by omega
      obtain rfl : x = 32 := by rw [← hx, hk]
      clear hx hk
      go_enter Tryz.func199, Tryz.ntmps199
      go_upto_region 1 with (fail)
      clear c9
      generalize w.alloc (.cells #[.int .u8 ((98 : Nat) : Int), .int .u16 (n : Nat), v2, v3] 96) = W at *
      generalize hXe : w.heap.size = X at *
      replace hXe := Lib.hid hXe
      have c9 := d9.out
      go_wp2_with fail
      go_ret
      exact ⟨rfl, by rw [hXe.out]; exact hB.out⟩
    · have e1 : ((c : Nat) : Int) / 32 = 6 := by omega
      obtain rfl : x = 64 := by rw [← hx, hk]
      clear hx hk
      go_enter Tryz.func199, Tryz.ntmps199
      go_upto_region 1 with (fail)
      clear c9
      generalize w.alloc (.cells #[.int .u8 ((98 : Nat) : Int), .int .u16 (n : Nat), v2, v3] 96) = W at *
      generalize hXe : w.heap.size = X at *
      replace hXe := Lib.hid hXe
      have c9 := d9.out
      go_wp2_with fail
      go_ret
      exact ⟨rfl, by rw [hXe.out]; exact hB.out⟩
    · have e1 : ((c : Nat) : Int) / 32 = 7 := by omega
      obtain rfl : x = 128 := by rw [← hx, hk]
      clear hx hk
      go_enter Tryz.func199, Tryz.ntmps199
      go_upto_region 1 with (fail)
      clear c9
      generalize w.alloc (.cells #[.int .u8 ((98 : Nat) : Int), .int .u16 (n : Nat), v2, v3] 96) = W at *
      generalize hXe : w.heap.size = X at *
      replace hXe := Lib.hid hXe
      have c9 := d9.out
      go_wp2_with fail
      go_ret
      exact ⟨rfl, by rw [hXe.out]; exact hB.out⟩
  · rw [if_neg hcb] at hx
    have n1 : ((cc : Int) == 98) = false := by rw [beq_eq_false_iff_ne]; omega
    rcases (by omega : n / 8192 = 0 ∨ n / 8192 = 1 ∨ n / 8192 = 2 ∨ n / 8192 = 3 ∨ n / 8192 = 4 ∨ n / 8192 = 5 ∨ n / 8192 = 6 ∨ n / 8192 = 7) with hk | hk | hk | hk | hk | hk | hk | hk
    · have e1 : ((n : Nat) : Int) / 8192 = 0 := by omega
      obtain rfl : x = 1 := by rw [← hx, hk]
      clear hx hk
      go_enter Tryz.func199, Tryz.ntmps199
      go_upto_region 1 with (fail)
      clear c9
      generalize w.alloc (.cells #[.int .u8 (cc : Nat), .int .u16 (n : Nat), v2, v3] 96) = W at *
      generalize hXe : w.heap.size = X at *
      replace hXe := Lib.hid hXe
      have c9 := d9.out
      go_wp2_with fail
      go_ret
      exact ⟨rfl, by rw [hXe.out]; exact hB.out⟩
    · have e1 : ((n : Nat) : Int) / 8192 = 1 := by omega
      obtain rfl : x = 2 := by rw [← hx, hk]
      clear hx hk
      go_enter Tryz.func199, Tryz.ntmps199
      go_upto_region 1 with (fail)
      clear c9
      generalize w.alloc (.cells #[.int .u8 (cc : Nat), .int .u16 (n : Nat), v2, v3] 96) = W at *
      generalize hXe : w.heap.size = X at *
      replace hXe := Lib.hid hXe
      have c9 := d9.out
      go_wp2_with fail
      go_ret
      exact ⟨rfl, by rw [hXe.out]; exact hB.out⟩
    · have e1 : ((n : Nat) : Int) / 8192 = 2 := by omega
      obtain rfl : x = 4 := by rw [← hx, hk]
      clear hx hk
      go_enter Tryz.func199, Tryz.ntmps199
      go_upto_region 1 with (fail)
      clear c9
      generalize w.alloc (.cells #[.int .u8 (cc : Nat), .int .u16 (n : Nat), v2, v3] 96) = W at *
      generalize hXe : w.heap.size = X at *
      replace hXe := Lib.hid hXe
      have c9 := d9.out
      go_wp2_with fail
      go_ret
      exact ⟨rfl, by rw [hXe.out]; exact hB.out⟩
    · have e1 : ((n : Nat) : Int) / 8192 = 3 := by omega
      obtain rfl : x = 8 := by rw [← hx, hk]
      clear hx hk
      go_enter Tryz.func199, Tryz.ntmps199
      go_upto_region 1 with (fail)
      clear c9
      generalize w.alloc (.cells #[.int .u8 (cc : Nat), .int .u16 (n : Nat), v2, v3] 96) = W at *
      generalize hXe : w.heap.size = X at *
      replace hXe := Lib.hid hXe
      have c9 := d9.out
      go_wp2_with fail
      go_ret
      exact ⟨rfl, by rw [hXe.out]; exact hB.out⟩
    · have e1 : ((n : Nat) : Int) / 8192 = 4 := by omega
      obtain rfl : x = 16 := by rw [← hx, hk]
      clear hx hk
      go_enter Tryz.func199, Tryz.ntmps199
      go_upto_region 1 with (fail)
      clear c9
      generalize w.alloc (.cells #[.int .u8 (cc : Nat), .int .u16 (n : Nat), v2, v3] 96) = W at *
      generalize hXe : w.heap.size = X at *
      replace hXe := Lib.hid hXe
      have c9 := d9.out
      go_wp2_with fail
      go_ret
      exact ⟨rfl, by rw [hXe.out]; exact hB.out⟩
    · have e1 : ((n : Nat) : Int) / 8192 = 5 := by omega
      obtain rfl : x = 32 := by rw [← hx, hk]
      clear hx hk
      go_enter Tryz.func199, Tryz.ntmps199
      go_upto_region 1 with (fail)
      clear c9
      generalize w.alloc (.cells #[.int .u8 (cc : Nat), .int .u16 (n : Nat), v2, v3] 96) = W at *
      generalize hXe : w.heap.size = X at *
      replace hXe := Lib.hid hXe
      have c9 := d9.out
      go_wp2_with fail
      go_ret
      exact ⟨rfl, by rw [hXe.out]; exact hB.out⟩
    · have e1 : ((n : Nat) : Int) / 8192 = 6 := by omega
      obtain rfl : x = 64 := by rw [← hx, hk]
      clear hx hk
      go_enter Tryz.func199, Tryz.ntmps199
      go_upto_region 1 with (fail)
      clear c9
      generalize w.alloc (.cells #[.int .u8 (cc : Nat), .int .u16 (n : Nat), v2, v3] 96) = W at *
      generalize hXe : w.heap.size = X at *
      replace hXe := Lib.hid hXe
      have c9 := d9.out
      go_wp2_with fail
      go_ret
      exact ⟨rfl, by rw [hXe.out]; exact hB.out⟩
    · have e1 : ((n : Nat) : Int) / 8192 = 7 := by omega
      obtain rfl : x = 128 := by rw [← hx, hk]
      clear hx hk
      go_enter Tryz.func199, Tryz.ntmps199
      go_upto_region 1 with (fail)
      clear c9
      generalize w.alloc (.cells #[.int .u8 (cc : Nat), .int .u16 (n : Nat), v2, v3] 96) = W at *
      generalize hXe : w.heap.size = X at *
      replace hXe := Lib.hid hXe
      have c9 := d9.out
      go_wp2_with fail
      go_ret
      exact ⟨rfl, by rw [hXe.out]; exact hB.out⟩
def boolV (b : Bool) : Value := .bool b
/-- An operand's bit; turned, if the operand is. -/
def readBitM (c cc n : Nat) : M Bool := M.bind (Go.Proofs.YtknlbmjncginnaaGreatDoor.readO cc n) fun v => M.pure (hasP v (bitV c cc n) != decide (cc = 47))
theorem readBit_any (cc n : Nat) (v2 v3 : Value) (h : Tk K z s w) (h0 : z.n0 = .int .u8 (c : Nat)) (hc : c < 256) (hn : n < 65536) (hcc : cc < 256) (ho : OpAt K w cc n v2 v3) (hr : readable cc) (hl : s.l.length ≤ 96) :
    Calls Tryz.prog 200 #[.pointer (some ⟨K.b, 0, none⟩), .agg #[.int .u8 (cc : Nat), .int .u16 (n : Nat), v2, v3]] w (Post K z s w (readBitM c cc n) boolV (fun _ => True) 3) := by
  have hA := h.alloc (.cells #[.int .u8 (cc : Nat), .int .u16 (n : Nat), v2, v3] 96)
  have hX := Whole.fresh w 96 #[.int .u8 (cc : Nat), .int .u16 (n : Nat), v2, v3]
  have hK := (Kp.refl K w).alloc (.cells #[.int .u8 (cc : Nat), .int .u16 (n : Nat), v2, v3] 96)
  have ho1 := ho.stay h hK
  obtain ⟨kf, caps, hv2, hen, HR⟩ := oread_any hA.drew (ho1.stay hA (Kp.drew (Kp.refl _ _))) hn hr hl
  have HB := fun (s1 : Ts) (W : World) (t1 : Tk K z s1 W) => bitOf_any cc n v2 v3 t1 h0 hc hn hcc
  have hbl := bitV_lt c cc n hc hn
  have hst := fun (W : World) (k1 : Kp K (w.alloc (.cells #[.int .u8 (cc : Nat), .int .u16 (n : Nat), v2, v3] 96)).drew W) => k1.stay hA.drew hX.drew
  obtain ⟨Q, hQ, F⟩ := post_name (Post K z s w (readBitM c cc n) boolV (fun _ => True) 3)
  rw [hQ]
  have kd := Lib.hid hK.drew
  have tA := Lib.hid hA.drew
  have x0 := hX.cell 0
  have x1 := hX.cell 1
  have x2 := hX.cell 2
  have x3 := hX.cell 3
  simp only [List.getElem?_toArray, List.getElem?_cons_zero, List.getElem?_cons_succ] at x0 x1 x2 x3
  subst hv2
  have t47 : ((cc : Int) == 47) = decide (cc = 47) := by by_cases e : cc = 47 <;> simp [e]; omega
  clear h hA hX hK ho ho1 hQ
  replace F := Lib.hid F
  replace hst := Lib.hid hst
  replace HB := Lib.hid HB
  replace HR := Lib.hid HR
  have hbo := Lib.hid fun (v : Nat) (hv : v < 256) => u8_and_nat v (bitV c cc n) hv hbl
  have hbn := Lib.hid fun (v : Nat) => bne_has v (bitV c cc n)
  unfold readBitM at F
  generalize bitV c cc n = bt at *
  have hlH := Lib.hid hl
  clear hl
  go_enter Tryz.func200, Tryz.ntmps200
  go_upto_region 1 with (fail)

  generalize w.alloc (.cells #[.int .u8 (cc : Nat), .int .u16 (n : Nat), .func (.func kf) #[] caps, v3] 96) = W0 at *
  generalize w.heap.size = X at *
  have hc4 := Lib.hid fun (W : World) (hW : Whole W X 96 #[.int .u8 (cc : Nat), .int .u16 (n : Nat), .func (.func kf) #[] caps, v3]) => And.intro (hW.cell 0) (And.intro (hW.cell 1) (And.intro (hW.cell 2) (hW.cell 3)))
  simp only [List.getElem?_toArray, List.getElem?_cons_zero, List.getElem?_cons_succ] at hc4
  go_region_held2 (fun W => W.cell? ⟨X, 0, none⟩ = some (.int .u8 (cc : Nat)) ∧ W.cell? ⟨X, 1, none⟩ = some (.int .u16 (n : Nat)) ∧ W.cell? ⟨X, 2, none⟩ = some (.func (.func kf) #[] caps) ∧ W.cell? ⟨X, 3, none⟩ = some v3) (first | exact ⟨x0, x1, x2, x3⟩ | exact hc4.out _ hb.out) (first
    | (go_at_call 199; (with_reducible refine (HB.out s1 _ hh.out.2.1).mono ?_); rintro e w2 ⟨rfl, b2⟩; have hb := Lib.hid (hb.out.below b2 hb.out.lt); have h2 := Lib.hid b2)
    | ((with_reducible refine HR.out.mono ?_); rintro e w1 ⟨s1, t1, k1, l1, (⟨v, r1, hv, rfl⟩ | ⟨g1, rfl⟩)⟩; rotate_left; (have hf := Lib.hid (F.out lackE _ (Post.gave g1 t1 (kd.out.trans k1) (by omega))); unfold lackE at hf ⊢; go_wp2_with fail; first | exact hf.out | exact ⟨rfl, hf.out⟩); have hb := Lib.hid (hst.out _ k1); have hh := Lib.hid (And.intro r1 (And.intro t1 (And.intro k1 (And.intro l1 hv)))); have ha := hbo.out v hv; have hn2 := hbn.out v; unfold byteV))
  all_goals
    have hf := Lib.hid (F.out (.returned (boolV (hasP v bt != decide (cc = 47)))) _ (Post.done (hh.out.1.bind (Ran.pure _ _)) (hh.out.2.1.below h2.out) ((kd.out.trans hh.out.2.2.1).trans (Kp.below h2.out)) trivial hh.out.2.2.2.1))
    unfold boolV at hf
    have y0 := (hc4.out _ hb.out).1
    clear hn2 ha hc4 hbo hbn HR HB F hst
    generalize hasP v bt = pp at *
    generalize decide (cc = 47) = qq at *
    go_wp2_with fail
    exact hf.out
end
end Go.Proofs.YtknlbmjncginnaaGreatDoor
namespace Go.Proofs.YtknlbmjncginnaaGreatDoor
open Go.RowKit Go.Shelf
set_option maxRecDepth 100000
set_option maxHeartbeats 1000000
set_option linter.unusedVariables false

section
variable {K : Cx} {z : Zs} {s : Ts} {w w' : World} {c cd nd co no : Nat} {nm fm : ByteArray}
/-- A bit made 1 or 0, or turned. -/
def bitD (k v b : Nat) : Nat := match k with | 0 => v ||| b | 1 => v &&& (255 - b) | _ => v ^^^ b
def changeBitN (k : Nat) : ByteArray := match k with | 0 => ⟨#[83, 69, 84, 49]⟩ | 1 => ⟨#[67, 76, 82, 49]⟩ | _ => ⟨#[78, 79, 84, 49]⟩
theorem bitD_lt (k v b : Nat) (hv : v < 256) (hb : b < 256) : bitD k v b < 256 := by
  unfold bitD
  split
  · exact or_lt256 _ _ hv hb
  · exact and_lt256 _ _ hv
  · exact xor_lt256 _ _ hv hb
def changeBitM (k c cd nd : Nat) : M Unit := M.bind (Go.Proofs.YtknlbmjncginnaaGreatDoor.readO cd nd) fun v => writeO cd nd (bitD k v (bitV c cd nd))
theorem changeBit0_any (h : Tk K z s w) (hz : Zd K z w c nm fm cd nd co no) (hn : z.n1 = .string (changeBitN 0)) (hrd : readable cd) (hw : writable cd) (hcd : cd < 256) (hl : s.l.length ≤ 80) :
    Calls Tryz.prog 146 #[.pointer (some ⟨K.b, 0, none⟩)] w (Post K z s w (changeBitM 0 c cd nd) unitV (fun _ => True) 12) := by
  obtain ⟨Q, hQ, F⟩ := post_name (Post K z s w (changeBitM 0 c cd nd) unitV (fun _ => True) 12)
  rw [hQ]
  clear hQ
  replace F := Lib.hid F
  unfold changeBitN at hn
  try dsimp only at hn
  have hrx := Lib.hid hrd
  have t0 := Lib.hid h
  have k0 := Lib.hid (Kp.refl K w)
  have hz0 := Lib.hid hz
  have hl0 := Lib.hid hl
  have se0 := Lib.hid (show s.l.length ≤ s.l.length + 0 from Nat.le_refl _)
  clear h hz hl
  go_enter Tryz.func146, Tryz.ntmps146
  have d14 := t0.out.lookD.1.trans (by rw [hz0.out.d0])
  have d15 := t0.out.lookD.2.1.trans (by rw [hz0.out.d1])
  have d16 := t0.out.lookD.2.2.1
  have d17 := t0.out.lookD.2.2.2
  obtain ⟨b1, hb1, b1b⟩ : ∃ x : Nat, bitV c cd nd = x ∧ x < 256 := ⟨_, rfl, bitV_lt _ _ _ hz0.out.c hz0.out.nd⟩
  replace hb1 := Lib.hid hb1
  have HB := bitOf_any cd nd z.d2 z.d3 t0.out hz0.out.n0 hz0.out.c hz0.out.nd hcd
  rw [hb1.out] at HB
  have H1 := HB
  replace H1 := Lib.hid H1
  go_wp2_with fail
  with_reducible refine H1.out.mono ?_
  rintro e w1 ⟨rfl, b1⟩
  have t1 := Lib.hid (t0.out.below b1)
  have k1 := Lib.hid (k0.out.trans (Kp.below b1))
  clear b1 H1
  clear d14 d15 d16 d17
  obtain ⟨kf2, cp2, cf2, hen2, H2⟩ := (hz0.out.stay t0.out k1.out).readD t1.out hrx.out (by have := hl0.out; have := se0.out; omega)
  replace H2 := Lib.hid H2
  go_wp2_with fail
  with_reducible refine H2.out.mono ?_
  rintro e w2 ⟨s2, t2, k2, l2, (⟨v2, r2, q2, rfl⟩ | ⟨g2, rfl⟩)⟩
  rotate_left
  · skip
    have e_b1 := hb1.out
    subst e_b1
    have hf := Lib.hid (F.out lackE _ ⟨s2, t2, k1.out.trans k2, (by have := se0.out; omega), .inr ⟨Gave.bind g2, rfl⟩⟩)
    clear F
    unfold lackE at hf ⊢
    go_wp2_with fail
    first | exact hf.out | exact ⟨rfl, hf.out⟩
  replace k2 := Lib.hid (k1.out.trans k2)
  have se2 := Lib.hid (show s2.l.length ≤ s.l.length + 3 from (by have := se0.out; omega))
  replace t2 := Lib.hid t2
  replace r2 := Lib.hid r2
  clear H2 l2
  clear cf2 hen2
  unfold byteV
  have q2h := Lib.hid q2
  obtain ⟨x1, hx1, x1b⟩ : ∃ x : Nat, bitD 0 v2 b1 = x ∧ x < 256 := ⟨_, rfl, bitD_lt _ _ _ q2h.out b1b⟩
  replace hx1 := Lib.hid hx1
  have e1 : bits .or .u8 (v2 : Int) (b1 : Int) = (x1 : Int) := by rw [← hx1.out]; exact u8_or_nat v2 b1 q2h.out b1b
  have c10 := t2.out.lookN.2.1
  rw [hn] at c10
  obtain ⟨kf3, cp3, cf3, hen3, H3⟩ := (hz0.out.stay t0.out k2.out).writeD t2.out hw (x1) x1b (by have := hl0.out; have := se2.out; omega)
  replace H3 := Lib.hid H3
  go_wp2_with fail
  with_reducible refine H3.out.mono ?_
  rintro e w3 ⟨s3, t3, k3, l3, (⟨_u3, r3, q3, rfl⟩ | ⟨g3, rfl⟩)⟩
  rotate_left
  · skip
    have e_b1 := hb1.out
    subst e_b1
    have e_x1 := hx1.out
    subst e_x1
    have hf := Lib.hid (F.out lackE _ ⟨s3, t3, k2.out.trans k3, (by have := se2.out; omega), .inr ⟨Gave.then r2.out (g3), rfl⟩⟩)
    clear F
    unfold lackE at hf ⊢
    go_wp2_with fail
    first | exact hf.out | exact ⟨rfl, hf.out⟩
  replace k3 := Lib.hid (k2.out.trans k3)
  have se3 := Lib.hid (show s3.l.length ≤ s.l.length + 6 from (by have := se2.out; omega))
  replace t3 := Lib.hid t3
  replace r3 := Lib.hid r3
  clear H3 l3
  clear cf3 hen3
  unfold unitV
  have e_b1 := hb1.out
  subst e_b1
  have e_x1 := hx1.out
  subst e_x1
  have hf := Lib.hid (F.out (.returned (unitV ())) _ (Post.done (r2.out.bind (r3.out)) t3.out k3.out trivial (by have := se3.out; omega)))
  unfold unitV at hf
  clear F
  go_wp2_with fail
  first | exact hf.out | (go_end0; exact hf.out) | (go_ret; exact hf.out)
theorem changeBit1_any (h : Tk K z s w) (hz : Zd K z w c nm fm cd nd co no) (hn : z.n1 = .string (changeBitN 1)) (hrd : readable cd) (hw : writable cd) (hcd : cd < 256) (hl : s.l.length ≤ 80) :
    Calls Tryz.prog 146 #[.pointer (some ⟨K.b, 0, none⟩)] w (Post K z s w (changeBitM 1 c cd nd) unitV (fun _ => True) 12) := by
  obtain ⟨Q, hQ, F⟩ := post_name (Post K z s w (changeBitM 1 c cd nd) unitV (fun _ => True) 12)
  rw [hQ]
  clear hQ
  replace F := Lib.hid F
  unfold changeBitN at hn
  try dsimp only at hn
  have hrx := Lib.hid hrd
  have t0 := Lib.hid h
  have k0 := Lib.hid (Kp.refl K w)
  have hz0 := Lib.hid hz
  have hl0 := Lib.hid hl
  have se0 := Lib.hid (show s.l.length ≤ s.l.length + 0 from Nat.le_refl _)
  clear h hz hl
  go_enter Tryz.func146, Tryz.ntmps146
  have d14 := t0.out.lookD.1.trans (by rw [hz0.out.d0])
  have d15 := t0.out.lookD.2.1.trans (by rw [hz0.out.d1])
  have d16 := t0.out.lookD.2.2.1
  have d17 := t0.out.lookD.2.2.2
  obtain ⟨b1, hb1, b1b⟩ : ∃ x : Nat, bitV c cd nd = x ∧ x < 256 := ⟨_, rfl, bitV_lt _ _ _ hz0.out.c hz0.out.nd⟩
  replace hb1 := Lib.hid hb1
  have HB := bitOf_any cd nd z.d2 z.d3 t0.out hz0.out.n0 hz0.out.c hz0.out.nd hcd
  rw [hb1.out] at HB
  have H1 := HB
  replace H1 := Lib.hid H1
  go_wp2_with fail
  with_reducible refine H1.out.mono ?_
  rintro e w1 ⟨rfl, b1⟩
  have t1 := Lib.hid (t0.out.below b1)
  have k1 := Lib.hid (k0.out.trans (Kp.below b1))
  clear b1 H1
  clear d14 d15 d16 d17
  obtain ⟨kf2, cp2, cf2, hen2, H2⟩ := (hz0.out.stay t0.out k1.out).readD t1.out hrx.out (by have := hl0.out; have := se0.out; omega)
  replace H2 := Lib.hid H2
  go_wp2_with fail
  with_reducible refine H2.out.mono ?_
  rintro e w2 ⟨s2, t2, k2, l2, (⟨v2, r2, q2, rfl⟩ | ⟨g2, rfl⟩)⟩
  rotate_left
  · skip
    have e_b1 := hb1.out
    subst e_b1
    have hf := Lib.hid (F.out lackE _ ⟨s2, t2, k1.out.trans k2, (by have := se0.out; omega), .inr ⟨Gave.bind g2, rfl⟩⟩)
    clear F
    unfold lackE at hf ⊢
    go_wp2_with fail
    first | exact hf.out | exact ⟨rfl, hf.out⟩
  replace k2 := Lib.hid (k1.out.trans k2)
  have se2 := Lib.hid (show s2.l.length ≤ s.l.length + 3 from (by have := se0.out; omega))
  replace t2 := Lib.hid t2
  replace r2 := Lib.hid r2
  clear H2 l2
  clear cf2 hen2
  unfold byteV
  have q2h := Lib.hid q2
  obtain ⟨x1, hx1, x1b⟩ : ∃ x : Nat, bitD 1 v2 b1 = x ∧ x < 256 := ⟨_, rfl, bitD_lt _ _ _ q2h.out b1b⟩
  replace hx1 := Lib.hid hx1
  have e1 : bits .andNot .u8 (v2 : Int) (b1 : Int) = (x1 : Int) := by rw [← hx1.out]; exact u8_andNot_nat v2 b1 q2h.out b1b
  have c10 := t2.out.lookN.2.1
  rw [hn] at c10
  obtain ⟨kf3, cp3, cf3, hen3, H3⟩ := (hz0.out.stay t0.out k2.out).writeD t2.out hw (x1) x1b (by have := hl0.out; have := se2.out; omega)
  replace H3 := Lib.hid H3
  go_wp2_with fail
  with_reducible refine H3.out.mono ?_
  rintro e w3 ⟨s3, t3, k3, l3, (⟨_u3, r3, q3, rfl⟩ | ⟨g3, rfl⟩)⟩
  rotate_left
  · skip
    have e_b1 := hb1.out
    subst e_b1
    have e_x1 := hx1.out
    subst e_x1
    have hf := Lib.hid (F.out lackE _ ⟨s3, t3, k2.out.trans k3, (by have := se2.out; omega), .inr ⟨Gave.then r2.out (g3), rfl⟩⟩)
    clear F
    unfold lackE at hf ⊢
    go_wp2_with fail
    first | exact hf.out | exact ⟨rfl, hf.out⟩
  replace k3 := Lib.hid (k2.out.trans k3)
  have se3 := Lib.hid (show s3.l.length ≤ s.l.length + 6 from (by have := se2.out; omega))
  replace t3 := Lib.hid t3
  replace r3 := Lib.hid r3
  clear H3 l3
  clear cf3 hen3
  unfold unitV
  have e_b1 := hb1.out
  subst e_b1
  have e_x1 := hx1.out
  subst e_x1
  have hf := Lib.hid (F.out (.returned (unitV ())) _ (Post.done (r2.out.bind (r3.out)) t3.out k3.out trivial (by have := se3.out; omega)))
  unfold unitV at hf
  clear F
  go_wp2_with fail
  first | exact hf.out | (go_end0; exact hf.out) | (go_ret; exact hf.out)
theorem changeBit2_any (h : Tk K z s w) (hz : Zd K z w c nm fm cd nd co no) (hn : z.n1 = .string (changeBitN 2)) (hrd : readable cd) (hw : writable cd) (hcd : cd < 256) (hl : s.l.length ≤ 80) :
    Calls Tryz.prog 146 #[.pointer (some ⟨K.b, 0, none⟩)] w (Post K z s w (changeBitM 2 c cd nd) unitV (fun _ => True) 12) := by
  obtain ⟨Q, hQ, F⟩ := post_name (Post K z s w (changeBitM 2 c cd nd) unitV (fun _ => True) 12)
  rw [hQ]
  clear hQ
  replace F := Lib.hid F
  unfold changeBitN at hn
  try dsimp only at hn
  have hrx := Lib.hid hrd
  have t0 := Lib.hid h
  have k0 := Lib.hid (Kp.refl K w)
  have hz0 := Lib.hid hz
  have hl0 := Lib.hid hl
  have se0 := Lib.hid (show s.l.length ≤ s.l.length + 0 from Nat.le_refl _)
  clear h hz hl
  go_enter Tryz.func146, Tryz.ntmps146
  have d14 := t0.out.lookD.1.trans (by rw [hz0.out.d0])
  have d15 := t0.out.lookD.2.1.trans (by rw [hz0.out.d1])
  have d16 := t0.out.lookD.2.2.1
  have d17 := t0.out.lookD.2.2.2
  obtain ⟨b1, hb1, b1b⟩ : ∃ x : Nat, bitV c cd nd = x ∧ x < 256 := ⟨_, rfl, bitV_lt _ _ _ hz0.out.c hz0.out.nd⟩
  replace hb1 := Lib.hid hb1
  have HB := bitOf_any cd nd z.d2 z.d3 t0.out hz0.out.n0 hz0.out.c hz0.out.nd hcd
  rw [hb1.out] at HB
  have H1 := HB
  replace H1 := Lib.hid H1
  go_wp2_with fail
  with_reducible refine H1.out.mono ?_
  rintro e w1 ⟨rfl, b1⟩
  have t1 := Lib.hid (t0.out.below b1)
  have k1 := Lib.hid (k0.out.trans (Kp.below b1))
  clear b1 H1
  clear d14 d15 d16 d17
  obtain ⟨kf2, cp2, cf2, hen2, H2⟩ := (hz0.out.stay t0.out k1.out).readD t1.out hrx.out (by have := hl0.out; have := se0.out; omega)
  replace H2 := Lib.hid H2
  go_wp2_with fail
  with_reducible refine H2.out.mono ?_
  rintro e w2 ⟨s2, t2, k2, l2, (⟨v2, r2, q2, rfl⟩ | ⟨g2, rfl⟩)⟩
  rotate_left
  · skip
    have e_b1 := hb1.out
    subst e_b1
    have hf := Lib.hid (F.out lackE _ ⟨s2, t2, k1.out.trans k2, (by have := se0.out; omega), .inr ⟨Gave.bind g2, rfl⟩⟩)
    clear F
    unfold lackE at hf ⊢
    go_wp2_with fail
    first | exact hf.out | exact ⟨rfl, hf.out⟩
  replace k2 := Lib.hid (k1.out.trans k2)
  have se2 := Lib.hid (show s2.l.length ≤ s.l.length + 3 from (by have := se0.out; omega))
  replace t2 := Lib.hid t2
  replace r2 := Lib.hid r2
  clear H2 l2
  clear cf2 hen2
  unfold byteV
  have q2h := Lib.hid q2
  obtain ⟨x1, hx1, x1b⟩ : ∃ x : Nat, bitD 2 v2 b1 = x ∧ x < 256 := ⟨_, rfl, bitD_lt _ _ _ q2h.out b1b⟩
  replace hx1 := Lib.hid hx1
  have e1 : bits .xor .u8 (v2 : Int) (b1 : Int) = (x1 : Int) := by rw [← hx1.out]; exact u8_xor_nat v2 b1 q2h.out b1b
  have c10 := t2.out.lookN.2.1
  rw [hn] at c10
  obtain ⟨kf3, cp3, cf3, hen3, H3⟩ := (hz0.out.stay t0.out k2.out).writeD t2.out hw (x1) x1b (by have := hl0.out; have := se2.out; omega)
  replace H3 := Lib.hid H3
  go_wp2_with fail
  with_reducible refine H3.out.mono ?_
  rintro e w3 ⟨s3, t3, k3, l3, (⟨_u3, r3, q3, rfl⟩ | ⟨g3, rfl⟩)⟩
  rotate_left
  · skip
    have e_b1 := hb1.out
    subst e_b1
    have e_x1 := hx1.out
    subst e_x1
    have hf := Lib.hid (F.out lackE _ ⟨s3, t3, k2.out.trans k3, (by have := se2.out; omega), .inr ⟨Gave.then r2.out (g3), rfl⟩⟩)
    clear F
    unfold lackE at hf ⊢
    go_wp2_with fail
    first | exact hf.out | exact ⟨rfl, hf.out⟩
  replace k3 := Lib.hid (k2.out.trans k3)
  have se3 := Lib.hid (show s3.l.length ≤ s.l.length + 6 from (by have := se2.out; omega))
  replace t3 := Lib.hid t3
  replace r3 := Lib.hid r3
  clear H3 l3
  clear cf3 hen3
  unfold unitV
  have e_b1 := hb1.out
  subst e_b1
  have e_x1 := hx1.out
  subst e_x1
  have hf := Lib.hid (F.out (.returned (unitV ())) _ (Post.done (r2.out.bind (r3.out)) t3.out k3.out trivial (by have := se3.out; omega)))
  unfold unitV at hf
  clear F
  go_wp2_with fail
  first | exact hf.out | (go_end0; exact hf.out) | (go_ret; exact hf.out)
theorem changeBit_any (k : Nat) (hk : k < 3) (h : Tk K z s w) (hz : Zd K z w c nm fm cd nd co no) (hn : z.n1 = .string (changeBitN k)) (hrd : readable cd) (hw : writable cd) (hcd : cd < 256) (hl : s.l.length ≤ 80) :
    Calls Tryz.prog 146 #[.pointer (some ⟨K.b, 0, none⟩)] w (Post K z s w (changeBitM k c cd nd) unitV (fun _ => True) 12) := by
  obtain rfl | rfl | rfl : k = 0 ∨ k = 1 ∨ k = 2 := by omega
  · exact changeBit0_any h hz hn hrd hw hcd hl
  · exact changeBit1_any h hz hn hrd hw hcd hl
  · exact changeBit2_any h hz hn hrd hw hcd hl
def changeBitsN (k : Nat) : ByteArray := match k with | 0 => ⟨#[84, 83, 69, 84, 49]⟩ | _ => ⟨#[84, 67, 76, 82, 49]⟩
def bitsD (k v a : Nat) : Nat := match k with | 0 => v ||| a | _ => v &&& (255 - a)
theorem bitsD_lt (k v a : Nat) (hv : v < 256) (ha : a < 256) : bitsD k v a < 256 := by
  unfold bitsD
  split
  · exact or_lt256 _ _ hv ha
  · exact and_lt256 _ _ hv
def changeBitsM (k cd nd : Nat) : M Unit := M.bind (Go.Proofs.YtknlbmjncginnaaGreatDoor.readO cd nd) fun v => M.bind (M.ask fun r => (r.A + 256 - v) % 256) fun x => M.bind (M.set (tellR x)) fun _ => M.bind (M.ask fun r => bitsD k v r.A) fun y => writeO cd nd y
theorem changeBits0_any (h : Tk K z s w) (hz : Zd K z w c nm fm cd nd co no) (hn : z.n1 = .string (changeBitsN 0)) (hrd : readable cd) (hw : writable cd) (hl : s.l.length ≤ 80) :
    Calls Tryz.prog 147 #[.pointer (some ⟨K.b, 0, none⟩)] w (Post K z s w (changeBitsM 0 cd nd) unitV (fun _ => True) 12) := by
  obtain ⟨Q, hQ, F⟩ := post_name (Post K z s w (changeBitsM 0 cd nd) unitV (fun _ => True) 12)
  rw [hQ]
  clear hQ
  replace F := Lib.hid F
  unfold changeBitsN at hn
  try dsimp only at hn
  have t0 := Lib.hid h
  have k0 := Lib.hid (Kp.refl K w)
  have hz0 := Lib.hid hz
  have hl0 := Lib.hid hl
  have se0 := Lib.hid (show s.l.length ≤ s.l.length + 0 from Nat.le_refl _)
  clear h hz hl
  go_enter Tryz.func147, Tryz.ntmps147
  obtain ⟨kf1, cp1, cf1, hen1, H1⟩ := (hz0.out.stay t0.out k0.out).readD t0.out hrd (by have := hl0.out; have := se0.out; omega)
  replace H1 := Lib.hid H1
  go_wp2_with fail
  with_reducible refine H1.out.mono ?_
  rintro e w1 ⟨s1, t1, k1, l1, (⟨v1, r1, q1, rfl⟩ | ⟨g1, rfl⟩)⟩
  rotate_left
  · skip
    have hf := Lib.hid (F.out lackE _ ⟨s1, t1, k0.out.trans k1, (by have := se0.out; omega), .inr ⟨Gave.bind g1, rfl⟩⟩)
    clear F
    unfold lackE at hf ⊢
    go_wp2_with fail
    first | exact hf.out | exact ⟨rfl, hf.out⟩
  replace k1 := Lib.hid (k0.out.trans k1)
  have se1 := Lib.hid (show s1.l.length ≤ s.l.length + 3 from (by have := se0.out; omega))
  replace t1 := Lib.hid t1
  replace r1 := Lib.hid r1
  clear H1 l1
  clear cf1 hen1
  unfold byteV
  have q1h := Lib.hid q1
  have hA := Lib.hid t1.out.ok.A
  have c0 := t1.out.look.1.1
  obtain ⟨x1, hx1, x1b, x1w⟩ : ∃ x : Nat, (s1.r.A + 256 - v1) % 256 = x ∧ x < 256 ∧ IntKind.u8.wrap ((s1.r.A : Int) - (v1 : Int)) = (x : Int) := ⟨_, rfl, Nat.mod_lt _ (by decide), (by have := hA.out; simp only [IntKind.wrap_u8]; omega)⟩
  replace hx1 := Lib.hid hx1
  have a1x := Lib.hid (show Ran (M.ask (fun r : Rp => (r.A + 256 - v1) % 256)) s1 x1 s1 from by have ha := Ran.ask (fun r : Rp => (r.A + 256 - v1) % 256) s1; (try dsimp only at ha); rw [hx1.out] at ha; exact ha)
  have H2 := tell_any x1 t1.out x1b
  replace H2 := Lib.hid H2
  go_wp2_with fail
  with_reducible refine H2.out.mono ?_
  rintro e w2 ⟨rfl, t2, k2⟩
  have r2 := Ran.set (tellR x1) s1
  have se2 := (show ({ s1 with r := (tellR x1) s1.r } : Ts).l.length ≤ s.l.length + 3 from se1.out)
  generalize hs2 : ({ s1 with r := (tellR x1) s1.r } : Ts) = s2 at r2 t2 se2
  replace hs2 := Lib.hid hs2
  replace k2 := Lib.hid (k1.out.trans k2)
  replace t2 := Lib.hid t2
  replace r2 := Lib.hid r2
  replace se2 := Lib.hid se2
  clear H2
  clear c0 hA
  have c10 := t2.out.lookN.2.1
  rw [hn] at c10
  go_upto_region 3 with (fail)
  clear c10
  have hA := Lib.hid t2.out.ok.A
  have c0 := t2.out.look.1.1
  obtain ⟨y1, hy1, y1b⟩ : ∃ x : Nat, bitsD 0 v1 s2.r.A = x ∧ x < 256 := ⟨_, rfl, bitsD_lt _ _ _ q1h.out hA.out⟩
  replace hy1 := Lib.hid hy1
  have e1 : bits .or .u8 (v1 : Int) (s2.r.A : Int) = (y1 : Int) := by rw [← hy1.out]; exact u8_or_nat v1 s2.r.A q1h.out hA.out
  have a2x := Lib.hid (show Ran (M.ask (fun r : Rp => bitsD 0 v1 r.A)) s2 y1 s2 from by have ha := Ran.ask (fun r : Rp => bitsD 0 v1 r.A) s2; (try dsimp only at ha); rw [hy1.out] at ha; exact ha)
  have t3 := Lib.hid t2.out.drew
  have k3 := Lib.hid k2.out.drew
  obtain ⟨kf3, cp3, cf3, hen3, H3⟩ := (hz0.out.stay t0.out k3.out).writeD t3.out hw (y1) y1b (by have := hl0.out; have := se2.out; omega)
  have cw3 : w2.cell? ⟨K.b, 17, none⟩ = some (.func (.func kf3) #[] cp3) := cf3
  replace H3 := Lib.hid H3
  go_still_tail 12, (by kernel_rfl)
  show wpList _ _ _ _ _ w2.drew
  generalize w2.drew = wd3 at *
  clear cw3
  go_wp2_with fail
  with_reducible refine H3.out.mono ?_
  rintro e w4 ⟨s4, t4, k4, l4, (⟨_u4, r4, q4, rfl⟩ | ⟨g4, rfl⟩)⟩
  rotate_left
  · skip
    have e_x1 := hx1.out
    subst e_x1
    have e_y1 := hy1.out
    subst e_y1
    have hf := Lib.hid (F.out lackE _ ⟨s4, t4, k3.out.trans k4, (by have := se2.out; omega), .inr ⟨Gave.then r1.out (Gave.then a1x.out (Gave.then r2.out (Gave.then a2x.out (g4)))), rfl⟩⟩)
    clear F
    unfold lackE at hf ⊢
    go_wp2_with fail
    first | exact hf.out | exact ⟨rfl, hf.out⟩
  replace k4 := Lib.hid (k3.out.trans k4)
  have se4 := Lib.hid (show s4.l.length ≤ s.l.length + 6 from (by have := se2.out; omega))
  replace t4 := Lib.hid t4
  replace r4 := Lib.hid r4
  clear H3 l4 cf3 hen3
  unfold unitV
  have e_x1 := hx1.out
  subst e_x1
  have e_y1 := hy1.out
  subst e_y1
  have hf := Lib.hid (F.out (.returned (unitV ())) _ (Post.done (r1.out.bind (a1x.out.bind (r2.out.bind (a2x.out.bind (r4.out))))) t4.out k4.out trivial (by have := se4.out; omega)))
  unfold unitV at hf
  clear F
  go_wp2_with fail
  first | exact hf.out | (go_end0; exact hf.out) | (go_ret; exact hf.out)
theorem changeBits1_any (h : Tk K z s w) (hz : Zd K z w c nm fm cd nd co no) (hn : z.n1 = .string (changeBitsN 1)) (hrd : readable cd) (hw : writable cd) (hl : s.l.length ≤ 80) :
    Calls Tryz.prog 147 #[.pointer (some ⟨K.b, 0, none⟩)] w (Post K z s w (changeBitsM 1 cd nd) unitV (fun _ => True) 12) := by
  obtain ⟨Q, hQ, F⟩ := post_name (Post K z s w (changeBitsM 1 cd nd) unitV (fun _ => True) 12)
  rw [hQ]
  clear hQ
  replace F := Lib.hid F
  unfold changeBitsN at hn
  try dsimp only at hn
  have t0 := Lib.hid h
  have k0 := Lib.hid (Kp.refl K w)
  have hz0 := Lib.hid hz
  have hl0 := Lib.hid hl
  have se0 := Lib.hid (show s.l.length ≤ s.l.length + 0 from Nat.le_refl _)
  clear h hz hl
  go_enter Tryz.func147, Tryz.ntmps147
  obtain ⟨kf1, cp1, cf1, hen1, H1⟩ := (hz0.out.stay t0.out k0.out).readD t0.out hrd (by have := hl0.out; have := se0.out; omega)
  replace H1 := Lib.hid H1
  go_wp2_with fail
  with_reducible refine H1.out.mono ?_
  rintro e w1 ⟨s1, t1, k1, l1, (⟨v1, r1, q1, rfl⟩ | ⟨g1, rfl⟩)⟩
  rotate_left
  · skip
    have hf := Lib.hid (F.out lackE _ ⟨s1, t1, k0.out.trans k1, (by have := se0.out; omega), .inr ⟨Gave.bind g1, rfl⟩⟩)
    clear F
    unfold lackE at hf ⊢
    go_wp2_with fail
    first | exact hf.out | exact ⟨rfl, hf.out⟩
  replace k1 := Lib.hid (k0.out.trans k1)
  have se1 := Lib.hid (show s1.l.length ≤ s.l.length + 3 from (by have := se0.out; omega))
  replace t1 := Lib.hid t1
  replace r1 := Lib.hid r1
  clear H1 l1
  clear cf1 hen1
  unfold byteV
  have q1h := Lib.hid q1
  have hA := Lib.hid t1.out.ok.A
  have c0 := t1.out.look.1.1
  obtain ⟨x1, hx1, x1b, x1w⟩ : ∃ x : Nat, (s1.r.A + 256 - v1) % 256 = x ∧ x < 256 ∧ IntKind.u8.wrap ((s1.r.A : Int) - (v1 : Int)) = (x : Int) := ⟨_, rfl, Nat.mod_lt _ (by decide), (by have := hA.out; simp only [IntKind.wrap_u8]; omega)⟩
  replace hx1 := Lib.hid hx1
  have a1x := Lib.hid (show Ran (M.ask (fun r : Rp => (r.A + 256 - v1) % 256)) s1 x1 s1 from by have ha := Ran.ask (fun r : Rp => (r.A + 256 - v1) % 256) s1; (try dsimp only at ha); rw [hx1.out] at ha; exact ha)
  have H2 := tell_any x1 t1.out x1b
  replace H2 := Lib.hid H2
  go_wp2_with fail
  with_reducible refine H2.out.mono ?_
  rintro e w2 ⟨rfl, t2, k2⟩
  have r2 := Ran.set (tellR x1) s1
  have se2 := (show ({ s1 with r := (tellR x1) s1.r } : Ts).l.length ≤ s.l.length + 3 from se1.out)
  generalize hs2 : ({ s1 with r := (tellR x1) s1.r } : Ts) = s2 at r2 t2 se2
  replace hs2 := Lib.hid hs2
  replace k2 := Lib.hid (k1.out.trans k2)
  replace t2 := Lib.hid t2
  replace r2 := Lib.hid r2
  replace se2 := Lib.hid se2
  clear H2
  clear c0 hA
  have c10 := t2.out.lookN.2.1
  rw [hn] at c10
  go_upto_region 4 with (fail)
  clear c10
  have hA := Lib.hid t2.out.ok.A
  have c0 := t2.out.look.1.1
  obtain ⟨y1, hy1, y1b⟩ : ∃ x : Nat, bitsD 1 v1 s2.r.A = x ∧ x < 256 := ⟨_, rfl, bitsD_lt _ _ _ q1h.out hA.out⟩
  replace hy1 := Lib.hid hy1
  have e1 : bits .andNot .u8 (v1 : Int) (s2.r.A : Int) = (y1 : Int) := by rw [← hy1.out]; exact u8_andNot_nat v1 s2.r.A q1h.out hA.out
  have a2x := Lib.hid (show Ran (M.ask (fun r : Rp => bitsD 1 v1 r.A)) s2 y1 s2 from by have ha := Ran.ask (fun r : Rp => bitsD 1 v1 r.A) s2; (try dsimp only at ha); rw [hy1.out] at ha; exact ha)
  have t3 := Lib.hid t2.out.drew
  have k3 := Lib.hid k2.out.drew
  obtain ⟨kf3, cp3, cf3, hen3, H3⟩ := (hz0.out.stay t0.out k3.out).writeD t3.out hw (y1) y1b (by have := hl0.out; have := se2.out; omega)
  have cw3 : w2.cell? ⟨K.b, 17, none⟩ = some (.func (.func kf3) #[] cp3) := cf3
  replace H3 := Lib.hid H3
  go_still_tail 12, (by kernel_rfl)
  show wpList _ _ _ _ _ w2.drew
  generalize w2.drew = wd3 at *
  clear cw3
  go_wp2_with fail
  with_reducible refine H3.out.mono ?_
  rintro e w4 ⟨s4, t4, k4, l4, (⟨_u4, r4, q4, rfl⟩ | ⟨g4, rfl⟩)⟩
  rotate_left
  · skip
    have e_x1 := hx1.out
    subst e_x1
    have e_y1 := hy1.out
    subst e_y1
    have hf := Lib.hid (F.out lackE _ ⟨s4, t4, k3.out.trans k4, (by have := se2.out; omega), .inr ⟨Gave.then r1.out (Gave.then a1x.out (Gave.then r2.out (Gave.then a2x.out (g4)))), rfl⟩⟩)
    clear F
    unfold lackE at hf ⊢
    go_wp2_with fail
    first | exact hf.out | exact ⟨rfl, hf.out⟩
  replace k4 := Lib.hid (k3.out.trans k4)
  have se4 := Lib.hid (show s4.l.length ≤ s.l.length + 6 from (by have := se2.out; omega))
  replace t4 := Lib.hid t4
  replace r4 := Lib.hid r4
  clear H3 l4 cf3 hen3
  unfold unitV
  have e_x1 := hx1.out
  subst e_x1
  have e_y1 := hy1.out
  subst e_y1
  have hf := Lib.hid (F.out (.returned (unitV ())) _ (Post.done (r1.out.bind (a1x.out.bind (r2.out.bind (a2x.out.bind (r4.out))))) t4.out k4.out trivial (by have := se4.out; omega)))
  unfold unitV at hf
  clear F
  go_wp2_with fail
  first | exact hf.out | (go_end0; exact hf.out) | (go_ret; exact hf.out)
theorem changeBits_any (k : Nat) (hk : k < 2) (h : Tk K z s w) (hz : Zd K z w c nm fm cd nd co no) (hn : z.n1 = .string (changeBitsN k)) (hrd : readable cd) (hw : writable cd) (hl : s.l.length ≤ 80) :
    Calls Tryz.prog 147 #[.pointer (some ⟨K.b, 0, none⟩)] w (Post K z s w (changeBitsM k cd nd) unitV (fun _ => True) 12) := by
  obtain rfl | rfl : k = 0 ∨ k = 1 := by omega
  · exact changeBits0_any h hz hn hrd hw hl
  · exact changeBits1_any h hz hn hrd hw hl
end
end Go.Proofs.YtknlbmjncginnaaGreatDoor
namespace Go.Proofs.YtknlbmjncginnaaGreatDoor
open Go.RowKit Go.Shelf
set_option maxRecDepth 100000
set_option maxHeartbeats 1000000
set_option linter.unusedVariables false

section
variable {K : Cx} {z : Zs} {s : Ts} {w w' : World} {c cd nd co no : Nat} {nm fm : ByteArray}
theorem Tk.cellsO {s1 : Ts} {W : World} (t : Tk K z s1 W) {W0 : World} (hz : Zd K z W0 c nm fm cd nd co no) : W.cell? ⟨K.b, 18, none⟩ = some (.int .u8 (co : Nat)) ∧ W.cell? ⟨K.b, 19, none⟩ = some (.int .u16 (no : Nat)) ∧ W.cell? ⟨K.b, 20, none⟩ = some z.o2 ∧ W.cell? ⟨K.b, 21, none⟩ = some z.o3 :=
  ⟨t.lookO.1.trans (by rw [hz.o0]), t.lookO.2.1.trans (by rw [hz.o1]), t.lookO.2.2.1, t.lookO.2.2.2⟩
theorem Tk.cellsD {s1 : Ts} {W : World} (t : Tk K z s1 W) {W0 : World} (hz : Zd K z W0 c nm fm cd nd co no) : W.cell? ⟨K.b, 14, none⟩ = some (.int .u8 (cd : Nat)) ∧ W.cell? ⟨K.b, 15, none⟩ = some (.int .u16 (nd : Nat)) ∧ W.cell? ⟨K.b, 16, none⟩ = some z.d2 ∧ W.cell? ⟨K.b, 17, none⟩ = some z.d3 :=
  ⟨t.lookD.1.trans (by rw [hz.d0]), t.lookD.2.1.trans (by rw [hz.d1]), t.lookD.2.2.1, t.lookD.2.2.2⟩
def carryN (k : Nat) : ByteArray := match k with | 0 => ⟨#[79, 82, 49]⟩ | 1 => ⟨#[65, 78, 68, 49]⟩ | _ => ⟨#[69, 79, 82, 49]⟩
def carryB (k : Nat) (c b : Bool) : Bool := match k with | 0 => c || b | 1 => c && b | _ => c != b
def combineCarryM (k c co no : Nat) : M Unit := M.bind (M.ask fun r => hasP r.P 1) fun cy => M.bind (readBitM c co no) fun b => M.set (putR 1 (carryB k cy b))
theorem combineCarry0_any (h : Tk K z s w) (hz : Zd K z w c nm fm cd nd co no) (hn : z.n1 = .string (carryN 0)) (hr : readable co) (hco : co < 256) (hl : s.l.length ≤ 80) :
    Calls Tryz.prog 148 #[.pointer (some ⟨K.b, 0, none⟩)] w (Post K z s w (combineCarryM 0 c co no) unitV (fun _ => True) 12) := by
  obtain ⟨Q, hQ, F⟩ := post_name (Post K z s w (combineCarryM 0 c co no) unitV (fun _ => True) 12)
  rw [hQ]
  clear hQ
  replace F := Lib.hid F
  unfold carryN at hn
  try dsimp only at hn
  obtain ⟨cy, hcy⟩ : ∃ cy, hasP s.r.P 1 = cy := ⟨_, rfl⟩
  have aK := Lib.hid (show Ran (M.ask fun r => hasP r.P 1) s cy s from by rw [← hcy]; exact Ran.ask (fun r => hasP r.P 1) s)
  have t0 := Lib.hid h
  have k0 := Lib.hid (Kp.refl K w)
  have hz0 := Lib.hid hz
  have hl0 := Lib.hid hl
  have se0 := Lib.hid (show s.l.length ≤ s.l.length + 0 from Nat.le_refl _)
  clear h hz hl
  go_enter Tryz.func148, Tryz.ntmps148
  go_upto_region 0 with (fail)
  have t1 := Lib.hid t0.out.drew
  have k1 := Lib.hid k0.out.drew
  have HF := flag_any 1 1 rfl t1.out (by decide)
  rw [hcy] at HF
  replace HF := Lib.hid HF
  replace hcy := Lib.hid hcy
  have tD := t1.out
  have H2 := readBit_any co no z.o2 z.o3 t1.out hz0.out.n0 hz0.out.c hz0.out.no hco (hz0.out.stay t0.out k1.out).o2 hr (by have := hl0.out; have := se0.out; omega)
  replace H2 := Lib.hid H2
  go_region_held2 (fun W => W.cell? ⟨K.b, 18, none⟩ = some (.int .u8 (co : Nat)) ∧ W.cell? ⟨K.b, 19, none⟩ = some (.int .u16 (no : Nat)) ∧ W.cell? ⟨K.b, 20, none⟩ = some z.o2 ∧ W.cell? ⟨K.b, 21, none⟩ = some z.o3) (first | exact tD.cellsO hz0.out | exact t2.out.cellsO hz0.out) (first
    | (go_at_call 198; (with_reducible refine HF.out.mono ?_); rintro e wf ⟨rfl, rfl⟩)
    | ((with_reducible refine H2.out.mono ?_); rintro e w2 ⟨s2, t2, k2, l2, (⟨vb, r2, q2, rfl⟩ | ⟨g2, rfl⟩)⟩; rotate_left; (have hf := Lib.hid (F.out lackE _ ⟨s2, t2, k1.out.trans k2, (by have := se0.out; omega), .inr ⟨Gave.then aK.out (Gave.bind g2), rfl⟩⟩); clear F; unfold lackE at hf ⊢; go_wp2_with fail; (first | exact hf.out | exact ⟨rfl, hf.out⟩)); replace k2 := Lib.hid (k1.out.trans k2); have se2 := Lib.hid (show s2.l.length ≤ s.l.length + 3 from (by have := se0.out; omega)); replace t2 := Lib.hid t2; replace r2 := Lib.hid r2; unfold boolV))
  all_goals
    have c10 := t2.out.lookN.2.1
    rw [hn] at c10
    obtain ⟨pb, hpb⟩ : ∃ pb, carryB 0 cy vb = pb := ⟨_, rfl⟩
    have r9 := Ran.set (putR 1 (carryB 0 cy vb)) s2
    rw [show putR 1 (carryB 0 cy vb) s2.r = putR 1 pb s2.r from by rw [hpb]] at r9
    unfold carryB at hpb
    (try dsimp only at hpb)
    have HP := put_any 1 1 rfl pb t2.out (by decide)
    clear tD HF
    cases cy
    all_goals cases vb
    all_goals
      first | obtain rfl : pb = true := hpb.symm | obtain rfl : pb = false := hpb.symm
      replace HP := Lib.hid HP
      replace r9 := Lib.hid r9
      clear hpb
      go_wp2_with fail
      with_reducible refine HP.out.mono ?_
      rintro e w9 ⟨rfl, t9, k9⟩
      have hf := Lib.hid (F.out (.returned (unitV ())) _ (Post.done (aK.out.bind (r2.out.bind r9.out)) t9 (k2.out.trans k9) trivial (by have := se2.out; dsimp only; omega)))
      unfold unitV at hf
      clear F HP t9 k9
      go_wp2_with fail
      first | exact hf.out | (go_end0; exact hf.out)
theorem combineCarry1_any (h : Tk K z s w) (hz : Zd K z w c nm fm cd nd co no) (hn : z.n1 = .string (carryN 1)) (hr : readable co) (hco : co < 256) (hl : s.l.length ≤ 80) :
    Calls Tryz.prog 148 #[.pointer (some ⟨K.b, 0, none⟩)] w (Post K z s w (combineCarryM 1 c co no) unitV (fun _ => True) 12) := by
  obtain ⟨Q, hQ, F⟩ := post_name (Post K z s w (combineCarryM 1 c co no) unitV (fun _ => True) 12)
  rw [hQ]
  clear hQ
  replace F := Lib.hid F
  unfold carryN at hn
  try dsimp only at hn
  obtain ⟨cy, hcy⟩ : ∃ cy, hasP s.r.P 1 = cy := ⟨_, rfl⟩
  have aK := Lib.hid (show Ran (M.ask fun r => hasP r.P 1) s cy s from by rw [← hcy]; exact Ran.ask (fun r => hasP r.P 1) s)
  have t0 := Lib.hid h
  have k0 := Lib.hid (Kp.refl K w)
  have hz0 := Lib.hid hz
  have hl0 := Lib.hid hl
  have se0 := Lib.hid (show s.l.length ≤ s.l.length + 0 from Nat.le_refl _)
  clear h hz hl
  go_enter Tryz.func148, Tryz.ntmps148
  go_upto_region 0 with (fail)
  have t1 := Lib.hid t0.out.drew
  have k1 := Lib.hid k0.out.drew
  have HF := flag_any 1 1 rfl t1.out (by decide)
  rw [hcy] at HF
  replace HF := Lib.hid HF
  replace hcy := Lib.hid hcy
  have tD := t1.out
  have H2 := readBit_any co no z.o2 z.o3 t1.out hz0.out.n0 hz0.out.c hz0.out.no hco (hz0.out.stay t0.out k1.out).o2 hr (by have := hl0.out; have := se0.out; omega)
  replace H2 := Lib.hid H2
  go_region_held2 (fun W => W.cell? ⟨K.b, 18, none⟩ = some (.int .u8 (co : Nat)) ∧ W.cell? ⟨K.b, 19, none⟩ = some (.int .u16 (no : Nat)) ∧ W.cell? ⟨K.b, 20, none⟩ = some z.o2 ∧ W.cell? ⟨K.b, 21, none⟩ = some z.o3) (first | exact tD.cellsO hz0.out | exact t2.out.cellsO hz0.out) (first
    | (go_at_call 198; (with_reducible refine HF.out.mono ?_); rintro e wf ⟨rfl, rfl⟩)
    | ((with_reducible refine H2.out.mono ?_); rintro e w2 ⟨s2, t2, k2, l2, (⟨vb, r2, q2, rfl⟩ | ⟨g2, rfl⟩)⟩; rotate_left; (have hf := Lib.hid (F.out lackE _ ⟨s2, t2, k1.out.trans k2, (by have := se0.out; omega), .inr ⟨Gave.then aK.out (Gave.bind g2), rfl⟩⟩); clear F; unfold lackE at hf ⊢; go_wp2_with fail; (first | exact hf.out | exact ⟨rfl, hf.out⟩)); replace k2 := Lib.hid (k1.out.trans k2); have se2 := Lib.hid (show s2.l.length ≤ s.l.length + 3 from (by have := se0.out; omega)); replace t2 := Lib.hid t2; replace r2 := Lib.hid r2; unfold boolV))
  all_goals
    have c10 := t2.out.lookN.2.1
    rw [hn] at c10
    obtain ⟨pb, hpb⟩ : ∃ pb, carryB 1 cy vb = pb := ⟨_, rfl⟩
    have r9 := Ran.set (putR 1 (carryB 1 cy vb)) s2
    rw [show putR 1 (carryB 1 cy vb) s2.r = putR 1 pb s2.r from by rw [hpb]] at r9
    unfold carryB at hpb
    (try dsimp only at hpb)
    have HP := put_any 1 1 rfl pb t2.out (by decide)
    clear tD HF
    cases cy
    all_goals cases vb
    all_goals
      first | obtain rfl : pb = true := hpb.symm | obtain rfl : pb = false := hpb.symm
      replace HP := Lib.hid HP
      replace r9 := Lib.hid r9
      clear hpb
      go_wp2_with fail
      with_reducible refine HP.out.mono ?_
      rintro e w9 ⟨rfl, t9, k9⟩
      have hf := Lib.hid (F.out (.returned (unitV ())) _ (Post.done (aK.out.bind (r2.out.bind r9.out)) t9 (k2.out.trans k9) trivial (by have := se2.out; dsimp only; omega)))
      unfold unitV at hf
      clear F HP t9 k9
      go_wp2_with fail
      first | exact hf.out | (go_end0; exact hf.out)
theorem combineCarry2_any (h : Tk K z s w) (hz : Zd K z w c nm fm cd nd co no) (hn : z.n1 = .string (carryN 2)) (hr : readable co) (hco : co < 256) (hl : s.l.length ≤ 80) :
    Calls Tryz.prog 148 #[.pointer (some ⟨K.b, 0, none⟩)] w (Post K z s w (combineCarryM 2 c co no) unitV (fun _ => True) 12) := by
  obtain ⟨Q, hQ, F⟩ := post_name (Post K z s w (combineCarryM 2 c co no) unitV (fun _ => True) 12)
  rw [hQ]
  clear hQ
  replace F := Lib.hid F
  unfold carryN at hn
  try dsimp only at hn
  obtain ⟨cy, hcy⟩ : ∃ cy, hasP s.r.P 1 = cy := ⟨_, rfl⟩
  have aK := Lib.hid (show Ran (M.ask fun r => hasP r.P 1) s cy s from by rw [← hcy]; exact Ran.ask (fun r => hasP r.P 1) s)
  have t0 := Lib.hid h
  have k0 := Lib.hid (Kp.refl K w)
  have hz0 := Lib.hid hz
  have hl0 := Lib.hid hl
  have se0 := Lib.hid (show s.l.length ≤ s.l.length + 0 from Nat.le_refl _)
  clear h hz hl
  go_enter Tryz.func148, Tryz.ntmps148
  go_upto_region 0 with (fail)
  have t1 := Lib.hid t0.out.drew
  have k1 := Lib.hid k0.out.drew
  have HF := flag_any 1 1 rfl t1.out (by decide)
  rw [hcy] at HF
  replace HF := Lib.hid HF
  replace hcy := Lib.hid hcy
  have tD := t1.out
  have H2 := readBit_any co no z.o2 z.o3 t1.out hz0.out.n0 hz0.out.c hz0.out.no hco (hz0.out.stay t0.out k1.out).o2 hr (by have := hl0.out; have := se0.out; omega)
  replace H2 := Lib.hid H2
  go_region_held2 (fun W => W.cell? ⟨K.b, 18, none⟩ = some (.int .u8 (co : Nat)) ∧ W.cell? ⟨K.b, 19, none⟩ = some (.int .u16 (no : Nat)) ∧ W.cell? ⟨K.b, 20, none⟩ = some z.o2 ∧ W.cell? ⟨K.b, 21, none⟩ = some z.o3) (first | exact tD.cellsO hz0.out | exact t2.out.cellsO hz0.out) (first
    | (go_at_call 198; (with_reducible refine HF.out.mono ?_); rintro e wf ⟨rfl, rfl⟩)
    | ((with_reducible refine H2.out.mono ?_); rintro e w2 ⟨s2, t2, k2, l2, (⟨vb, r2, q2, rfl⟩ | ⟨g2, rfl⟩)⟩; rotate_left; (have hf := Lib.hid (F.out lackE _ ⟨s2, t2, k1.out.trans k2, (by have := se0.out; omega), .inr ⟨Gave.then aK.out (Gave.bind g2), rfl⟩⟩); clear F; unfold lackE at hf ⊢; go_wp2_with fail; (first | exact hf.out | exact ⟨rfl, hf.out⟩)); replace k2 := Lib.hid (k1.out.trans k2); have se2 := Lib.hid (show s2.l.length ≤ s.l.length + 3 from (by have := se0.out; omega)); replace t2 := Lib.hid t2; replace r2 := Lib.hid r2; unfold boolV))
  all_goals
    have c10 := t2.out.lookN.2.1
    rw [hn] at c10
    obtain ⟨pb, hpb⟩ : ∃ pb, carryB 2 cy vb = pb := ⟨_, rfl⟩
    have r9 := Ran.set (putR 1 (carryB 2 cy vb)) s2
    rw [show putR 1 (carryB 2 cy vb) s2.r = putR 1 pb s2.r from by rw [hpb]] at r9
    unfold carryB at hpb
    (try dsimp only at hpb)
    have HP := put_any 1 1 rfl pb t2.out (by decide)
    clear tD HF
    cases cy
    all_goals cases vb
    all_goals
      first | obtain rfl : pb = true := hpb.symm | obtain rfl : pb = false := hpb.symm
      replace HP := Lib.hid HP
      replace r9 := Lib.hid r9
      clear hpb
      go_wp2_with fail
      with_reducible refine HP.out.mono ?_
      rintro e w9 ⟨rfl, t9, k9⟩
      have hf := Lib.hid (F.out (.returned (unitV ())) _ (Post.done (aK.out.bind (r2.out.bind r9.out)) t9 (k2.out.trans k9) trivial (by have := se2.out; dsimp only; omega)))
      unfold unitV at hf
      clear F HP t9 k9
      go_wp2_with fail
      first | exact hf.out | (go_end0; exact hf.out)
theorem combineCarry_any (k : Nat) (hk : k < 3) (h : Tk K z s w) (hz : Zd K z w c nm fm cd nd co no) (hn : z.n1 = .string (carryN k)) (hr : readable co) (hco : co < 256) (hl : s.l.length ≤ 80) :
    Calls Tryz.prog 148 #[.pointer (some ⟨K.b, 0, none⟩)] w (Post K z s w (combineCarryM k c co no) unitV (fun _ => True) 12) := by
  obtain rfl | rfl | rfl : k = 0 ∨ k = 1 ∨ k = 2 := by omega
  · exact combineCarry0_any h hz hn hr hco hl
  · exact combineCarry1_any h hz hn hr hco hl
  · exact combineCarry2_any h hz hn hr hco hl
def moveBitCM (c co no : Nat) : M Unit := M.bind (readBitM c co no) fun b => M.set (putR 1 b)
theorem moveBitC_any (h : Tk K z s w) (hz : Zd K z w c nm fm cd nd co no) (hr : readable co) (hco : co < 256) (hcd : cd = 67) (hl : s.l.length ≤ 80) :
    Calls Tryz.prog 149 #[.pointer (some ⟨K.b, 0, none⟩)] w (Post K z s w (moveBitCM c co no) unitV (fun _ => True) 12) := by
  obtain ⟨Q, hQ, F⟩ := post_name (Post K z s w (moveBitCM c co no) unitV (fun _ => True) 12)
  rw [hQ]
  clear hQ
  replace F := Lib.hid F
  have t0 := Lib.hid h
  have k0 := Lib.hid (Kp.refl K w)
  have hz0 := Lib.hid hz
  have hl0 := Lib.hid hl
  have se0 := Lib.hid (show s.l.length ≤ s.l.length + 0 from Nat.le_refl _)
  clear h hz hl
  go_enter Tryz.func149, Tryz.ntmps149
  have d14 := t0.out.lookD.1.trans (by rw [hz0.out.d0])
  have d15 := t0.out.lookD.2.1.trans (by rw [hz0.out.d1])
  have d16 := t0.out.lookD.2.2.1
  have d17 := t0.out.lookD.2.2.2
  rw [hcd, show ((67 : Nat) : Int) = 67 from rfl] at d14
  have d18 := t0.out.lookO.1.trans (by rw [hz0.out.o0])
  have d19 := t0.out.lookO.2.1.trans (by rw [hz0.out.o1])
  have d20 := t0.out.lookO.2.2.1
  have d21 := t0.out.lookO.2.2.2
  have H1 := readBit_any co no z.o2 z.o3 t0.out hz0.out.n0 hz0.out.c hz0.out.no hco (hz0.out.stay t0.out k0.out).o2 hr (by have := hl0.out; have := se0.out; omega)
  replace H1 := Lib.hid H1
  go_wp2_with fail
  with_reducible refine H1.out.mono ?_
  rintro e w1 ⟨s1, t1, k1, l1, (⟨vb, r1, q1, rfl⟩ | ⟨g1, rfl⟩)⟩
  rotate_left
  · skip
    have hf := Lib.hid (F.out lackE _ ⟨s1, t1, k0.out.trans k1, (by have := se0.out; omega), .inr ⟨Gave.bind g1, rfl⟩⟩)
    clear F
    unfold lackE at hf ⊢
    go_wp2_with fail
    first | exact hf.out | exact ⟨rfl, hf.out⟩
  replace k1 := Lib.hid (k0.out.trans k1)
  have se1 := Lib.hid (show s1.l.length ≤ s.l.length + 3 from (by have := se0.out; omega))
  replace t1 := Lib.hid t1
  replace r1 := Lib.hid r1
  clear H1 l1
  unfold boolV
  clear d14 d15 d16 d17
  clear d18 d19 d20 d21
  have H2 := put_any 1 1 rfl vb t1.out (by decide)
  replace H2 := Lib.hid H2
  go_wp2_with fail
  with_reducible refine H2.out.mono ?_
  rintro e w2 ⟨rfl, t2, k2⟩
  have r2 := Ran.set (putR 1 vb) s1
  have se2 := (show ({ s1 with r := (putR 1 vb) s1.r } : Ts).l.length ≤ s.l.length + 3 from se1.out)
  generalize hs2 : ({ s1 with r := (putR 1 vb) s1.r } : Ts) = s2 at r2 t2 se2
  replace hs2 := Lib.hid hs2
  replace k2 := Lib.hid (k1.out.trans k2)
  replace t2 := Lib.hid t2
  replace r2 := Lib.hid r2
  replace se2 := Lib.hid se2
  clear H2
  have hf := Lib.hid (F.out (.returned (unitV ())) _ (Post.done (r1.out.bind (r2.out)) t2.out k2.out trivial (by have := se2.out; omega)))
  unfold unitV at hf
  clear F
  go_wp2_with fail
  first | exact hf.out | (go_end0; exact hf.out) | (go_ret; exact hf.out)
/-- A bit of a byte laid by the carry. -/
def layBit (v b : Nat) (on : Bool) : Nat := if on then (v &&& (255 - b)) ||| b else v &&& (255 - b)
theorem layBit_lt (v b : Nat) (on : Bool) (hv : v < 256) (hb : b < 256) : layBit v b on < 256 := by
  unfold layBit
  split
  · exact or_lt256 _ _ (and_lt256 _ _ hv) hb
  · exact and_lt256 _ _ hv
def moveBitDM (c cd nd : Nat) : M Unit := M.bind (Go.Proofs.YtknlbmjncginnaaGreatDoor.readO cd nd) fun v => M.bind (M.ask fun r => layBit v (bitV c cd nd) (hasP r.P 1)) fun x => writeO cd nd x
theorem moveBitD_any (h : Tk K z s w) (hz : Zd K z w c nm fm cd nd co no) (hrd : readable cd) (hw : writable cd) (hcd : cd < 256) (hc67 : cd ≠ 67) (hl : s.l.length ≤ 80) :
    Calls Tryz.prog 149 #[.pointer (some ⟨K.b, 0, none⟩)] w (Post K z s w (moveBitDM c cd nd) unitV (fun _ => True) 12) := by
  obtain ⟨Q, hQ, F⟩ := post_name (Post K z s w (moveBitDM c cd nd) unitV (fun _ => True) 12)
  rw [hQ]
  clear hQ
  replace F := Lib.hid F
  have n67 : ((cd : Int) == 67) = false := by rw [beq_eq_false_iff_ne]; omega
  have hrx := Lib.hid hrd
  have t0 := Lib.hid h
  have k0 := Lib.hid (Kp.refl K w)
  have hz0 := Lib.hid hz
  have hl0 := Lib.hid hl
  have se0 := Lib.hid (show s.l.length ≤ s.l.length + 0 from Nat.le_refl _)
  clear h hz hl
  go_enter Tryz.func149, Tryz.ntmps149
  have d14 := t0.out.lookD.1.trans (by rw [hz0.out.d0])
  have d15 := t0.out.lookD.2.1.trans (by rw [hz0.out.d1])
  have d16 := t0.out.lookD.2.2.1
  have d17 := t0.out.lookD.2.2.2
  obtain ⟨b1, hb1, b1b⟩ : ∃ x : Nat, bitV c cd nd = x ∧ x < 256 := ⟨_, rfl, bitV_lt _ _ _ hz0.out.c hz0.out.nd⟩
  replace hb1 := Lib.hid hb1
  have HB := bitOf_any cd nd z.d2 z.d3 t0.out hz0.out.n0 hz0.out.c hz0.out.nd hcd
  rw [hb1.out] at HB
  have H1 := HB
  replace H1 := Lib.hid H1
  go_wp2_with fail
  with_reducible refine H1.out.mono ?_
  rintro e w1 ⟨rfl, b1⟩
  have t1 := Lib.hid (t0.out.below b1)
  have k1 := Lib.hid (k0.out.trans (Kp.below b1))
  clear b1 H1
  clear d14 d15 d16 d17
  obtain ⟨kf2, cp2, cf2, hen2, H2⟩ := (hz0.out.stay t0.out k1.out).readD t1.out hrx.out (by have := hl0.out; have := se0.out; omega)
  replace H2 := Lib.hid H2
  go_wp2_with fail
  with_reducible refine H2.out.mono ?_
  rintro e w2 ⟨s2, t2, k2, l2, (⟨v2, r2, q2, rfl⟩ | ⟨g2, rfl⟩)⟩
  rotate_left
  · skip
    have e_b1 := hb1.out
    (try subst e_b1)
    have hf := Lib.hid (F.out lackE _ ⟨s2, t2, k1.out.trans k2, (by have := se0.out; omega), .inr ⟨Gave.bind g2, rfl⟩⟩)
    clear F
    unfold lackE at hf ⊢
    go_wp2_with fail
    first | exact hf.out | exact ⟨rfl, hf.out⟩
  replace k2 := Lib.hid (k1.out.trans k2)
  have se2 := Lib.hid (show s2.l.length ≤ s.l.length + 3 from (by have := se0.out; omega))
  replace t2 := Lib.hid t2
  replace r2 := Lib.hid r2
  clear H2 l2
  clear cf2 hen2
  unfold byteV
  have q2h := Lib.hid q2
  obtain ⟨on, hon⟩ : ∃ on, hasP s2.r.P 1 = on := ⟨_, rfl⟩
  have HF := flag_any 1 1 rfl t2.out (by decide)
  rw [hon] at HF
  obtain ⟨x0, hx0, x0b, x0w⟩ : ∃ x : Nat, v2 &&& (255 - b1) = x ∧ x < 256 ∧ bits .andNot .u8 (v2 : Int) (b1 : Int) = (x : Int) := ⟨_, rfl, and_lt256 _ _ q2h.out, u8_andNot_nat v2 b1 q2h.out b1b⟩
  replace hx0 := Lib.hid hx0
  have H3 := HF
  replace H3 := Lib.hid H3
  go_wp2_with fail
  with_reducible refine H3.out.mono ?_
  rintro e w3 ⟨rfl, hw3⟩
  rw [hw3]
  clear hw3 w3 H3
  obtain ⟨x1, hx1, x1b⟩ : ∃ x : Nat, layBit v2 b1 on = x ∧ x < 256 := ⟨_, rfl, layBit_lt _ _ _ q2h.out b1b⟩
  replace hx1 := Lib.hid hx1
  have a9 := Lib.hid (show Ran (M.ask fun r => layBit v2 b1 (hasP r.P 1)) s2 x1 s2 from by rw [← hx1.out, ← hon]; exact Ran.ask (fun r => layBit v2 b1 (hasP r.P 1)) s2)
  have e9 : on = true → bits .or .u8 (x0 : Int) (b1 : Int) = (x1 : Int) := by
    intro hh
    rw [u8_or_nat x0 b1 x0b b1b, ← hx1.out, ← hx0.out, hh]
    rfl
  have e8 : on = false → x0 = x1 := by
    intro hh
    rw [← hx1.out, ← hx0.out, hh]
    rfl
  clear hon
  replace e8 := Lib.hid e8
  replace e9 := Lib.hid e9
  have hx1k := Lib.hid x1b
  cases on
  have e7 := e8.out rfl
  rotate_left
  have e7 := e9.out rfl
  all_goals
    clear e8 e9
    first | (have e6 := e7.symm; subst e6) | skip
    obtain ⟨kf4, cp4, cf4, hen4, H4⟩ := (hz0.out.stay t0.out k2.out).writeD t2.out hw (x1) hx1k.out (by have := hl0.out; have := se2.out; omega)
    replace H4 := Lib.hid H4
    go_wp2_with fail
    with_reducible refine H4.out.mono ?_
    rintro e w4 ⟨s4, t4, k4, l4, (⟨_u4, r4, q4, rfl⟩ | ⟨g4, rfl⟩)⟩
    rotate_left
    · skip
      have e_b1 := hb1.out
      (try subst e_b1)
      have e_x0 := hx0.out
      (try subst e_x0)
      have e_x1 := hx1.out
      (try subst e_x1)
      have hf := Lib.hid (F.out lackE _ ⟨s4, t4, k2.out.trans k4, (by have := se2.out; omega), .inr ⟨Gave.then r2.out (Gave.then a9.out (g4)), rfl⟩⟩)
      clear F
      unfold lackE at hf ⊢
      go_wp2_with fail
      first | exact hf.out | exact ⟨rfl, hf.out⟩
    replace k4 := Lib.hid (k2.out.trans k4)
    have se4 := Lib.hid (show s4.l.length ≤ s.l.length + 6 from (by have := se2.out; omega))
    replace t4 := Lib.hid t4
    replace r4 := Lib.hid r4
    clear H4 l4
    clear cf4 hen4
    unfold unitV
    have e_b1 := hb1.out
    try subst e_b1
    have e_x0 := hx0.out
    try subst e_x0
    have e_x1 := hx1.out
    try subst e_x1
    have hf := Lib.hid (F.out (.returned (unitV ())) _ (Post.done (r2.out.bind (a9.out.bind (r4.out))) t4.out k4.out trivial (by have := se4.out; omega)))
    unfold unitV at hf
    clear F
    go_wp2_with fail
    first | exact hf.out | (go_end0; exact hf.out) | (go_ret; exact hf.out)
theorem moveBit_any (h : Tk K z s w) (hz : Zd K z w c nm fm cd nd co no) (hr : cd = 67 ∧ readable co ∨ cd ≠ 67 ∧ readable cd ∧ writable cd) (hcd : cd < 256) (hco : co < 256) (hl : s.l.length ≤ 80) :
    Calls Tryz.prog 149 #[.pointer (some ⟨K.b, 0, none⟩)] w (Post K z s w (if cd = 67 then moveBitCM c co no else moveBitDM c cd nd) unitV (fun _ => True) 12) := by
  rcases hr with ⟨h1, h2⟩ | ⟨h1, h2, h3⟩
  · rw [if_pos h1]
    exact moveBitC_any h hz h2 hco h1 hl
  · rw [if_neg h1]
    exact moveBitD_any h hz h2 h3 hcd h1 hl
end
end Go.Proofs.YtknlbmjncginnaaGreatDoor
