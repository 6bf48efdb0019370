/-
  The board that is known to answer.
-/
import Derived.Test.YthhahhmdpjchkaaNewB
namespace Go.Proofs.Ythhahhmdpjchkaa
open Go.RowKit Go.Shelf
set_option maxRecDepth 100000
set_option maxHeartbeats 1000000

theorem p1 : spot 1 2 2048 32769 = (1, 1) := by
  unfold spot
  rw [spot_is_rom (l := 1) (by decide) (.inr (by decide)) (by decide)]
  rw [show romAt 1 (32769 / 65536 % 256) (32769 % 65536) = 1 by decide, lead_below (by decide)]
theorem p2 : spot 1 2 2048 7340032 = (2, 0) := by
  unfold spot
  rw [spot_is_ram (l := 1) (by decide) (by decide) (by decide)]
  rfl
theorem p3 : spot 1 2 2048 0 = (0, 0) := by
  unfold spot
  exact spot_is_none (l := 1) (.inr (by decide)) (by decide)
theorem p4 : spot 1 2 2048 7342081 = (2, 1) := by
  unfold spot
  rw [spot_is_ram (l := 1) (by decide) (by decide) (by decide)]
  rfl
theorem plain_any (w : World) : Calls Try.prog 22 #[] w fun e w' => e = .returned (.bool true) ∧ Below w.heap.size w w' := by
  have hC := Whole.fresh w 5 #[.int .u8 7, .int .u8 8]
  have hB0 : Below w.heap.size w (w.alloc (.cells #[.int .u8 7, .int .u8 8] 5)) := (Below.refl _ w).alloc (Nat.le_refl _) _
  have hR : Row (w.alloc (.cells #[.int .u8 7, .int .u8 8] 5)) (some ⟨w.heap.size, 0, none⟩) 2 (fun i => if i = 0 then 7 else 8) :=
    ⟨fun i hi => by dsimp only; split <;> omega, .inr ⟨w.heap.size, 0, rfl, hC.lt, fun i hi => by
      rw [Nat.zero_add]
      rcases (show i = 0 ∨ i = 1 by omega) with rfl | rfl
      · exact hC.cell 0
      · exact hC.cell 1⟩⟩
  have HN := Lib.hid (new_ok 1 2 2 2048 w.heap.size (fun i => if i = 0 then 7 else 8) _ hR ⟨by decide, by decide⟩ (by decide) (by decide) (by decide))
  have hlt := hC.lt
  have hs : (w.alloc (.cells #[.int .u8 7, .int .u8 8] 5)).heap.size = w.heap.size + 1 := by simp
  clear hR hC
  simp only [cartV, cartCells] at HN
  go_enter Try.func22, Try.ntmps22
  go_wp2_with fail
  refine HN.out.mono ?_
  rintro e W1 ⟨b, R, M, X, cap, rfl, hBr, hbl, hRl, hMl, hXl, hB1⟩
  have hB2 := hB0.trans (hB1.mono (Nat.le_of_lt hlt))
  have h1 := hB2.size
  clear HN hB0 hB1 hlt
  go_wp2_with fail
  have HQ := read_any 32769 W1 hBr (by decide)
  rw [p1] at HQ
  replace HQ := Lib.hid HQ
  refine HQ.out.mono ?_
  rintro e W2 ⟨rfl, hB3⟩
  have hBr2 := hBr.below hB3
  have hB4 := hB2.trans (hB3.mono h1)
  have h2 := hB4.size
  clear hB2 hB3 hBr HQ
  have HW := write_any 7340032 9 W2 hBr2 (by decide) (by decide)
  rw [p2] at HW
  replace HW := Lib.hid HW
  go_wp2_with fail
  refine HW.out.mono ?_
  rintro e W3 ⟨rfl, hBr3, hO⟩
  have hB5 := below_only hB4 hO (by omega) h2
  have h3 := hB5.size
  clear HW hBr2 hB4 hO
  have HV := write_any 0 9 W3 hBr3 (by decide) (by decide)
  rw [p3] at HV
  replace HV := Lib.hid HV
  go_wp2_with fail
  refine HV.out.mono ?_
  rintro e W4 ⟨rfl, hBr4, hO⟩
  have hB6 := below_only hB5 hO (by omega) h3
  have h4 := hB6.size
  clear HV hBr3 hB5 hO
  have HD := decode_any 7342081 W4 hBr4 (by decide)
  rw [p4] at HD
  simp only [spotV] at HD
  replace HD := Lib.hid HD
  go_wp2_with fail
  refine HD.out.mono ?_
  rintro e W5 ⟨rfl, hB7⟩
  have hB8 := hB6.trans (hB7.mono h4)
  clear HD hBr4 hB6 hB7
  go_wp2_with fail
  go_ret
  exact ⟨rfl, hB8⟩
end Go.Proofs.Ythhahhmdpjchkaa
