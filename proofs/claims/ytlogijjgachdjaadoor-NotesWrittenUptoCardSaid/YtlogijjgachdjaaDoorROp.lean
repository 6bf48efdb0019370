/-
  An operand as it is written, by the document.
-/
import Derived.Test.YtlogijjgachdjaaDoorRHex
import Derived.Test.YtlogijjgachdjaaDoorMap
namespace Go.Proofs.YtlogijjgachdjaaDoor
open Go.RowKit
set_option maxRecDepth 100000
set_option maxHeartbeats 4000000
set_option linter.unusedVariables false

def OpDo (l c v nx : Nat) (w : World) : Prop := Calls Tryd.prog 28 #[.int .u8 l, .int .i64 v, .int .u8 c, .int .u16 nx] w fun e w' => e = .returned (.string (bsOf (opL l c v nx))) ∧ Below w.heap.size w w'
theorem rop_65 (c v nx : Nat) (w : World) : OpDo 65 c v nx w := by
  unfold OpDo
  rw [show bsOf (opL 65 c v nx) = (⟨#[65]⟩ : ByteArray) by rw [show opL 65 c v nx = [65] from rfl]; decide +kernel]
  have hX := Whole.fresh w 5 #[.int .u8 65]
  have hcv := run_convert_bytes_back (P := Tryd.prog) (w.alloc (.cells #[.int .u8 65] 5)) 33 9 5 ⟨w.heap.size, 0, none⟩ 1 [65] Tryd.underlying33 Tryd.underlying5 Tryd.underlying9 (fun j hj => by obtain rfl : j = 0 := (by simpa using hj); rw [Addr.add_lit]; exact hX.cell 0)
  have hcv2 : (convert 33 9 (.slice (some ⟨w.heap.size, 0, none⟩) 1 1)).run Tryd.prog (w.alloc (.cells #[.int .u8 65] 5)) = .ok (.string ⟨#[65]⟩) (w.alloc (.cells #[.int .u8 65] 5)) := hcv
  have hB := (Below.refl w.heap.size w).alloc (Nat.le_refl _) (.cells #[.int .u8 65] 5)
  clear hcv hX
  go_enter Tryd.func28, Tryd.ntmps28
  go_wp2_with fail
  go_ret
  exact ⟨rfl, hB⟩
theorem rop_88 (c v nx : Nat) (w : World) : OpDo 88 c v nx w := by
  unfold OpDo
  rw [show bsOf (opL 88 c v nx) = (⟨#[88]⟩ : ByteArray) by rw [show opL 88 c v nx = [88] from rfl]; decide +kernel]
  have hX := Whole.fresh w 5 #[.int .u8 88]
  have hcv := run_convert_bytes_back (P := Tryd.prog) (w.alloc (.cells #[.int .u8 88] 5)) 33 9 5 ⟨w.heap.size, 0, none⟩ 1 [88] Tryd.underlying33 Tryd.underlying5 Tryd.underlying9 (fun j hj => by obtain rfl : j = 0 := (by simpa using hj); rw [Addr.add_lit]; exact hX.cell 0)
  have hcv2 : (convert 33 9 (.slice (some ⟨w.heap.size, 0, none⟩) 1 1)).run Tryd.prog (w.alloc (.cells #[.int .u8 88] 5)) = .ok (.string ⟨#[88]⟩) (w.alloc (.cells #[.int .u8 88] 5)) := hcv
  have hB := (Below.refl w.heap.size w).alloc (Nat.le_refl _) (.cells #[.int .u8 88] 5)
  clear hcv hX
  go_enter Tryd.func28, Tryd.ntmps28
  go_wp2_with fail
  go_ret
  exact ⟨rfl, hB⟩
theorem rop_89 (c v nx : Nat) (w : World) : OpDo 89 c v nx w := by
  unfold OpDo
  rw [show bsOf (opL 89 c v nx) = (⟨#[89]⟩ : ByteArray) by rw [show opL 89 c v nx = [89] from rfl]; decide +kernel]
  have hX := Whole.fresh w 5 #[.int .u8 89]
  have hcv := run_convert_bytes_back (P := Tryd.prog) (w.alloc (.cells #[.int .u8 89] 5)) 33 9 5 ⟨w.heap.size, 0, none⟩ 1 [89] Tryd.underlying33 Tryd.underlying5 Tryd.underlying9 (fun j hj => by obtain rfl : j = 0 := (by simpa using hj); rw [Addr.add_lit]; exact hX.cell 0)
  have hcv2 : (convert 33 9 (.slice (some ⟨w.heap.size, 0, none⟩) 1 1)).run Tryd.prog (w.alloc (.cells #[.int .u8 89] 5)) = .ok (.string ⟨#[89]⟩) (w.alloc (.cells #[.int .u8 89] 5)) := hcv
  have hB := (Below.refl w.heap.size w).alloc (Nat.le_refl _) (.cells #[.int .u8 89] 5)
  clear hcv hX
  go_enter Tryd.func28, Tryd.ntmps28
  go_wp2_with fail
  go_ret
  exact ⟨rfl, hB⟩
theorem rop_87 (c v nx : Nat) (w : World) : OpDo 87 c v nx w := by
  unfold OpDo
  rw [show bsOf (opL 87 c v nx) = (⟨#[89, 65]⟩ : ByteArray) by rw [show opL 87 c v nx = [89, 65] from rfl]; decide +kernel]
  have hB := Below.refl w.heap.size w
  go_enter Tryd.func28, Tryd.ntmps28
  go_wp2_with fail
  go_ret
  exact ⟨rfl, hB⟩
theorem rop_67 (c v nx : Nat) (w : World) : OpDo 67 c v nx w := by
  unfold OpDo
  rw [show bsOf (opL 67 c v nx) = (⟨#[67]⟩ : ByteArray) by rw [show opL 67 c v nx = [67] from rfl]; decide +kernel]
  have hX := Whole.fresh w 5 #[.int .u8 67]
  have hcv := run_convert_bytes_back (P := Tryd.prog) (w.alloc (.cells #[.int .u8 67] 5)) 33 9 5 ⟨w.heap.size, 0, none⟩ 1 [67] Tryd.underlying33 Tryd.underlying5 Tryd.underlying9 (fun j hj => by obtain rfl : j = 0 := (by simpa using hj); rw [Addr.add_lit]; exact hX.cell 0)
  have hcv2 : (convert 33 9 (.slice (some ⟨w.heap.size, 0, none⟩) 1 1)).run Tryd.prog (w.alloc (.cells #[.int .u8 67] 5)) = .ok (.string ⟨#[67]⟩) (w.alloc (.cells #[.int .u8 67] 5)) := hcv
  have hB := (Below.refl w.heap.size w).alloc (Nat.le_refl _) (.cells #[.int .u8 67] 5)
  clear hcv hX
  go_enter Tryd.func28, Tryd.ntmps28
  go_wp2_with fail
  go_ret
  exact ⟨rfl, hB⟩
theorem rop_83 (c v nx : Nat) (w : World) : OpDo 83 c v nx w := by
  unfold OpDo
  rw [show bsOf (opL 83 c v nx) = (⟨#[83, 80]⟩ : ByteArray) by rw [show opL 83 c v nx = [83, 80] from rfl]; decide +kernel]
  have hB := Below.refl w.heap.size w
  go_enter Tryd.func28, Tryd.ntmps28
  go_wp2_with fail
  go_ret
  exact ⟨rfl, hB⟩
theorem rop_80 (c v nx : Nat) (w : World) : OpDo 80 c v nx w := by
  unfold OpDo
  rw [show bsOf (opL 80 c v nx) = (⟨#[80, 83, 87]⟩ : ByteArray) by rw [show opL 80 c v nx = [80, 83, 87] from rfl]; decide +kernel]
  have hB := Below.refl w.heap.size w
  go_enter Tryd.func28, Tryd.ntmps28
  go_wp2_with fail
  go_ret
  exact ⟨rfl, hB⟩
theorem rop_105 (c v nx : Nat) (w : World) : OpDo 105 c v nx w := by
  unfold OpDo
  rw [show bsOf (opL 105 c v nx) = (⟨#[40, 88, 41]⟩ : ByteArray) by rw [show opL 105 c v nx = [40, 88, 41] from rfl]; decide +kernel]
  have hB := Below.refl w.heap.size w
  go_enter Tryd.func28, Tryd.ntmps28
  go_wp2_with fail
  go_ret
  exact ⟨rfl, hB⟩
theorem rop_106 (c v nx : Nat) (w : World) : OpDo 106 c v nx w := by
  unfold OpDo
  rw [show bsOf (opL 106 c v nx) = (⟨#[40, 89, 41]⟩ : ByteArray) by rw [show opL 106 c v nx = [40, 89, 41] from rfl]; decide +kernel]
  have hB := Below.refl w.heap.size w
  go_enter Tryd.func28, Tryd.ntmps28
  go_wp2_with fail
  go_ret
  exact ⟨rfl, hB⟩
theorem rop_43 (c v nx : Nat) (w : World) : OpDo 43 c v nx w := by
  unfold OpDo
  rw [show bsOf (opL 43 c v nx) = (⟨#[40, 88, 41, 43]⟩ : ByteArray) by rw [show opL 43 c v nx = [40, 88, 41, 43] from rfl]; decide +kernel]
  have hB := Below.refl w.heap.size w
  go_enter Tryd.func28, Tryd.ntmps28
  go_wp2_with fail
  go_ret
  exact ⟨rfl, hB⟩
theorem rop_35 (c v nx : Nat) (w : World) (hv : v < 65536) : OpDo 35 c v nx w := by
  unfold OpDo
  have HX := fun W => rhex_any v 2 W (by omega) (by omega)
  have hT : (⟨#[35]⟩ : ByteArray) ++ bsOf (hxL v 2) = bsOf (opL 35 c v nx) := by
    rw [show opL 35 c v nx = [35] ++ hxL v 2 ++ [] from rfl, bsOf_append, bsOf_append]
    rw [show bsOf [35] = (⟨#[35]⟩ : ByteArray) by decide +kernel, show bsOf [] = ByteArray.empty by decide +kernel]
    simp
  have hsz : (bsOf (hxL v 2)).size = 2 := by rw [bsOf_size, hxL_len]
  generalize bsOf (hxL v 2) = H at *
  generalize bsOf (opL 35 c v nx) = T at *
  have m1 : (9223372036854775807 < 1 + H.size) = False := by rw [eq_iff_iff, iff_false]; omega
  replace hT := Lib.hid hT
  replace HX := Lib.hid HX
  clear hsz
  go_enter Tryd.func28, Tryd.ntmps28
  go_wp2_with (refine (HX.out _).mono ?_; rintro e w' ⟨rfl, rfl⟩)
  go_ret
  exact ⟨by rw [← hT.out]; rfl, Below.refl _ _⟩
theorem rop_100 (c v nx : Nat) (w : World) (hv : v < 65536) : OpDo 100 c v nx w := by
  unfold OpDo
  have HX := fun W => rhex_any v 2 W (by omega) (by omega)
  have hT : bsOf (hxL v 2) = bsOf (opL 100 c v nx) := by
    rw [show opL 100 c v nx = [] ++ hxL v 2 ++ [] from rfl, bsOf_append, bsOf_append]
    rw [show bsOf [] = ByteArray.empty by decide +kernel]
    simp
  have hsz : (bsOf (hxL v 2)).size = 2 := by rw [bsOf_size, hxL_len]
  generalize bsOf (hxL v 2) = H at *
  generalize bsOf (opL 100 c v nx) = T at *
  replace hT := Lib.hid hT
  replace HX := Lib.hid HX
  clear hsz
  go_enter Tryd.func28, Tryd.ntmps28
  go_wp2_with (refine (HX.out _).mono ?_; rintro e w' ⟨rfl, rfl⟩)
  go_ret
  exact ⟨by rw [← hT.out]; rfl, Below.refl _ _⟩
theorem rop_68 (c v nx : Nat) (w : World) (hv : v < 65536) : OpDo 68 c v nx w := by
  unfold OpDo
  have HX := fun W => rhex_any v 2 W (by omega) (by omega)
  have hT : bsOf (hxL v 2) = bsOf (opL 68 c v nx) := by
    rw [show opL 68 c v nx = [] ++ hxL v 2 ++ [] from rfl, bsOf_append, bsOf_append]
    rw [show bsOf [] = ByteArray.empty by decide +kernel]
    simp
  have hsz : (bsOf (hxL v 2)).size = 2 := by rw [bsOf_size, hxL_len]
  generalize bsOf (hxL v 2) = H at *
  generalize bsOf (opL 68 c v nx) = T at *
  replace hT := Lib.hid hT
  replace HX := Lib.hid HX
  clear hsz
  go_enter Tryd.func28, Tryd.ntmps28
  go_wp2_with (refine (HX.out _).mono ?_; rintro e w' ⟨rfl, rfl⟩)
  go_ret
  exact ⟨by rw [← hT.out]; rfl, Below.refl _ _⟩
theorem rop_120 (c v nx : Nat) (w : World) (hv : v < 65536) : OpDo 120 c v nx w := by
  unfold OpDo
  have HX := fun W => rhex_any v 2 W (by omega) (by omega)
  have hT : bsOf (hxL v 2) ++ (⟨#[43, 88]⟩ : ByteArray) = bsOf (opL 120 c v nx) := by
    rw [show opL 120 c v nx = [] ++ hxL v 2 ++ [43, 88] from rfl, bsOf_append, bsOf_append]
    rw [show bsOf [] = ByteArray.empty by decide +kernel, show bsOf [43, 88] = (⟨#[43, 88]⟩ : ByteArray) by decide +kernel]
    simp
  have hsz : (bsOf (hxL v 2)).size = 2 := by rw [bsOf_size, hxL_len]
  generalize bsOf (hxL v 2) = H at *
  generalize bsOf (opL 120 c v nx) = T at *
  have m2 : (9223372036854775807 < H.size + 2) = False := by rw [eq_iff_iff, iff_false]; omega
  replace hT := Lib.hid hT
  replace HX := Lib.hid HX
  clear hsz
  go_enter Tryd.func28, Tryd.ntmps28
  go_wp2_with (refine (HX.out _).mono ?_; rintro e w' ⟨rfl, rfl⟩)
  go_ret
  exact ⟨by rw [← hT.out]; rfl, Below.refl _ _⟩
theorem rop_121 (c v nx : Nat) (w : World) (hv : v < 65536) : OpDo 121 c v nx w := by
  unfold OpDo
  have HX := fun W => rhex_any v 2 W (by omega) (by omega)
  have hT : bsOf (hxL v 2) ++ (⟨#[43, 89]⟩ : ByteArray) = bsOf (opL 121 c v nx) := by
    rw [show opL 121 c v nx = [] ++ hxL v 2 ++ [43, 89] from rfl, bsOf_append, bsOf_append]
    rw [show bsOf [] = ByteArray.empty by decide +kernel, show bsOf [43, 89] = (⟨#[43, 89]⟩ : ByteArray) by decide +kernel]
    simp
  have hsz : (bsOf (hxL v 2)).size = 2 := by rw [bsOf_size, hxL_len]
  generalize bsOf (hxL v 2) = H at *
  generalize bsOf (opL 121 c v nx) = T at *
  have m2 : (9223372036854775807 < H.size + 2) = False := by rw [eq_iff_iff, iff_false]; omega
  replace hT := Lib.hid hT
  replace HX := Lib.hid HX
  clear hsz
  go_enter Tryd.func28, Tryd.ntmps28
  go_wp2_with (refine (HX.out _).mono ?_; rintro e w' ⟨rfl, rfl⟩)
  go_ret
  exact ⟨by rw [← hT.out]; rfl, Below.refl _ _⟩
theorem rop_108 (c v nx : Nat) (w : World) (hv : v < 65536) : OpDo 108 c v nx w := by
  unfold OpDo
  have HX := fun W => rhex_any v 2 W (by omega) (by omega)
  have hT : (⟨#[91]⟩ : ByteArray) ++ bsOf (hxL v 2) ++ (⟨#[43, 88, 93]⟩ : ByteArray) = bsOf (opL 108 c v nx) := by
    rw [show opL 108 c v nx = [91] ++ hxL v 2 ++ [43, 88, 93] from rfl, bsOf_append, bsOf_append]
    rw [show bsOf [91] = (⟨#[91]⟩ : ByteArray) by decide +kernel, show bsOf [43, 88, 93] = (⟨#[43, 88, 93]⟩ : ByteArray) by decide +kernel]
  have hsz : (bsOf (hxL v 2)).size = 2 := by rw [bsOf_size, hxL_len]
  generalize bsOf (hxL v 2) = H at *
  generalize bsOf (opL 108 c v nx) = T at *
  have m1 : (9223372036854775807 < 1 + H.size) = False := by rw [eq_iff_iff, iff_false]; omega
  have m2 : (9223372036854775807 < 1 + H.size + 3) = False := by rw [eq_iff_iff, iff_false]; omega
  replace hT := Lib.hid hT
  replace HX := Lib.hid HX
  clear hsz
  go_enter Tryd.func28, Tryd.ntmps28
  go_wp2_with (refine (HX.out _).mono ?_; rintro e w' ⟨rfl, rfl⟩)
  go_ret
  exact ⟨by rw [← hT.out]; rfl, Below.refl _ _⟩
theorem rop_109 (c v nx : Nat) (w : World) (hv : v < 65536) : OpDo 109 c v nx w := by
  unfold OpDo
  have HX := fun W => rhex_any v 2 W (by omega) (by omega)
  have hT : (⟨#[91]⟩ : ByteArray) ++ bsOf (hxL v 2) ++ (⟨#[93, 43, 89]⟩ : ByteArray) = bsOf (opL 109 c v nx) := by
    rw [show opL 109 c v nx = [91] ++ hxL v 2 ++ [93, 43, 89] from rfl, bsOf_append, bsOf_append]
    rw [show bsOf [91] = (⟨#[91]⟩ : ByteArray) by decide +kernel, show bsOf [93, 43, 89] = (⟨#[93, 43, 89]⟩ : ByteArray) by decide +kernel]
  have hsz : (bsOf (hxL v 2)).size = 2 := by rw [bsOf_size, hxL_len]
  generalize bsOf (hxL v 2) = H at *
  generalize bsOf (opL 109 c v nx) = T at *
  have m1 : (9223372036854775807 < 1 + H.size) = False := by rw [eq_iff_iff, iff_false]; omega
  have m2 : (9223372036854775807 < 1 + H.size + 3) = False := by rw [eq_iff_iff, iff_false]; omega
  replace hT := Lib.hid hT
  replace HX := Lib.hid HX
  clear hsz
  go_enter Tryd.func28, Tryd.ntmps28
  go_wp2_with (refine (HX.out _).mono ?_; rintro e w' ⟨rfl, rfl⟩)
  go_ret
  exact ⟨by rw [← hT.out]; rfl, Below.refl _ _⟩
theorem rop_117 (c v nx : Nat) (w : World) (hv : v < 65536) : OpDo 117 c v nx w := by
  unfold OpDo
  have HX := fun W => rhex_any v 2 W (by omega) (by omega)
  have hT : (⟨#[70, 70]⟩ : ByteArray) ++ bsOf (hxL v 2) = bsOf (opL 117 c v nx) := by
    rw [show opL 117 c v nx = [70, 70] ++ hxL v 2 ++ [] from rfl, bsOf_append, bsOf_append]
    rw [show bsOf [70, 70] = (⟨#[70, 70]⟩ : ByteArray) by decide +kernel, show bsOf [] = ByteArray.empty by decide +kernel]
    simp
  have hsz : (bsOf (hxL v 2)).size = 2 := by rw [bsOf_size, hxL_len]
  generalize bsOf (hxL v 2) = H at *
  generalize bsOf (opL 117 c v nx) = T at *
  have m1 : (9223372036854775807 < 2 + H.size) = False := by rw [eq_iff_iff, iff_false]; omega
  replace hT := Lib.hid hT
  replace HX := Lib.hid HX
  clear hsz
  go_enter Tryd.func28, Tryd.ntmps28
  go_wp2_with (refine (HX.out _).mono ?_; rintro e w' ⟨rfl, rfl⟩)
  go_ret
  exact ⟨by rw [← hT.out]; rfl, Below.refl _ _⟩
theorem rop_97 (c v nx : Nat) (w : World) (hv : v < 65536) : OpDo 97 c v nx w := by
  unfold OpDo
  have HX := fun W => rhex_any v 4 W (by omega) (by omega)
  have hT : (⟨#[33]⟩ : ByteArray) ++ bsOf (hxL v 4) = bsOf (opL 97 c v nx) := by
    rw [show opL 97 c v nx = [33] ++ hxL v 4 ++ [] from rfl, bsOf_append, bsOf_append]
    rw [show bsOf [33] = (⟨#[33]⟩ : ByteArray) by decide +kernel, show bsOf [] = ByteArray.empty by decide +kernel]
    simp
  have hsz : (bsOf (hxL v 4)).size = 4 := by rw [bsOf_size, hxL_len]
  generalize bsOf (hxL v 4) = H at *
  generalize bsOf (opL 97 c v nx) = T at *
  have m1 : (9223372036854775807 < 1 + H.size) = False := by rw [eq_iff_iff, iff_false]; omega
  replace hT := Lib.hid hT
  replace HX := Lib.hid HX
  clear hsz
  go_enter Tryd.func28, Tryd.ntmps28
  go_wp2_with (refine (HX.out _).mono ?_; rintro e w' ⟨rfl, rfl⟩)
  go_ret
  exact ⟨by rw [← hT.out]; rfl, Below.refl _ _⟩
theorem rop_112 (c v nx : Nat) (w : World) (hv : v < 65536) : OpDo 112 c v nx w := by
  unfold OpDo
  have HX := fun W => rhex_any v 4 W (by omega) (by omega)
  have hT : (⟨#[33]⟩ : ByteArray) ++ bsOf (hxL v 4) ++ (⟨#[43, 88]⟩ : ByteArray) = bsOf (opL 112 c v nx) := by
    rw [show opL 112 c v nx = [33] ++ hxL v 4 ++ [43, 88] from rfl, bsOf_append, bsOf_append]
    rw [show bsOf [33] = (⟨#[33]⟩ : ByteArray) by decide +kernel, show bsOf [43, 88] = (⟨#[43, 88]⟩ : ByteArray) by decide +kernel]
  have hsz : (bsOf (hxL v 4)).size = 4 := by rw [bsOf_size, hxL_len]
  generalize bsOf (hxL v 4) = H at *
  generalize bsOf (opL 112 c v nx) = T at *
  have m1 : (9223372036854775807 < 1 + H.size) = False := by rw [eq_iff_iff, iff_false]; omega
  have m2 : (9223372036854775807 < 1 + H.size + 2) = False := by rw [eq_iff_iff, iff_false]; omega
  replace hT := Lib.hid hT
  replace HX := Lib.hid HX
  clear hsz
  go_enter Tryd.func28, Tryd.ntmps28
  go_wp2_with (refine (HX.out _).mono ?_; rintro e w' ⟨rfl, rfl⟩)
  go_ret
  exact ⟨by rw [← hT.out]; rfl, Below.refl _ _⟩
theorem rop_113 (c v nx : Nat) (w : World) (hv : v < 65536) : OpDo 113 c v nx w := by
  unfold OpDo
  have HX := fun W => rhex_any v 4 W (by omega) (by omega)
  have hT : (⟨#[33]⟩ : ByteArray) ++ bsOf (hxL v 4) ++ (⟨#[43, 89]⟩ : ByteArray) = bsOf (opL 113 c v nx) := by
    rw [show opL 113 c v nx = [33] ++ hxL v 4 ++ [43, 89] from rfl, bsOf_append, bsOf_append]
    rw [show bsOf [33] = (⟨#[33]⟩ : ByteArray) by decide +kernel, show bsOf [43, 89] = (⟨#[43, 89]⟩ : ByteArray) by decide +kernel]
  have hsz : (bsOf (hxL v 4)).size = 4 := by rw [bsOf_size, hxL_len]
  generalize bsOf (hxL v 4) = H at *
  generalize bsOf (opL 113 c v nx) = T at *
  have m1 : (9223372036854775807 < 1 + H.size) = False := by rw [eq_iff_iff, iff_false]; omega
  have m2 : (9223372036854775807 < 1 + H.size + 2) = False := by rw [eq_iff_iff, iff_false]; omega
  replace hT := Lib.hid hT
  replace HX := Lib.hid HX
  clear hsz
  go_enter Tryd.func28, Tryd.ntmps28
  go_wp2_with (refine (HX.out _).mono ?_; rintro e w' ⟨rfl, rfl⟩)
  go_ret
  exact ⟨by rw [← hT.out]; rfl, Below.refl _ _⟩
theorem rop_42 (c v nx : Nat) (w : World) (hv : v < 65536) : OpDo 42 c v nx w := by
  unfold OpDo
  have HX := fun W => rhex_any v 4 W (by omega) (by omega)
  have hT : (⟨#[91, 33]⟩ : ByteArray) ++ bsOf (hxL v 4) ++ (⟨#[43, 88, 93]⟩ : ByteArray) = bsOf (opL 42 c v nx) := by
    rw [show opL 42 c v nx = [91, 33] ++ hxL v 4 ++ [43, 88, 93] from rfl, bsOf_append, bsOf_append]
    rw [show bsOf [91, 33] = (⟨#[91, 33]⟩ : ByteArray) by decide +kernel, show bsOf [43, 88, 93] = (⟨#[43, 88, 93]⟩ : ByteArray) by decide +kernel]
  have hsz : (bsOf (hxL v 4)).size = 4 := by rw [bsOf_size, hxL_len]
  generalize bsOf (hxL v 4) = H at *
  generalize bsOf (opL 42 c v nx) = T at *
  have m1 : (9223372036854775807 < 2 + H.size) = False := by rw [eq_iff_iff, iff_false]; omega
  have m2 : (9223372036854775807 < 2 + H.size + 3) = False := by rw [eq_iff_iff, iff_false]; omega
  replace hT := Lib.hid hT
  replace HX := Lib.hid HX
  clear hsz
  go_enter Tryd.func28, Tryd.ntmps28
  go_wp2_with (refine (HX.out _).mono ?_; rintro e w' ⟨rfl, rfl⟩)
  go_ret
  exact ⟨by rw [← hT.out]; rfl, Below.refl _ _⟩
theorem rop_110 (c v nx : Nat) (w : World) (hv : v < 65536) : OpDo 110 c v nx w := by
  unfold OpDo
  have HX := fun W => rhex_any (v % 8192) 4 W (by omega) (by omega)
  have HI := fun W => rtens_any (v / 8192) W (by omega)
  have hm : (v : Int) % 8192 = ((v % 8192 : Nat) : Int) := by omega
  have hq : (v : Int) / 8192 = ((v / 8192 : Nat) : Int) := by omega
  have l3 := bsOf_size (hxL (v % 8192) 4)
  have l4 := bsOf_size (tnL (v / 8192))
  have l5 : (tnL (v / 8192)).length ≤ 2 := by unfold tnL; split <;> simp
  rw [hxL_len] at l3
  have hT : bsOf (hxL (v % 8192) 4) ++ (⟨#[46]⟩ : ByteArray) ++ bsOf (tnL (v / 8192)) = bsOf (opL 110 c v nx) := by
    rw [show opL 110 c v nx = [] ++ hxL (v % 8192) 4 ++ [46] ++ tnL (v / 8192) from rfl, bsOf_append, bsOf_append, bsOf_append, show bsOf [46] = (⟨#[46]⟩ : ByteArray) by decide +kernel, show bsOf [] = ByteArray.empty by decide +kernel]
    simp
  generalize bsOf (hxL (v % 8192) 4) = H at *
  generalize bsOf (tnL (v / 8192)) = Q at *
  generalize bsOf (opL 110 c v nx) = T at *
  generalize v % 8192 = na at *
  generalize v / 8192 = nb at *
  have m1 : (9223372036854775807 < H.size + 1) = False := by rw [eq_iff_iff, iff_false]; omega
  have m2 : (9223372036854775807 < H.size + 1 + Q.size) = False := by rw [eq_iff_iff, iff_false]; omega
  replace hT := Lib.hid hT
  replace HX := Lib.hid HX
  replace HI := Lib.hid HI
  clear l3 l4 l5
  go_enter Tryd.func28, Tryd.ntmps28
  go_wp2_with (first | (go_at_call 33; refine (HX.out _).mono ?_; rintro e w' ⟨rfl, rfl⟩) | (go_at_call 36; refine (HI.out _).mono ?_; rintro e w' ⟨rfl, rfl⟩))
  go_ret
  exact ⟨by rw [← hT.out]; rfl, Below.refl _ _⟩
theorem rop_47 (c v nx : Nat) (w : World) (hv : v < 65536) : OpDo 47 c v nx w := by
  unfold OpDo
  have HX := fun W => rhex_any (v % 8192) 4 W (by omega) (by omega)
  have HI := fun W => rtens_any (v / 8192) W (by omega)
  have hm : (v : Int) % 8192 = ((v % 8192 : Nat) : Int) := by omega
  have hq : (v : Int) / 8192 = ((v / 8192 : Nat) : Int) := by omega
  have l3 := bsOf_size (hxL (v % 8192) 4)
  have l4 := bsOf_size (tnL (v / 8192))
  have l5 : (tnL (v / 8192)).length ≤ 2 := by unfold tnL; split <;> simp
  rw [hxL_len] at l3
  have hT : (⟨#[47]⟩ : ByteArray) ++ bsOf (hxL (v % 8192) 4) ++ (⟨#[46]⟩ : ByteArray) ++ bsOf (tnL (v / 8192)) = bsOf (opL 47 c v nx) := by
    rw [show opL 47 c v nx = [47] ++ hxL (v % 8192) 4 ++ [46] ++ tnL (v / 8192) from rfl, bsOf_append, bsOf_append, bsOf_append, show bsOf [46] = (⟨#[46]⟩ : ByteArray) by decide +kernel, show bsOf [47] = (⟨#[47]⟩ : ByteArray) by decide +kernel]
  generalize bsOf (hxL (v % 8192) 4) = H at *
  generalize bsOf (tnL (v / 8192)) = Q at *
  generalize bsOf (opL 47 c v nx) = T at *
  generalize v % 8192 = na at *
  generalize v / 8192 = nb at *
  have m0 : (9223372036854775807 < 1 + H.size) = False := by rw [eq_iff_iff, iff_false]; omega
  have m1 : (9223372036854775807 < 1 + H.size + 1) = False := by rw [eq_iff_iff, iff_false]; omega
  have m2 : (9223372036854775807 < 1 + H.size + 1 + Q.size) = False := by rw [eq_iff_iff, iff_false]; omega
  replace hT := Lib.hid hT
  replace HX := Lib.hid HX
  replace HI := Lib.hid HI
  clear l3 l4 l5
  go_enter Tryd.func28, Tryd.ntmps28
  go_wp2_with (first | (go_at_call 33; refine (HX.out _).mono ?_; rintro e w' ⟨rfl, rfl⟩) | (go_at_call 36; refine (HI.out _).mono ?_; rintro e w' ⟨rfl, rfl⟩))
  go_ret
  exact ⟨by rw [← hT.out]; rfl, Below.refl _ _⟩
theorem rop_98 (c v nx : Nat) (w : World) (hc : c < 256) (hv : v < 65536) : OpDo 98 c v nx w := by
  unfold OpDo
  have HX := fun W => rhex_any v 2 W (by omega) (by omega)
  have HI := fun W => rtens_any (c / 32) W (by omega)
  have hq : (c : Int) / 32 = ((c / 32 : Nat) : Int) := by omega
  have l3 := bsOf_size (hxL v 2)
  have l4 := bsOf_size (tnL (c / 32))
  have l5 : (tnL (c / 32)).length ≤ 2 := by unfold tnL; split <;> simp
  rw [hxL_len] at l3
  have hT : bsOf (hxL v 2) ++ (⟨#[46]⟩ : ByteArray) ++ bsOf (tnL (c / 32)) = bsOf (opL 98 c v nx) := by
    rw [show opL 98 c v nx = hxL v 2 ++ [46] ++ tnL (c / 32) from rfl, bsOf_append, bsOf_append, show bsOf [46] = (⟨#[46]⟩ : ByteArray) by decide +kernel]
  generalize bsOf (hxL v 2) = H at *
  generalize bsOf (tnL (c / 32)) = Q at *
  generalize bsOf (opL 98 c v nx) = T at *
  generalize c / 32 = nb at *
  have m1 : (9223372036854775807 < H.size + 1) = False := by rw [eq_iff_iff, iff_false]; omega
  have m2 : (9223372036854775807 < H.size + 1 + Q.size) = False := by rw [eq_iff_iff, iff_false]; omega
  replace hT := Lib.hid hT
  replace HX := Lib.hid HX
  replace HI := Lib.hid HI
  clear l3 l4 l5
  go_enter Tryd.func28, Tryd.ntmps28
  go_wp2_with (first | (go_at_call 33; refine (HX.out _).mono ?_; rintro e w' ⟨rfl, rfl⟩) | (go_at_call 36; refine (HI.out _).mono ?_; rintro e w' ⟨rfl, rfl⟩))
  go_ret
  exact ⟨by rw [← hT.out]; rfl, Below.refl _ _⟩
theorem rop_116 (c v nx : Nat) (w : World) (hc : c < 256) : OpDo 116 c v nx w := by
  unfold OpDo
  have HI := fun W => rtens_any (c / 16) W (by omega)
  have hq : (c : Int) / 16 = ((c / 16 : Nat) : Int) := by omega
  rw [show opL 116 c v nx = tnL (c / 16) from rfl]
  generalize bsOf (tnL (c / 16)) = Q at *
  generalize c / 16 = nb at *
  replace HI := Lib.hid HI
  go_enter Tryd.func28, Tryd.ntmps28
  go_wp2_with (refine (HI.out _).mono ?_; rintro e w' ⟨rfl, rfl⟩)
  go_ret
  exact ⟨rfl, Below.refl _ _⟩
theorem rop_114 (c v nx : Nat) (w : World) (hv : v < 256) (hnx : nx < 65536) : OpDo 114 c v nx w := by
  unfold OpDo
  have HX := fun W => rhex_any (brF v nx) 4 W (by omega) (by have := brF_lt v nx; omega)
  rw [show opL 114 c v nx = hxL (brF v nx) 4 from rfl]
  have hbr : brF v nx = (nx + (if v < 128 then v else v + 65280)) % 65536 := rfl
  generalize bsOf (hxL (brF v nx) 4) = H at *
  generalize brF v nx = r at *
  by_cases h : v < 128
  · rw [if_pos h] at hbr
    have ht : decide ((127 : Int) < (v : Int)) = false := decide_eq_false (by omega)
    have hr : ((nx : Int) + (v : Int) + 65536) % 65536 = (r : Int) := by omega
    replace HX := Lib.hid HX
    replace hbr := Lib.hid hbr
    go_enter Tryd.func28, Tryd.ntmps28
    go_wp2_with (refine (HX.out _).mono ?_; rintro e w' ⟨rfl, rfl⟩)
    go_ret
    exact ⟨rfl, Below.refl _ _⟩
  · rw [if_neg h] at hbr
    have ht : decide ((127 : Int) < (v : Int)) = true := decide_eq_true (by omega)
    have hr : ((nx : Int) + ((v : Int) - 256) + 65536) % 65536 = (r : Int) := by omega
    replace HX := Lib.hid HX
    replace hbr := Lib.hid hbr
    go_enter Tryd.func28, Tryd.ntmps28
    go_wp2_with (refine (HX.out _).mono ?_; rintro e w' ⟨rfl, rfl⟩)
    go_ret
    exact ⟨rfl, Below.refl _ _⟩
theorem rop_any (l c v nx : Nat) (w : World) (hl : l ∈ [114, 116, 98, 47, 110, 42, 113, 112, 97, 117, 109, 108, 121, 120, 68, 100, 35, 43, 106, 105, 80, 83, 67, 87, 89, 88, 65]) (hc : c < 256) (hv : v < 65536) (hnx : nx < 65536) (hr : l = 114 → v < 256) : OpDo l c v nx w := by
  simp only [List.mem_cons, List.not_mem_nil, or_false] at hl
  rcases hl with rfl | rfl | rfl | rfl | rfl | rfl | rfl | rfl | rfl | rfl | rfl | rfl | rfl | rfl | rfl | rfl | rfl | rfl | rfl | rfl | rfl | rfl | rfl | rfl | rfl | rfl | rfl
  · exact rop_114 c v nx w (hr rfl) hnx
  · exact rop_116 c v nx w hc
  · exact rop_98 c v nx w hc hv
  · exact rop_47 c v nx w hv
  · exact rop_110 c v nx w hv
  · exact rop_42 c v nx w hv
  · exact rop_113 c v nx w hv
  · exact rop_112 c v nx w hv
  · exact rop_97 c v nx w hv
  · exact rop_117 c v nx w hv
  · exact rop_109 c v nx w hv
  · exact rop_108 c v nx w hv
  · exact rop_121 c v nx w hv
  · exact rop_120 c v nx w hv
  · exact rop_68 c v nx w hv
  · exact rop_100 c v nx w hv
  · exact rop_35 c v nx w hv
  · exact rop_43 c v nx w
  · exact rop_106 c v nx w
  · exact rop_105 c v nx w
  · exact rop_80 c v nx w
  · exact rop_83 c v nx w
  · exact rop_67 c v nx w
  · exact rop_87 c v nx w
  · exact rop_89 c v nx w
  · exact rop_88 c v nx w
  · exact rop_65 c v nx w
end Go.Proofs.YtlogijjgachdjaaDoor
