/-
  An operand's text, by the document: two bytes; the letter A; a number.
-/
import Derived.Test.YtmbpkpideepghaaDoorROp
namespace Go.Proofs.YtmbpkpideepghaaDoor
open Go.RowKit
set_option maxRecDepth 100000
set_option maxHeartbeats 1000000
set_option linter.unusedVariables false

theorem num_two (f : Nat → Nat) (h : ∀ i, i < 2 → f i < 256) : numN f 2 = f 0 + 256 * f 1 := by
  simp only [numN]
  have := h 0 (by omega)
  omega
attribute [local irreducible] bytesN numN dolL tgN opL sgL lowL signF
theorem rop_23 (cd : Nat) (nm : ByteArray) (u wd : Nat) (f : Nat → Nat) (pc : Nat) (w : World) (hf : ∀ i, i < 2 → f i < 256) :
    Calls Tryd.prog 38 #[codeV cd nm 23 u wd, .int .i64 (numN f 2 : Nat), .int .i64 2, .int .i64 pc] w fun e w' => e = .returned (.string (bytesN (opL 23 2 f pc))) ∧ Below w.heap.size w w' := by
  have hX := Whole.fresh w 23 #[.int .u8 cd, .string nm, .int .u8 (23 : Nat), .int .u8 u, .int .u8 wd]
  have hB := (Below.refl w.heap.size w).alloc (Nat.le_refl _) (.cells #[.int .u8 cd, .string nm, .int .u8 (23 : Nat), .int .u8 u, .int .u8 wd] 23)
  rw [op_23, num_two f hf, dolL_eq, dolL_eq]
  have h0 := hf 0 (by omega)
  have h1 := hf 1 (by omega)
  have HD := fun x (hx : x < 256) W => digits_any x 2 W (by omega) (by omega)
  simp only [show ((2 : Nat) : Int) = 2 from rfl] at HD
  have HD0 := Lib.hid (HD _ h0)
  have HD1 := Lib.hid (HD _ h1)
  have e : bytesN (36 :: lowL (f 0) 2 ++ 44 :: 36 :: lowL (f 1) 2) = (⟨#[36]⟩ ++ bytesN (lowL (f 0) 2)) ++ ⟨#[44, 36]⟩ ++ bytesN (lowL (f 1) 2) := by
    rw [bytesN_append, bytes_cons 36, bytes_one36, show (44 :: 36 :: lowL (f 1) 2 : List Nat) = [44, 36] ++ lowL (f 1) 2 from rfl, bytesN_append, bytes_two, ByteArray.append_assoc, ByteArray.append_assoc, ByteArray.append_assoc]
  have z0 : (bytesN (lowL (f 0) 2)).size = 2 := by rw [bytesN_size, lowL_len]
  have z1 : (bytesN (lowL (f 1) 2)).size = 2 := by rw [bytesN_size, lowL_len]
  rw [e]
  have m0 : ((f 0 + 256 * f 1 : Nat) : Int) % 256 = (f 0 : Int) := by omega
  have m1 : ((f 0 + 256 * f 1 : Nat) : Int) / 256 = (f 1 : Int) := by omega
  generalize bytesN (lowL (f 0) 2) = T0 at *
  generalize bytesN (lowL (f 1) 2) = T1 at *
  generalize hx : f 0 + 256 * f 1 = x at *
  generalize f 0 = y0 at *
  generalize f 1 = y1 at *
  clear hf e HD
  replace hx := Lib.hid hx
  have x2 := hX.cell 2
  simp only [List.getElem?_toArray, List.getElem?_cons_zero, List.getElem?_cons_succ] at x2
  have l1 : (9223372036854775807 < 1 + T0.size) = False := sum_no _ _ (by omega)
  have s1 : ((⟨#[36]⟩ : ByteArray) ++ T0).size = 3 := by rw [ByteArray.size_append, z0]; rfl
  have l2 : (9223372036854775807 < ((⟨#[36]⟩ : ByteArray) ++ T0).size + 2) = False := sum_no _ _ (by omega)
  have s2 : ((⟨#[36]⟩ : ByteArray) ++ T0 ++ ⟨#[44, 36]⟩).size = 5 := by rw [ByteArray.size_append, s1]; rfl
  have l3 : (9223372036854775807 < ((⟨#[36]⟩ : ByteArray) ++ T0 ++ ⟨#[44, 36]⟩).size + T1.size) = False := sum_no _ _ (by omega)
  unfold codeV
  replace hB := Lib.hid hB
  clear hX
  go_enter Tryd.func38, Tryd.ntmps38
  go_wp2_with fail
  try rw [m0]
  refine (HD0.out _).mono ?_
  rintro e W2 ⟨rfl, rfl⟩
  go_wp2_with fail
  try rw [m1]
  refine (HD1.out _).mono ?_
  rintro e W2 ⟨rfl, rfl⟩
  go_wp2_with fail
  go_ret
  exact ⟨rfl, hB.out⟩
theorem rop_1 (cd : Nat) (nm : ByteArray) (u wd k : Nat) (f : Nat → Nat) (pc : Nat) (x n : Nat) (w : World) :
    Calls Tryd.prog 38 #[codeV cd nm 1 u wd, .int .i64 x, .int .i64 n, .int .i64 pc] w fun e w' => e = .returned (.string (bytesN (opL 1 k f pc))) ∧ Below w.heap.size w w' := by
  have hX := Whole.fresh w 23 #[.int .u8 cd, .string nm, .int .u8 (1 : Nat), .int .u8 u, .int .u8 wd]
  have hB := (Below.refl w.heap.size w).alloc (Nat.le_refl _) (.cells #[.int .u8 cd, .string nm, .int .u8 (1 : Nat), .int .u8 u, .int .u8 wd] 23)
  rw [op_1, show bytesN [65] = ⟨#[65]⟩ by unfold bytesN; rfl]
  have x2 := hX.cell 2
  simp only [List.getElem?_toArray, List.getElem?_cons_zero, List.getElem?_cons_succ] at x2
  unfold codeV
  replace hB := Lib.hid hB
  clear hX
  go_enter Tryd.func38, Tryd.ntmps38
  go_wp2_with fail
  go_ret
  exact ⟨rfl, hB.out⟩
theorem rop_num (cd : Nat) (nm : ByteArray) (m u wd k : Nat) (f : Nat → Nat) (pc : Nat) (w : World) (hm : m = 2 ∨ m = 24 ∨ m = 25) (hk : k ≤ 3) (hf : ∀ i, i < k → f i < 256) :
    Calls Tryd.prog 38 #[codeV cd nm m u wd, .int .i64 (numN f k : Nat), .int .i64 k, .int .i64 pc] w fun e w' => e = .returned (.string (bytesN (opL m k f pc))) ∧ Below w.heap.size w w' := by
  have hX := Whole.fresh w 23 #[.int .u8 cd, .string nm, .int .u8 m, .int .u8 u, .int .u8 wd]
  have hB := (Below.refl w.heap.size w).alloc (Nat.le_refl _) (.cells #[.int .u8 cd, .string nm, .int .u8 m, .int .u8 u, .int .u8 wd] 23)
  have hn := numN_lt (f := f) (n := k) hf
  have hn4 : (2 : Nat) ^ (8 * k) ≤ 2 ^ (8 * 3) := Nat.pow_le_pow_right (by decide) (by omega)
  have hn5 : (2 : Nat) ^ (8 * 3) = 16777216 := by decide
  have HD := fun W => digits_any (numN f k) (2 * k) W (by omega) (by omega)
  have e2k : ((2 * k : Nat) : Int) = 2 * (k : Int) := by omega
  rw [e2k] at HD
  have hop : opL m k f pc = if m = 2 then 35 :: 36 :: lowL (numN f k) (2 * k) else 36 :: lowL (numN f k) (2 * k) := by
    rcases hm with rfl | rfl | rfl
    · rw [if_pos rfl, op_2, dolL_eq]
    · rw [if_neg (by decide), op_245 _ _ _ _ (.inl rfl), dolL_eq]
    · rw [if_neg (by decide), op_245 _ _ _ _ (.inr rfl), dolL_eq]
  rw [hop]
  have z : (bytesN (lowL (numN f k) (2 * k))).size = 2 * k := by rw [bytesN_size, lowL_len]
  have e1 : bytesN (36 :: lowL (numN f k) (2 * k)) = ⟨#[36]⟩ ++ bytesN (lowL (numN f k) (2 * k)) := by rw [bytes_cons, bytes_one36]
  have e2 : bytesN (35 :: 36 :: lowL (numN f k) (2 * k)) = ⟨#[35]⟩ ++ (⟨#[36]⟩ ++ bytesN (lowL (numN f k) (2 * k))) := by rw [bytes_cons, bytes_one35, e1]
  rw [apply_ite bytesN, e1, e2]
  have hx : numN f k < 16777216 := by omega
  clear hn hn4 hn5 e1 e2 hop hf e2k
  generalize bytesN (lowL (numN f k) (2 * k)) = T at *
  generalize numN f k = x at *
  have l1 : (9223372036854775807 < 1 + T.size) = False := sum_no _ _ (by omega)
  have s1 : ((⟨#[36]⟩ : ByteArray) ++ T).size = 1 + T.size := by rw [ByteArray.size_append]; rfl
  have l2 : (9223372036854775807 < 1 + ((⟨#[36]⟩ : ByteArray) ++ T).size) = False := sum_no _ _ (by omega)
  have l3 : (9223372036854775807 < 1 + (1 + T.size)) = False := sum_no _ _ (by omega)
  have x2 := hX.cell 2
  simp only [List.getElem?_toArray, List.getElem?_cons_zero, List.getElem?_cons_succ] at x2
  unfold codeV
  replace HD := Lib.hid HD
  clear hX
  rcases hm with rfl | rfl | rfl
  case' inl => rw [if_pos rfl]
  case' inr.inl => rw [if_neg (by decide)]
  case' inr.inr => rw [if_neg (by decide)]
  all_goals
    replace hB := Lib.hid hB
    go_enter Tryd.func38, Tryd.ntmps38
    go_wp2_with fail
    refine (HD.out _).mono ?_
    rintro e W2 ⟨rfl, rfl⟩
    go_wp2_with fail
    go_ret
    exact ⟨rfl, hB.out⟩
end Go.Proofs.YtmbpkpideepghaaDoor
