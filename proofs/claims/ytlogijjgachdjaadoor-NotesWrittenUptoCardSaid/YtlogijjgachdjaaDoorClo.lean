/-
  The writers of operands, one by one.
-/
import Derived.Test.YtlogijjgachdjaaDoorHex
import Derived.Lib.QuietBelow
import Derived.BigQuiet
import Derived.Shelf.RegionOpen
namespace Go.Proofs.YtlogijjgachdjaaDoor
open Go.RowKit Go.Sort
set_option maxRecDepth 100000
set_option maxHeartbeats 1000000
set_option linter.unusedVariables false

theorem bsOf_append (a b : List Nat) : bsOf (a ++ b) = bsOf a ++ bsOf b := by
  apply ByteArray.ext
  simp [bsOf]
/-- An operand that is to be written: the code, its number, the address behind. -/
def opV (c n b : Nat) : Value := .agg #[.int .u8 c, .int .u16 n, .int .u16 b]
/-- A number below 16 in tens. -/
def tnL (k : Nat) : List Nat := if k < 10 then [48 + k] else [49, 38 + k]
theorem tnL_dec (k : Nat) (hk : k < 16) : (⟨(Lib.decDigits k).toArray⟩ : ByteArray) = bsOf (tnL k) := by
  have h : Lib.decDigits k = (tnL k).map UInt8.ofNat := (show ∀ k, k < 16 → Lib.decDigits k = (tnL k).map UInt8.ofNat by decide +kernel) k hk
  rw [h]; rfl
theorem itoa_any (k : Nat) (w : World) (hk : k < 16) : Calls Tryd.prog 46 #[.int .i64 k] w fun e w' => e = .returned (.string (bsOf (tnL k))) ∧ Below w.heap.size w w' := by
  have h := Tryd.strconv_Itoa_small k (by omega) w
  rw [tnL_dec k hk] at h
  refine h.mono ?_
  rintro e w' ⟨rfl, rfl⟩
  exact ⟨rfl, Below.refl _ _⟩
theorem same_clo (S : ByteArray) (c n b g : Nat) (w : World) (h : Whole w g 9 #[.string S]) :
    Calls Tryd.prog 41 #[opV c n b, .pointer (some ⟨g, 0, none⟩)] w fun e w' => e = .returned (.string S) ∧ Below w.heap.size w w' := by
  unfold opV
  have x0 := ((h.alloc (.cells #[.int .u8 c, .int .u16 n, .int .u16 b] 75))).cell 0
  simp only [List.getElem?_toArray, List.getElem?_cons_zero] at x0
  have hB := (Below.refl w.heap.size w).alloc (Nat.le_refl _) (.cells #[.int .u8 c, .int .u16 n, .int .u16 b] 75)
  go_enter Tryd.func41, Tryd.ntmps41
  go_upto_region 1 with (fail)
  generalize w.alloc (.cells #[.int .u8 c, .int .u16 n, .int .u16 b] 75) = W1 at *
  go_wp2_with fail
  go_ret
  exact ⟨rfl, hB⟩
theorem around_clo (p q : List Nat) (s c n b g1 g2 g3 : Nat) (w : World) (hs : s = 2 ∨ s = 4) (hp : p.length ≤ 5) (hq : q.length ≤ 5) (hn : n < 65536)
    (h1 : Whole w g1 9 #[.string (bsOf p)]) (h2 : Whole w g2 3 #[.int .i64 s]) (h3 : Whole w g3 9 #[.string (bsOf q)]) :
    Calls Tryd.prog 43 #[opV c n b, .pointer (some ⟨g1, 0, none⟩), .pointer (some ⟨g2, 0, none⟩), .pointer (some ⟨g3, 0, none⟩)] w fun e w' => e = .returned (.string (bsOf (p ++ hxL n s ++ q))) ∧ Below w.heap.size w w' := by
  have HX := fun W => hex_any n s W hn (by omega) (by omega)
  have l1 := bsOf_size p
  have l2 := bsOf_size q
  have l3 := bsOf_size (hxL n s)
  rw [hxL_len] at l3
  have hT : bsOf p ++ bsOf (hxL n s) ++ bsOf q = bsOf (p ++ hxL n s ++ q) := by rw [bsOf_append, bsOf_append]
  generalize bsOf p = P at *
  generalize bsOf q = Q at *
  generalize bsOf (hxL n s) = H at *
  generalize bsOf (p ++ hxL n s ++ q) = T at *
  have m1 : (9223372036854775807 < P.size + H.size) = False := by rw [eq_iff_iff, iff_false]; omega
  have m2 : (9223372036854775807 < P.size + H.size + Q.size) = False := by rw [eq_iff_iff, iff_false]; omega
  have m3 : (9223372036854775807 < (P ++ H).size + Q.size) = False := by rw [ByteArray.size_append, eq_iff_iff, iff_false]; omega
  clear l1 l2 l3
  unfold opV
  have x1 := ((h1.alloc (.cells #[.int .u8 c, .int .u16 n, .int .u16 b] 75))).cell 0
  have x2 := ((h2.alloc (.cells #[.int .u8 c, .int .u16 n, .int .u16 b] 75))).cell 0
  have x3 := ((h3.alloc (.cells #[.int .u8 c, .int .u16 n, .int .u16 b] 75))).cell 0
  have x4 := (Whole.fresh w 75 #[.int .u8 c, .int .u16 n, .int .u16 b]).cell 1
  simp only [List.getElem?_toArray, List.getElem?_cons_zero, List.getElem?_cons_succ] at x1 x2 x3 x4
  have hB := (Below.refl w.heap.size w).alloc (Nat.le_refl _) (.cells #[.int .u8 c, .int .u16 n, .int .u16 b] 75)
  replace HX := Lib.hid HX
  replace hT := Lib.hid hT
  clear h1 h2 h3
  go_enter Tryd.func43, Tryd.ntmps43
  go_upto_region 1 with (fail)
  generalize w.alloc (.cells #[.int .u8 c, .int .u16 n, .int .u16 b] 75) = W1 at *
  refine wp_region_quiet_below (by kernel_rfl) (by kernel_rfl) ?_
  have z1 := cell_regrown x1
  have z2 := cell_regrown x2
  have z3 := cell_regrown x3
  have z4 := cell_regrown x4
  clear x1 x2 x3 x4
  repeat (go_big_quiet_step (first
    | (go_at_call 32; first | (with_reducible exact Calls.regrown_of (HX.out _)))))
  refine wpQuiet_nil ?_
  intro _ hw'
  obtain ⟨⟨dq, osq⟩, hw''⟩ := hw'
  subst hw''
  have hbl := hB.trans ((below_regrown W1 dq osq).mono hB.size)
  generalize Go.«Sort».grow (redrawn W1 dq) osq = V1 at *
  clear z1 z2 z3 z4 HX
  go_wp2_with fail
  go_ret
  exact ⟨by rw [← hT.out]; rfl, hbl⟩
theorem and_8191 (a : Nat) (ha : a < 65536) : bits BinOp.and IntKind.u16 (a : Int) 8191 = ((a % 8192 : Nat) : Int) := by
  have e : (BitVec.ofInt 16 (a : Int) &&& BitVec.ofInt 16 (8191 : Int)).toNat = a % 8192 := by
    rw [BitVec.toNat_and, BitVec.toNat_ofInt, BitVec.toNat_ofInt]
    have a1 : ((a : Int) % ((2 ^ 16 : Nat) : Int)).toNat = a := by omega
    have a2 : ((8191 : Int) % ((2 ^ 16 : Nat) : Int)).toNat = 8191 := by decide
    rw [a1, a2]
    exact Nat.and_two_pow_sub_one_eq_mod a 13
  show IntKind.u16.wrap ((BitVec.ofInt 16 (a : Int) &&& BitVec.ofInt 16 (8191 : Int)).toNat : Nat) = _
  rw [e]
  have : a % 8192 < 8192 := Nat.mod_lt _ (by decide)
  generalize a % 8192 = z at *
  simp only [IntKind.wrap_u16]
  omega
theorem bit_clo (p : List Nat) (c n b g : Nat) (w : World) (hp : p.length ≤ 5) (hn : n < 65536) (h : Whole w g 9 #[.string (bsOf p)]) :
    Calls Tryd.prog 45 #[opV c n b, .pointer (some ⟨g, 0, none⟩)] w fun e w' => e = .returned (.string (bsOf (p ++ hxL (n % 8192) 4 ++ [46] ++ tnL (n / 8192)))) ∧ Below w.heap.size w w' := by
  have hk : n / 8192 < 16 := by omega
  have HX := fun W => hex_any (n % 8192) 4 W (by omega) (by omega) (by omega)
  have HI := fun W => itoa_any (n / 8192) W hk
  have hA := and_8191 n hn
  have hS : (n : Int) / 2 ^ 13 = ((n / 8192 : Nat) : Int) := by rw [show (2 : Int) ^ 13 = 8192 by decide]; omega
  have hS2 : (n : Int) / 8192 = ((n / 8192 : Nat) : Int) := by omega
  have l1 := bsOf_size p
  have l3 := bsOf_size (hxL (n % 8192) 4)
  have l4 := bsOf_size (tnL (n / 8192))
  have l5 : (tnL (n / 8192)).length ≤ 2 := by unfold tnL; split <;> simp
  rw [hxL_len] at l3
  have hT : bsOf p ++ bsOf (hxL (n % 8192) 4) ++ bsOf [46] ++ bsOf (tnL (n / 8192)) = bsOf (p ++ hxL (n % 8192) 4 ++ [46] ++ tnL (n / 8192)) := by rw [bsOf_append, bsOf_append, bsOf_append]
  rw [show bsOf [46] = ⟨#[46]⟩ by decide +kernel] at hT
  generalize bsOf p = P at *
  generalize bsOf (hxL (n % 8192) 4) = H at *
  generalize bsOf (tnL (n / 8192)) = Q at *
  generalize bsOf (p ++ hxL (n % 8192) 4 ++ [46] ++ tnL (n / 8192)) = T at *
  generalize n % 8192 = na at *
  generalize n / 8192 = nb at *
  have m1 : (9223372036854775807 < P.size + H.size) = False := by rw [eq_iff_iff, iff_false]; omega
  have m2 : (9223372036854775807 < P.size + H.size + 1) = False := by rw [eq_iff_iff, iff_false]; omega
  have m4 : (9223372036854775807 < (P ++ H).size + 1) = False := by rw [ByteArray.size_append, eq_iff_iff, iff_false]; omega
  have m3 : (9223372036854775807 < P.size + H.size + 1 + Q.size) = False := by rw [eq_iff_iff, iff_false]; omega
  clear l1 l3 l4 l5
  unfold opV
  have x1 := ((h.alloc (.cells #[.int .u8 c, .int .u16 n, .int .u16 b] 75))).cell 0
  have x4 := (Whole.fresh w 75 #[.int .u8 c, .int .u16 n, .int .u16 b]).cell 1
  simp only [List.getElem?_toArray, List.getElem?_cons_zero, List.getElem?_cons_succ] at x1 x4
  have hB := (Below.refl w.heap.size w).alloc (Nat.le_refl _) (.cells #[.int .u8 c, .int .u16 n, .int .u16 b] 75)
  replace HX := Lib.hid HX
  replace HI := Lib.hid HI
  replace hT := Lib.hid hT
  clear h
  go_enter Tryd.func45, Tryd.ntmps45
  go_upto_region 1 with (fail)
  generalize w.alloc (.cells #[.int .u8 c, .int .u16 n, .int .u16 b] 75) = W1 at *
  refine wp_region_quiet_below (by kernel_rfl) (by kernel_rfl) ?_
  have z1 := cell_regrown x1
  have z4 := cell_regrown x4
  clear x1 x4
  repeat (go_big_quiet_step (first
    | (go_at_call 32; first | (with_reducible exact Calls.regrown_of (HX.out _)))
    | (go_at_call 46; first | (with_reducible exact Calls.regrown_of (HI.out _)))))
  refine wpQuiet_nil ?_
  intro _ hw'
  obtain ⟨⟨dq, osq⟩, hw''⟩ := hw'
  subst hw''
  have hbl := hB.trans ((below_regrown W1 dq osq).mono hB.size)
  generalize Go.«Sort».grow (redrawn W1 dq) osq = V1 at *
  clear z1 z4 HX HI
  go_wp2_with fail
  go_ret
  exact ⟨by rw [← hT.out]; rfl, hbl⟩
theorem four_clo (c n b : Nat) (w : World) (hc : c < 256) (hn : n < 65536) :
    Calls Tryd.prog 47 #[opV c n b] w fun e w' => e = .returned (.string (bsOf (hxL n 2 ++ [46] ++ tnL (c / 32)))) ∧ Below w.heap.size w w' := by
  have hk : c / 32 < 16 := by omega
  have HX := fun W => hex_any n 2 W hn (by omega) (by omega)
  have HI := fun W => itoa_any (c / 32) W hk
  have hS : (c : Int) / 2 ^ 5 = ((c / 32 : Nat) : Int) := by rw [show (2 : Int) ^ 5 = 32 by decide]; omega
  have hS2 : (c : Int) / 32 = ((c / 32 : Nat) : Int) := by omega
  have l3 := bsOf_size (hxL n 2)
  have l4 := bsOf_size (tnL (c / 32))
  have l5 : (tnL (c / 32)).length ≤ 2 := by unfold tnL; split <;> simp
  rw [hxL_len] at l3
  have hT : bsOf (hxL n 2) ++ bsOf [46] ++ bsOf (tnL (c / 32)) = bsOf (hxL n 2 ++ [46] ++ tnL (c / 32)) := by rw [bsOf_append, bsOf_append]
  rw [show bsOf [46] = ⟨#[46]⟩ by decide +kernel] at hT
  generalize bsOf (hxL n 2) = H at *
  generalize bsOf (tnL (c / 32)) = Q at *
  generalize bsOf (hxL n 2 ++ [46] ++ tnL (c / 32)) = T at *
  generalize c / 32 = nb at *
  have m1 : (9223372036854775807 < H.size + 1) = False := by rw [eq_iff_iff, iff_false]; omega
  have m3 : (9223372036854775807 < H.size + 1 + Q.size) = False := by rw [eq_iff_iff, iff_false]; omega
  clear l3 l4 l5
  unfold opV
  have x4 := (Whole.fresh w 75 #[.int .u8 c, .int .u16 n, .int .u16 b]).cell 1
  have x5 := (Whole.fresh w 75 #[.int .u8 c, .int .u16 n, .int .u16 b]).cell 0
  simp only [List.getElem?_toArray, List.getElem?_cons_zero, List.getElem?_cons_succ] at x4 x5
  have hB := (Below.refl w.heap.size w).alloc (Nat.le_refl _) (.cells #[.int .u8 c, .int .u16 n, .int .u16 b] 75)
  replace HX := Lib.hid HX
  replace HI := Lib.hid HI
  replace hT := Lib.hid hT
  go_enter Tryd.func47, Tryd.ntmps47
  go_upto_region 1 with (fail)
  generalize w.alloc (.cells #[.int .u8 c, .int .u16 n, .int .u16 b] 75) = W1 at *
  refine wp_region_quiet_below (by kernel_rfl) (by kernel_rfl) ?_
  have z4 := cell_regrown x4
  have z5 := cell_regrown x5
  clear x4 x5
  repeat (go_big_quiet_step (first
    | (go_at_call 32; first | (with_reducible exact Calls.regrown_of (HX.out _)))
    | (go_at_call 46; first | (with_reducible exact Calls.regrown_of (HI.out _)))))
  refine wpQuiet_nil ?_
  intro _ hw'
  obtain ⟨⟨dq, osq⟩, hw''⟩ := hw'
  subst hw''
  have hbl := hB.trans ((below_regrown W1 dq osq).mono hB.size)
  generalize Go.«Sort».grow (redrawn W1 dq) osq = V1 at *
  clear z4 z5 HX HI
  go_wp2_with fail
  go_ret
  exact ⟨by rw [← hT.out]; rfl, hbl⟩
theorem five_clo (c n b : Nat) (w : World) (hc : c < 256) :
    Calls Tryd.prog 48 #[opV c n b] w fun e w' => e = .returned (.string (bsOf (tnL (c / 16)))) ∧ Below w.heap.size w w' := by
  have hk : c / 16 < 16 := by omega
  have HI := fun W => itoa_any (c / 16) W hk
  have hS : (c : Int) / 2 ^ 4 = ((c / 16 : Nat) : Int) := by rw [show (2 : Int) ^ 4 = 16 by decide]; omega
  have hS2 : (c : Int) / 16 = ((c / 16 : Nat) : Int) := by omega
  generalize bsOf (tnL (c / 16)) = Q at *
  generalize c / 16 = nb at *
  unfold opV
  have x5 := (Whole.fresh w 75 #[.int .u8 c, .int .u16 n, .int .u16 b]).cell 0
  simp only [List.getElem?_toArray, List.getElem?_cons_zero] at x5
  have hB := (Below.refl w.heap.size w).alloc (Nat.le_refl _) (.cells #[.int .u8 c, .int .u16 n, .int .u16 b] 75)
  replace HI := Lib.hid HI
  go_enter Tryd.func48, Tryd.ntmps48
  go_upto_region 1 with (fail)
  generalize w.alloc (.cells #[.int .u8 c, .int .u16 n, .int .u16 b] 75) = W1 at *
  go_wp2_with fail
  with_reducible refine (HI.out _).mono ?_
  rintro e W2 ⟨rfl, hB2⟩
  have hbl := hB.trans (hB2.mono hB.size)
  go_wp2_with fail
  go_ret
  exact ⟨rfl, hbl⟩
/-- Where a branch leads. -/
def brF (n b : Nat) : Nat := (b + (if n < 128 then n else n + 65280)) % 65536
theorem brF_lt (n b : Nat) : brF n b < 65536 := Nat.mod_lt _ (by decide)
theorem six_clo (c n b : Nat) (w : World) (hn : n < 256) (hb : b < 65536) :
    Calls Tryd.prog 49 #[opV c n b] w fun e w' => e = .returned (.string (bsOf (hxL (brF n b) 4))) ∧ Below w.heap.size w w' := by
  have HX := fun W => hex_any (brF n b) 4 W (brF_lt n b) (by omega) (by omega)
  have hbr : brF n b = (b + (if n < 128 then n else n + 65280)) % 65536 := rfl
  generalize bsOf (hxL (brF n b) 4) = H at *
  generalize brF n b = r at *
  unfold opV
  have x4 := (Whole.fresh w 75 #[.int .u8 c, .int .u16 n, .int .u16 b]).cell 1
  have x5 := (Whole.fresh w 75 #[.int .u8 c, .int .u16 n, .int .u16 b]).cell 2
  simp only [List.getElem?_toArray, List.getElem?_cons_zero, List.getElem?_cons_succ] at x4 x5
  have hB := (Below.refl w.heap.size w).alloc (Nat.le_refl _) (.cells #[.int .u8 c, .int .u16 n, .int .u16 b] 75)
  replace HX := Lib.hid HX
  replace hbr := Lib.hid hbr
  go_enter Tryd.func49, Tryd.ntmps49
  go_upto_region 1 with (fail)
  generalize w.alloc (.cells #[.int .u8 c, .int .u16 n, .int .u16 b] 75) = W1 at *
  have hv : IntKind.u16.wrap ((b : Int) + IntKind.u16.wrap (IntKind.i8.wrap (n : Int))) = (r : Int) := by
    have := hbr.out
    have hw8 : IntKind.i8.wrap (n : Int) = (n : Int) - (if n < 128 then 0 else 256) := (show ∀ x : Nat, x < 256 → IntKind.i8.wrap (x : Int) = (x : Int) - (if x < 128 then 0 else 256) by decide +kernel) n hn
    simp only [IntKind.wrap_u16]
    rw [hw8]
    by_cases h : n < 128
    · rw [if_pos h] at *
      omega
    · rw [if_neg h] at *
      omega
  go_wp2_with fail
  refine (HX.out _).mono ?_
  rintro e W2 ⟨rfl, hB2⟩
  have hbl := hB.trans (hB2.mono hB.size)
  go_wp2_with fail
  go_ret
  exact ⟨rfl, hbl⟩
end Go.Proofs.YtlogijjgachdjaaDoor
