/-
  The bytes of a code whose text has a number.
-/
import Derived.Test.YtmbpkpideepghaaDoorCut
import Derived.Test.YtmbpkpideepghaaDoorCpy
namespace Go.Proofs.YtmbpkpideepghaaDoor
open Go.RowKit
set_option maxRecDepth 100000
set_option maxHeartbeats 1000000
set_option linter.unusedVariables false

/-- The number that is laid into the bytes: mode m, k bytes, text's number n, place pc. -/
def withN (m k n pc : Nat) : Nat := if m = 3 ∨ m = 4 then (n + 4294967296 - (pc + (1 + k)) % 4294967296) % 4294967296 else if m = 23 then n / 256 % 256 + n * 256 % 4294967296 else n
def withL (c k n pc : Nat) : Nat → List Nat
  | 0 => [c]
  | i + 1 => withL c k n pc i ++ [withN (modeF c) k n pc / 256 ^ i % 256]
theorem withL_len (c k n pc i : Nat) : (withL c k n pc i).length = i + 1 := by
  induction i with
  | zero => rfl
  | succ i ih => rw [withL, List.length_append, ih]; rfl
theorem withL_lt (c k n pc i : Nat) (hc : c < 256) : ∀ x ∈ withL c k n pc i, x < 256 := by
  induction i with
  | zero => intro x hx; rw [withL, List.mem_singleton] at hx; omega
  | succ i ih =>
    intro x hx
    rw [withL, List.mem_append, List.mem_singleton] at hx
    rcases hx with hx | rfl
    · exact ih x hx
    · exact Nat.mod_lt _ (by decide)
theorem withN_lt (m k n pc : Nat) (hn : n < 4294967296) : withN m k n pc < 4294967296 := by
  unfold withN
  split
  · exact Nat.mod_lt _ (by decide)
  · split
    · omega
    · exact hn
theorem and_255 (a : Nat) (ha : a < 4294967296) : bits BinOp.and IntKind.u32 (a : Int) 255 = ((a % 256 : Nat) : Int) := by
  have e : (BitVec.ofInt 32 (a : Int) &&& BitVec.ofInt 32 (255 : Int)).toNat = a % 256 := by
    rw [BitVec.toNat_and, BitVec.toNat_ofInt, BitVec.toNat_ofInt]
    have a1 : ((a : Int) % ((2 ^ 32 : Nat) : Int)).toNat = a := by omega
    have a2 : ((255 : Int) % ((2 ^ 32 : Nat) : Int)).toNat = 255 := by decide
    rw [a1, a2]
    exact Nat.and_two_pow_sub_one_eq_mod a 8
  show IntKind.u32.wrap ((BitVec.ofInt 32 (a : Int) &&& BitVec.ofInt 32 (255 : Int)).toNat : Nat) = _
  rw [e]
  have : a % 256 < 256 := Nat.mod_lt _ (by decide)
  generalize a % 256 = z at *
  simp only [IntKind.wrap_u32]
  omega
theorem or_8 (y d : Nat) (hy : y < 16777216) (hd : d < 256) : bits BinOp.or IntKind.u32 (d : Int) ((y * 256 : Nat) : Int) = ((d + y * 256 : Nat) : Int) := by
  have h := Nat.two_pow_add_eq_or_of_lt (i := 8) (show d < 2 ^ 8 by omega) y
  have e : d ||| y * 256 = d + y * 256 := by rw [show y * 256 = 2 ^ 8 * y by omega, Nat.or_comm, ← h]; omega
  rw [or_u32 _ _ (by omega) (by omega) (by rw [e]; omega), e]
attribute [local irreducible] modeF nameF widthF operN withL
theorem bytesWith_any (c n pc p : Nat) (w : World) (hc : c < 256) (hn : n < 4294967296) (hpc : pc < 65536) (hp : p < 256) :
    Calls Tryd.prog 45 #[.int .u8 c, .int .u32 n, .int .u16 pc, .int .u8 p] w fun e w' => ∃ v, e = .returned v ∧ w'.ownsRow w.heap.size 5 1 v (1 + operN c p) ((withL c (operN c p) n pc (operN c p)).map fun x => Value.int .u8 (x : Nat)) ∧ Below w.heap.size w w' := by
  have HS := size_any c p w hc hp
  rw [show 1 + opF (modeF c) (widthF (nameF c).toList) p = 1 + operN c p by unfold operN; rfl] at HS
  have HM := modeOf_any c w hc
  have hk := operN_le c p
  have hm26 := modeF_lt c hc
  have hNlt := withN_lt (modeF c) (operN c p) n pc hn
  have hL0 : withL c (operN c p) n pc 0 = [c] := by unfold withL; rfl
  have hLs : ∀ i, withL c (operN c p) n pc (i + 1) = withL c (operN c p) n pc i ++ [withN (modeF c) (operN c p) n pc / 256 ^ i % 256] := fun i => by rw [withL]
  have hLl := fun i => withL_len c (operN c p) n pc i
  generalize hX : withN (modeF c) (operN c p) n pc = X at *
  generalize operN c p = k at *
  generalize hfw : withL c k n pc = F at *
  clear hfw
  unfold withN at hX
  generalize modeF c = m at *
  replace HS := Lib.hid HS
  replace HM := Lib.hid HM
  replace hLs := Lib.hid hLs
  replace hLl := Lib.hid hLl
  have hown := World.ownsRow_lit (base := w.heap.size) (e := 5) (size := 1) w #[.int .u8 c] 1 (Nat.le_refl _) (by decide) rfl
  have hB := (Below.refl w.heap.size w).alloc (Nat.le_refl _) (.cells #[.int .u8 c] 5)
  have hcase : m = 3 ∨ m = 4 ∨ m = 23 ∨ (((m : Int) == 3) = false ∧ ((m : Int) == 4) = false ∧ ((m : Int) == 23) = false ∧ n = X) := by
    by_cases h3 : m = 3
    · exact .inl h3
    by_cases h4 : m = 4
    · exact .inr (.inl h4)
    by_cases h23 : m = 23
    · exact .inr (.inr (.inl h23))
    · refine .inr (.inr (.inr ⟨by rw [beq_eq_false_iff_ne]; omega, by rw [beq_eq_false_iff_ne]; omega, by rw [beq_eq_false_iff_ne]; omega, ?_⟩))
      rw [if_neg (by omega), if_neg h23] at hX
      exact hX
  have hsub : m = 3 ∨ m = 4 → ((n : Int) - ((pc : Int) + (1 + (k : Int)))) % 4294967296 = (X : Int) := fun h => by
    rw [if_pos h] at hX
    omega
  have hmv : m = 23 → bits BinOp.or IntKind.u32 (bits BinOp.and IntKind.u32 ((n : Int) / 256) 255) ((n : Int) * 256 % 4294967296) = (X : Int) := fun h => by
    rw [if_neg (by omega), if_pos h] at hX
    rw [show (n : Int) / 256 = ((n / 256 : Nat) : Int) by omega, and_255 _ (by omega), show (n : Int) * 256 % 4294967296 = ((n % 16777216 * 256 : Nat) : Int) by omega, or_8 _ _ (by omega) (by omega), ← hX]
    omega
  clear hX
  rcases hcase with rfl | rfl | rfl | ⟨i3, i4, i23, hnX⟩
  case' inl => replace hsub := Lib.hid (hsub (by decide))
  case' inr.inl => replace hsub := Lib.hid (hsub (by decide))
  case' inr.inr.inl => replace hmv := Lib.hid (hmv rfl)
  case' inr.inr.inr =>
    replace hnX := hnX.symm
    subst hnX
    clear hsub hmv
  all_goals
    go_enter Tryd.func45, Tryd.ntmps45
    go_wp2_with fail
    refine HS.out.mono ?_
    rintro e W ⟨rfl, rfl⟩
    go_wp2_with fail
    refine HM.out.mono ?_
    rintro e W ⟨rfl, rfl⟩
    clear HS HM
    go_upto_region 8 with (fail)
    first
      | rw [hsub.out]
      | rw [hmv.out]
      | skip
    try clear hsub
    try clear hmv
    go_upto_region 9 with (fail)
    generalize w.alloc (.cells #[.int .u8 c] 5) = W1 at *
    go_wp2_with fail
    go_loopw [10, 39] (fun s10 s39 wr => ∃ i : Nat, i ≤ k ∧ s39 = .int .i64 i ∧ wr.ownsRow w.heap.size 5 1 s10 (i + 1) ((F i).map fun x => Value.int .u8 (x : Nat)) ∧ Below w.heap.size w wr) (fun _ s39 _ => k - (intOf s39).toNat)
    case atStart => exact ⟨0, Nat.zero_le _, rfl, by rw [hL0]; exact hown, hB⟩
    case round =>
      obtain ⟨i, hi, rfl, hown, hB⟩ := hrel
      by_cases hlt : i < k
      · have hq : ((X : Int) / 2 ^ (8 * i)) % 256 = ((X / 256 ^ i % 256 : Nat) : Int) := by
          have h1 : ((X : Int) / 2 ^ (8 * i)) = ((X / 256 ^ i : Nat) : Int) := by
            rw [show (256 : Nat) ^ i = 2 ^ (8 * i) by rw [Nat.pow_mul]]
            simp
          rw [h1]; omega
        have hy : X / 256 ^ i % 256 < 256 := Nat.mod_lt _ (by decide)
        have hs1 := hLs.out i
        have hl0 := hLl.out i
        generalize X / 256 ^ i % 256 = y at *
        have hbv : ((F i).map fun x => Value.int .u8 (x : Nat)) ++ [.int .u8 (y : Nat)] = (F (i + 1)).map fun x => Value.int .u8 (x : Nat) := by rw [hs1]; simp
        generalize hF1 : (F (i + 1)).map (fun x => Value.int .u8 (x : Nat)) = F1 at *
        generalize (F i).map (fun x => Value.int .u8 (x : Nat)) = F0 at *
        replace hF1 := Lib.hid hF1
        clear hs1 hl0
        obtain ⟨j0, hj0, hz0, hz1, hz2⟩ := info_parts info_parts8
        have hi2 : i ≤ 2 := by omega
        have ho3 := hown.alloc (.cells #[.int .u8 y] 5)
        have hB3 := hB.alloc hB.size (.cells #[.int .u8 y] 5)
        have hsz := hB.size
        clear hown hB
        have ti : decide ((i : Int) < 1 + (k : Int) - 1) = true := decide_eq_true (by omega)
        go_wp2_with (at_builtin; refine wpList_append_own _ rfl _ _ 32 rfl w.heap.size 5 j0 _ 1 1 Tryd.underlying32 hj0 hz0 hz1 hz2 rfl (by decide) _ _ _ rfl ho3 ⟨wr.heap.size, 0, none⟩ 1 1 [.int .u8 y] rfl rfl (cell_one_new _ _ _) (by simp [Value.oneCell']) (by unfold maxLen; omega) (by omega) (by simp; omega) ?_)
        intro v' w9 hown9 hgrow _
        have hB9 := hB3.grown hgrow hB3.size (fun r e => (ho3.lt r e).1)
        have hfin : w9.ownsRow w.heap.size 5 1 v' (i + 1 + 1) F1 ∧ Below w.heap.size w w9 := by
          refine ⟨?_, hB9⟩
          rw [← hbv]
          first | exact hown9 | (rw [← hbv] at hown9; exact hown9)
        replace hfin := Lib.hid hfin
        clear ho3 hB3 hgrow hown9 hB9 hbv
        go_wp2_with fail
        go_roundw
        case rel => exact ⟨i + 1, hlt, by go_num, by rw [hF1.out]; exact hfin.out.1, hfin.out.2⟩
        case measure => simp [intOf]; omega
      · obtain rfl : i = k := by omega
        have ti : decide ((i : Int) < 1 + (i : Int) - 1) = false := decide_eq_false (by omega)
        have hlast := Lib.hid (And.intro hown hB)
        clear hown hB
        go_wp2_with fail
        go_ret
        exact ⟨_, rfl, by rw [Nat.add_comm]; exact hlast.out.1, hlast.out.2⟩
end Go.Proofs.YtmbpkpideepghaaDoor
