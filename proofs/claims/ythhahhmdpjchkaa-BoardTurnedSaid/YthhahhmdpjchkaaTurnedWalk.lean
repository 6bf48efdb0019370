/-
  BoardTurned: the walk.
-/
import Derived.Test.YthhahhmdpjchkaaStand
namespace Go.Proofs.Ythhahhmdpjchkaa
open Go.RowKit Go.Shelf
set_option maxRecDepth 100000
set_option maxHeartbeats 1000000

theorem or_up (L : Nat) (h : L < 8388608) : L ||| 8388608 = L + 8388608 := by
  have := Nat.two_pow_add_eq_or_of_lt (i := 23) (b := L) (by omega) 1
  rw [show 2 ^ 23 * 1 = 8388608 from rfl] at this
  rw [Nat.or_comm]
  omega
theorem or_wrap (L : Nat) (h : L < 8388608) : L ||| 83886080 = L + 83886080 := by
  have := Nat.two_pow_add_eq_or_of_lt (i := 24) (b := L) (by omega) 5
  rw [show 2 ^ 24 * 5 = 83886080 from rfl] at this
  rw [Nat.or_comm]
  omega
theorem spot_wrap (l n m L : Nat) : spot l n m (L + 83886080) = spot l n m L := by
  unfold spot
  rw [show (L + 83886080) / 65536 % 256 = L / 65536 % 256 by omega, show (L + 83886080) % 65536 = L % 65536 by omega]
theorem ramHolds_up (l B P : Nat) : ramHolds l (B + 128) P = ramHolds l B P := by
  unfold ramHolds
  rw [show (B + 128) / 16 % 8 = B / 16 % 8 by omega, show (B + 128) / 32 % 4 = B / 32 % 4 by omega]
theorem ramAt_up (l B P : Nat) : ramAt l (B + 128) P = ramAt l B P := by
  unfold ramAt
  rw [show (B + 128) % 16 = B % 16 by omega, show (B + 128) % 32 = B % 32 by omega]
theorem romHolds_up (l B P : Nat) : romHolds l (B + 128) P = romHolds l B P := by
  unfold romHolds
  rw [show (B + 128) / 64 % 2 = B / 64 % 2 by omega]
theorem romAt_up (l B P : Nat) (h : l ≠ 3) : romAt l (B + 128) P = romAt l B P := by
  unfold romAt moreOf
  rw [show (B + 128) % 128 = B % 128 by omega, show (B + 128) % 64 = B % 64 by omega, if_neg h]
  simp only [ite_self]
theorem bp_up (l n m B P : Nat) (hB : B < 128) (hb : ¬ (B = 126 ∨ B = 127)) (h : l ≠ 3 ∨ (spotBP l n m B P).1 ≠ 1) : spotBP l n m (B + 128) P = spotBP l n m B P := by
  unfold spotBP at *
  rw [if_neg hb] at h ⊢
  rw [if_neg (by omega), ramHolds_up, ramAt_up, romHolds_up]
  split
  · rfl
  · rename_i h1
    rw [if_neg h1] at h
    split
    · rename_i h2
      rw [if_pos h2] at h
      rw [romAt_up l B P (h.resolve_right (by simp))]
    · rfl
theorem bp_up3 (l n m B P : Nat) (hB : B < 128) (h : (spotBP l n m B P).1 = 1) : (spotBP l n m (B + 128) P).1 = 1 := by
  unfold spotBP at *
  by_cases hb : B = 126 ∨ B = 127
  · rw [if_pos hb] at h
    cases h
  rw [if_neg hb] at h
  rw [if_neg (by omega), ramHolds_up, ramAt_up, romHolds_up]
  split
  · rename_i h1
    rw [if_pos h1] at h
    cases h
  · rename_i h1
    rw [if_neg h1] at h
    split
    · rfl
    · rename_i h2
      rw [if_neg h2] at h
      cases h
theorem spot_low (l n m L : Nat) (h : L < 8388608) : spot l n m L = spotBP l n m (L / 65536) (L % 65536) := by
  unfold spot
  rw [Nat.mod_eq_of_lt (show L / 65536 < 256 by omega)]
theorem spot_high (l n m L : Nat) (h : L < 8388608) : spot l n m (L + 8388608) = spotBP l n m (L / 65536 + 128) (L % 65536) := by
  unfold spot
  rw [show (L + 8388608) / 65536 % 256 = L / 65536 + 128 by omega, show (L + 8388608) % 65536 = L % 65536 by omega]

theorem field_kind (x y : Value) (W : World) : Sem.run Try.prog (Instr.field 33 (.agg #[x, y]) 0) W = .ok x W := by kernel_rfl
namespace boardTurned
theorem walkN (l y a : Nat) (r m : Int) (w : World) (ha : a < 4294967296) :
    Calls Try.prog 8 #[planV l r m y, .int .u32 a] w fun e w' => e = .returned (.bool true) ∧ Below w.heap.size w w' := by
  obtain ⟨L, hL⟩ : ∃ L, a % 8388608 = L := ⟨_, rfl⟩
  have hLt : L < 8388608 := by omega
  have e0 : bits .and .u32 (a : Int) 8388607 = (L : Int) := by
    have := u32_and_nat a 8388607 (by omega) (by omega)
    rw [show (8388607 : Nat) = 2 ^ 23 - 1 from rfl, Nat.and_two_pow_sub_one_eq_mod, show (2 : Nat) ^ 23 = 8388608 from rfl, hL] at this
    exact this
  have e1 : bits .or .u32 (L : Int) 8388608 = ((L + 8388608 : Nat) : Int) := by
    have := u32_or_nat L 8388608 (by omega) (by omega)
    rw [or_up L hLt] at this
    exact this
  have e2 : bits .or .u32 (L : Int) 83886080 = ((L + 83886080 : Nat) : Int) := by
    have := u32_or_nat L 83886080 (by omega) (by omega)
    rw [or_wrap L hLt] at this
    exact this
  have hH : L + 8388608 < 4294967296 := by omega
  have hT : L + 83886080 < 4294967296 := by omega
  obtain ⟨H, hHe⟩ : ∃ H, L + 8388608 = H := ⟨_, rfl⟩
  obtain ⟨T, hTe⟩ : ∃ T, L + 83886080 = T := ⟨_, rfl⟩
  rw [hHe] at e1 hH
  rw [hTe] at e2 hT
  have HM := Lib.hid (made_any l y r m)
  have hP := Whole.fresh w 23 #[.int .u8 l, .int .i64 r, .int .i64 m, .int .u8 y]
  have hB0 : Below w.heap.size w (w.alloc (.cells #[.int .u8 l, .int .i64 r, .int .i64 m, .int .u8 y] 23)) := (Below.refl _ w).alloc (Nat.le_refl _) _
  replace hH := Lib.hid hH
  replace hT := Lib.hid hT
  have HLt := Lib.hid hLt
  clear hL hLt
  replace hHe := Lib.hid hHe
  replace hTe := Lib.hid hTe
  unfold planV at *
  go_enter Try.func8, Try.ntmps8
  go_wp2_with fail
  refine (plain_any _).mono ?_
  rintro e W1 ⟨rfl, hB1⟩
  have hP1 := hP.below hB1 hP.lt
  have hB2 := hB0.trans (hB1.mono (Nat.le_of_lt hP.lt))
  have h2 := hB2.size
  clear hP hB0 hB1
  obtain ⟨P, hPe⟩ : ∃ P, w.heap.size = P := ⟨_, rfl⟩
  rw [hPe] at hP1 hB2 h2 ⊢
  have c0 := hP1.cell 0
  have c1 := hP1.cell 1
  have c2 := hP1.cell 2
  have c3 := hP1.cell 3
  simp only [List.getElem?_toArray, List.getElem?_cons_zero, List.getElem?_cons_succ] at c0 c1 c2 c3
  go_wp2_with fail
  refine (HM.out _).mono ?_
  rintro e W2 ⟨v, R0, rfl, hH2, hR0, hB3, hcase⟩
  have hP2 := hP1.below hB3 hP1.lt
  have hB4 := hB2.trans (hB3.mono h2)
  have h4 := hB4.size
  have hPl := hP1.lt
  clear hP1 hB2 hB3 c0 c1 c2 c3 HM
  rcases hcase with ⟨_, rfl⟩ | ⟨hg, b, R, M, X, cap, rfl, hBr, hb1, hM1, hRM⟩
  · go_wp2_with fail
    go_ret
    exact ⟨rfl, by rw [hPe]; exact hB4⟩
  have hl := hBr.lay
  have hS : Stand w P b R M X l (romN r) cap m.toNat (romF y) (fun _ => 0) r m y W2 := ⟨hBr, hP2, hB4, by omega, by omega⟩
  clear hg hBr hP2 hB4 hb1 hM1 hRM hH2 hR0
  generalize romN r = n at *
  generalize m.toNat = k at *
  have HDL := Lib.hid (fun W (h : Stand w P b R M X l n cap k (romF y) (fun _ => 0) r m y W) => h.decode L (by have := HLt.out; omega))
  have HDH := fun W (h : Stand w P b R M X l n cap k (romF y) (fun _ => 0) r m y W) => h.decode H hH.out
  have HDT := fun W (h : Stand w P b R M X l n cap k (romF y) (fun _ => 0) r m y W) => h.decode T hT.out
  have hsT : spot l n k T = spot l n k L := by rw [← hTe.out]; exact spot_wrap l n k L
  rw [hsT] at HDT
  replace HDT := Lib.hid HDT
  obtain ⟨c0, c1, c2, c3⟩ := hS.cells
  have hf := field_kind
  by_cases g1 : L / 65536 = 126
  · have t1 : ((L : Int) / 65536 == 126) = true := by rw [beq_iff_eq]; omega
    have hs : spot l n k L = (0, 0) := by rw [spot_low l n k L HLt.out, spot_is_gap (.inl g1)]
    rw [hs] at HDL
    clear g1 HDH HDT hsT
    go_wp2_with fail
    refine (HDL.out _ hS).mono ?_
    rintro e W3 ⟨rfl, hS3⟩
    clear HDL
    go_wp2_with fail
    go_ret
    exact ⟨rfl, by rw [hPe]; exact hS3.bel⟩
  have t1 : ((L : Int) / 65536 == 126) = false := by rw [beq_eq_false_iff_ne]; omega
  by_cases g2 : L / 65536 = 127
  · have t2 : ((L : Int) / 65536 == 127) = true := by rw [beq_iff_eq]; omega
    have hs : spot l n k L = (0, 0) := by rw [spot_low l n k L HLt.out, spot_is_gap (.inr g2)]
    rw [hs] at HDL
    clear g1 g2 HDH HDT hsT
    go_wp2_with fail
    refine (HDL.out _ hS).mono ?_
    rintro e W3 ⟨rfl, hS3⟩
    clear HDL
    go_wp2_with fail
    go_ret
    exact ⟨rfl, by rw [hPe]; exact hS3.bel⟩
  have t2 : ((L : Int) / 65536 == 127) = false := by rw [beq_eq_false_iff_ne]; omega
  have hng : ¬ (L / 65536 = 126 ∨ L / 65536 = 127) := by omega
  have hL128 : L / 65536 < 128 := by have := HLt.out; omega
  have hup : (l ≠ 3 ∨ (spot l n k L).1 ≠ 1) → spot l n k H = spot l n k L := fun h => by
    rw [← hHe.out, spot_high l n k L HLt.out]
    rw [spot_low l n k L HLt.out] at h ⊢
    exact bp_up l n k _ _ hL128 hng h
  have hup3 : (spot l n k L).1 = 1 → (spot l n k H).1 = 1 := fun h => by
    rw [← hHe.out, spot_high l n k L HLt.out]
    rw [spot_low l n k L HLt.out] at h
    exact bp_up3 l n k _ _ hL128 h
  clear g1 g2 hng hL128 hsT
  by_cases h3 : l = 3
  · have t3 : ((l : Int) == 3) = true := by rw [beq_iff_eq]; omega
    by_cases hk : (spot l n k L).1 = 1
    · have hk3 := hup3 hk
      clear hup hup3 HDT
      generalize spot l n k L = s at *
      generalize spot l n k H = s' at *
      obtain ⟨K, A⟩ := s
      obtain ⟨K', A'⟩ := s'
      dsimp only at hk hk3 HDL HDH
      subst hk hk3
      replace HDH := Lib.hid HDH
      clear h3
      go_wp2_with fail
      refine (HDL.out _ hS).mono ?_
      rintro e W3 ⟨rfl, hS3⟩
      clear HDL c0 c1 c2 c3 hS
      go_wp2_with fail
      refine (HDH.out _ hS3).mono ?_
      rintro e W4 ⟨rfl, hS4⟩
      clear HDH hS3
      go_wp2_with fail
      go_ret
      exact ⟨rfl, by rw [hPe]; exact hS4.bel⟩
    · have hk2 := hup (.inr hk)
      rw [hk2] at HDH
      clear hup hup3 hk2
      have t4 : (((spot l n k L).1 : Int) == 1) = false := by rw [beq_eq_false_iff_ne]; omega
      generalize spot l n k L = s at *
      obtain ⟨K, A⟩ := s
      dsimp only at t4 hk HDL HDH HDT
      replace HDH := Lib.hid HDH
      clear h3 hk
      go_wp2_with fail
      refine (HDL.out _ hS).mono ?_
      rintro e W3 ⟨rfl, hS3⟩
      clear c0 c1 c2 c3 hS
      go_wp2_with fail
      refine (HDL.out _ hS3).mono ?_
      rintro e W4 ⟨rfl, hS4⟩
      go_wp2_with fail
      refine (HDH.out _ hS4).mono ?_
      rintro e W5 ⟨rfl, hS5⟩
      go_wp2_with fail
      refine (HDL.out _ hS5).mono ?_
      rintro e W6 ⟨rfl, hS6⟩
      go_wp2_with fail
      refine (HDT.out _ hS6).mono ?_
      rintro e W7 ⟨rfl, hS7⟩
      go_wp2_with fail
      go_ret
      exact ⟨rfl, by rw [hPe]; exact hS7.bel⟩
  · have t3 : ((l : Int) == 3) = false := by rw [beq_eq_false_iff_ne]; omega
    rw [hup (.inl h3)] at HDH
    clear hup hup3
    generalize spot l n k L = s at *
    obtain ⟨K, A⟩ := s
    dsimp only at HDL HDH HDT
    replace HDH := Lib.hid HDH
    clear h3
    go_wp2_with fail
    refine (HDL.out _ hS).mono ?_
    rintro e W4 ⟨rfl, hS4⟩
    clear c0 c1 c2 c3 hS
    go_wp2_with fail
    refine (HDH.out _ hS4).mono ?_
    rintro e W5 ⟨rfl, hS5⟩
    go_wp2_with fail
    refine (HDL.out _ hS5).mono ?_
    rintro e W6 ⟨rfl, hS6⟩
    go_wp2_with fail
    refine (HDT.out _ hS6).mono ?_
    rintro e W7 ⟨rfl, hS7⟩
    go_wp2_with fail
    go_ret
    exact ⟨rfl, by rw [hPe]; exact hS7.bel⟩
end boardTurned
end Go.Proofs.Ythhahhmdpjchkaa
