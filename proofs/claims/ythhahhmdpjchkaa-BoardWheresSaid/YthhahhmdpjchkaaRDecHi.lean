/-
  What stands at an address, by the document.
-/
import Derived.Test.YthhahhmdpjchkaaRDec
namespace Go.Proofs.Ythhahhmdpjchkaa
open Go.RowKit Go.Shelf
set_option maxRecDepth 100000
set_option maxHeartbeats 1000000
theorem rdec_hi (l n m a : Nat) (w : World) (hl : l = 2 ∨ l = 3) (hn : 1 ≤ n) (hn2 : n ≤ 8388608) (ha : a < 4294967296) :
    Calls Try.prog 12 #[.int .u8 l, .int .i64 n, .int .i64 m, .int .u32 a] w fun e w' => e = .returned (spotV (spot l n m a)) ∧ Below w.heap.size w w' := by
  have hB : a / 65536 % 256 < 256 := Nat.mod_lt _ (by decide)
  have hP : a % 65536 < 65536 := Nat.mod_lt _ (by decide)
  have eB : ((a : Int) / 65536 % 256) = ((a / 65536 % 256 : Nat) : Int) := by omega
  have eP : ((a : Int) % 65536) = ((a % 65536 : Nat) : Int) := by omega
  unfold spot
  generalize a / 65536 % 256 = B at *
  generalize a % 65536 = P at *
  have hX := Whole.fresh w 33 #[.int .u8 0, .int .i64 0]
  have hBe : Below w.heap.size w (w.alloc (.cells #[.int .u8 0, .int .i64 0] 33)) := (Below.refl _ w).alloc (Nat.le_refl _) _
  have HL := fun (x : Int) W hx => refN (romAt l B P) n x W hx (by have := romAt_lt l B P hP; omega) hn (by omega)
  replace HL := Lib.hid HL
  clear hn hn2
  have hne : l ≠ 1 := by omega
  have hl1 : ((l : Int) == 1) = false := by rw [beq_eq_false_iff_ne]; omega
  have hcs : (B ≤ 31) ∨ (32 ≤ B ∧ B ≤ 63) ∨ (64 ≤ B ∧ B ≤ 125) ∨ (126 ≤ B ∧ B ≤ 127) ∨ (128 ≤ B ∧ B ≤ 159) ∨ (160 ≤ B ∧ B ≤ 191) ∨ (192 ≤ B ∧ B ≤ 255) := by omega
  rcases hcs with hr | hr | hr | hr | hr | hr | hr
  · have t1 : ((B : Int) == 126) = false := by rw [beq_eq_false_iff_ne]; omega
    have t2 : ((B : Int) == 127) = false := by rw [beq_eq_false_iff_ne]; omega
    have hng : ¬ (B = 126 ∨ B = 127) := by omega
    have f0 : decide (32 ≤ (B : Int)) = false := decide_eq_false (by omega)
    have f1 : decide ((B : Int) ≤ 63) = true := decide_eq_true (by omega)
    have f2 : decide (160 ≤ (B : Int)) = false := decide_eq_false (by omega)
    have f3 : decide ((B : Int) ≤ 191) = true := decide_eq_true (by omega)
    have f4 : decide (64 ≤ (B : Int)) = false := decide_eq_false (by omega)
    have f5 : decide ((B : Int) ≤ 125) = true := decide_eq_true (by omega)
    have f6 : decide (192 ≤ (B : Int)) = false := decide_eq_false (by omega)
    have f7 : decide ((B : Int) < 128) = true := decide_eq_true (by omega)
    have hps : (P < 32768) ∨ (32768 ≤ P) := by omega
    rcases hps with hp | hp
    · skip
      have g0 : decide (32768 ≤ (P : Int)) = false := decide_eq_false (by omega)
      have hs := Lib.hid (spot_is_none (l := l) (n := n) (m := m) (B := B) (P := P) (.inr ((if_neg hne).trans (decide_eq_false (by omega)))) ((if_neg hne).trans (decide_eq_false (by omega))))
      clear hr hp hng HL
      go_enter Try.func12, Try.ntmps12
      go_wp2_with fail
      exact fin12 rfl hX hBe rfl (by rw [hs.out]; rfl) (by rw [hs.out]; rfl)
    · skip
      have g0 : decide (32768 ≤ (P : Int)) = true := decide_eq_true (by omega)
      have hs := Lib.hid (spot_is_rom (l := l) (n := n) (m := m) (B := B) (P := P) hng (.inr ((if_neg hne).trans (decide_eq_false (by omega)))) ((if_neg hne).trans (decide_eq_true (by omega))))
      have hA : romAt l B P = B % 64 * 65536 + P + moreOf l := (if_neg hne).trans (by rw [if_pos (by omega)])
      have hx : B % 64 < 64 := Nat.mod_lt _ (by decide)
      have ex : (B : Int) % 64 = ((B % 64 : Nat) : Int) := by omega
      rw [hA] at HL hs
      clear hA
      generalize B % 64 = x at *
      have hpk := Lib.hid hp
      clear hr hp hng
      rcases hl with hl | hl
      · have hl3 : ((l : Int) == 3) = false := by rw [beq_eq_false_iff_ne]; omega
        have hmo := Lib.hid (show moreOf l = 0 by subst hl; rfl)
        clear hl
        go_enter Try.func12, Try.ntmps12
        go_wp2_with (go_at_call 25; refine (HL.out _ _ (by have := hpk.out; have := hmo.out; omega)).mono ?_; rintro e w' ⟨rfl, rfl⟩)
        exact fin12 rfl (Whole.fresh w 33 _) ((Below.refl _ w).alloc (Nat.le_refl _) _) rfl (by rw [hs.out]; rfl) (by rw [hs.out])
      · have hl3 : ((l : Int) == 3) = true := by rw [beq_iff_eq]; omega
        have hmo := Lib.hid (show moreOf l = 4194304 by subst hl; rfl)
        clear hl
        go_enter Try.func12, Try.ntmps12
        go_wp2_with (go_at_call 25; refine (HL.out _ _ (by have := hpk.out; have := hmo.out; omega)).mono ?_; rintro e w' ⟨rfl, rfl⟩)
        exact fin12 rfl (Whole.fresh w 33 _) ((Below.refl _ w).alloc (Nat.le_refl _) _) rfl (by rw [hs.out]; rfl) (by rw [hs.out])
  · have t1 : ((B : Int) == 126) = false := by rw [beq_eq_false_iff_ne]; omega
    have t2 : ((B : Int) == 127) = false := by rw [beq_eq_false_iff_ne]; omega
    have hng : ¬ (B = 126 ∨ B = 127) := by omega
    have f0 : decide (32 ≤ (B : Int)) = true := decide_eq_true (by omega)
    have f1 : decide ((B : Int) ≤ 63) = true := decide_eq_true (by omega)
    have f2 : decide (160 ≤ (B : Int)) = false := decide_eq_false (by omega)
    have f3 : decide ((B : Int) ≤ 191) = true := decide_eq_true (by omega)
    have f4 : decide (64 ≤ (B : Int)) = false := decide_eq_false (by omega)
    have f5 : decide ((B : Int) ≤ 125) = true := decide_eq_true (by omega)
    have f6 : decide (192 ≤ (B : Int)) = false := decide_eq_false (by omega)
    have f7 : decide ((B : Int) < 128) = true := decide_eq_true (by omega)
    have hps : (P < 24576) ∨ (24576 ≤ P ∧ P < 32768) ∨ (32768 ≤ P) := by omega
    rcases hps with hp | hp | hp
    · skip
      have g0 : decide (24576 ≤ (P : Int)) = false := decide_eq_false (by omega)
      have g1 : decide (32768 ≤ (P : Int)) = false := decide_eq_false (by omega)
      have hs := Lib.hid (spot_is_none (l := l) (n := n) (m := m) (B := B) (P := P) (.inr ((if_neg hne).trans (decide_eq_false (by omega)))) ((if_neg hne).trans (decide_eq_false (by omega))))
      clear hr hp hng HL
      go_enter Try.func12, Try.ntmps12
      go_wp2_with fail
      exact fin12 rfl hX hBe rfl (by rw [hs.out]; rfl) (by rw [hs.out]; rfl)
    · skip
      have g0 : decide (24576 ≤ (P : Int)) = true := decide_eq_true (by omega)
      have g1 : decide ((P : Int) < 32768) = true := decide_eq_true (by omega)
      have g2 : decide (32768 ≤ (P : Int)) = false := decide_eq_false (by omega)
      by_cases h0 : 0 < m
      · have m0 : (0 : Int) < (m : Int) := by omega
        have hs := Lib.hid (spot_is_ram (l := l) (n := n) (m := m) (B := B) (P := P) hng h0 ((if_neg hne).trans (decide_eq_true (by omega))))
        have hmz : m ≠ 0 := by omega
        have hx : B % 32 < 32 := Nat.mod_lt _ (by decide)
        have hA : ramAt l B P = B % 32 * 8192 + P - 24576 := if_neg hne
        have ex : (B : Int) % 32 = ((B % 32 : Nat) : Int) := by omega
        rw [hA] at hs
        clear hA
        generalize B % 32 = x at *
        obtain ⟨A, hA⟩ : ∃ A, x * 8192 + P - 24576 = A := ⟨_, rfl⟩
        have hsum : (x : Int) * 8192 + (P : Int) - 24576 = (A : Int) := by omega
        rw [hA] at hs
        clear hr hp hng HL hA
        go_enter Try.func12, Try.ntmps12
        go_wp2_with fail
        exact fin12 rfl (Whole.fresh w 33 _) ((Below.refl _ w).alloc (Nat.le_refl _) _) rfl (by rw [hs.out]; rfl) (mod_eq hs.out (by omega))
      · have m0 : decide (0 < (m : Int)) = false := decide_eq_false (by omega)
        have hs := Lib.hid (spot_is_none (l := l) (n := n) (m := m) (B := B) (P := P) (.inl (by omega)) ((if_neg hne).trans (decide_eq_false (by omega))))
        clear hr hp hng HL
        go_enter Try.func12, Try.ntmps12
        go_wp2_with fail
        exact fin12 rfl hX hBe rfl (by rw [hs.out]; rfl) (by rw [hs.out]; rfl)
    · skip
      have g0 : decide (24576 ≤ (P : Int)) = true := decide_eq_true (by omega)
      have g1 : decide ((P : Int) < 32768) = false := decide_eq_false (by omega)
      have g2 : decide (32768 ≤ (P : Int)) = true := decide_eq_true (by omega)
      have hs := Lib.hid (spot_is_rom (l := l) (n := n) (m := m) (B := B) (P := P) hng (.inr ((if_neg hne).trans (decide_eq_false (by omega)))) ((if_neg hne).trans (decide_eq_true (by omega))))
      have hA : romAt l B P = B % 64 * 65536 + P + moreOf l := (if_neg hne).trans (by rw [if_pos (by omega)])
      have hx : B % 64 < 64 := Nat.mod_lt _ (by decide)
      have ex : (B : Int) % 64 = ((B % 64 : Nat) : Int) := by omega
      rw [hA] at HL hs
      clear hA
      generalize B % 64 = x at *
      have hpk := Lib.hid hp
      clear hr hp hng
      rcases hl with hl | hl
      · have hl3 : ((l : Int) == 3) = false := by rw [beq_eq_false_iff_ne]; omega
        have hmo := Lib.hid (show moreOf l = 0 by subst hl; rfl)
        clear hl
        go_enter Try.func12, Try.ntmps12
        go_wp2_with (go_at_call 25; refine (HL.out _ _ (by have := hpk.out; have := hmo.out; omega)).mono ?_; rintro e w' ⟨rfl, rfl⟩)
        exact fin12 rfl (Whole.fresh w 33 _) ((Below.refl _ w).alloc (Nat.le_refl _) _) rfl (by rw [hs.out]; rfl) (by rw [hs.out])
      · have hl3 : ((l : Int) == 3) = true := by rw [beq_iff_eq]; omega
        have hmo := Lib.hid (show moreOf l = 4194304 by subst hl; rfl)
        clear hl
        go_enter Try.func12, Try.ntmps12
        go_wp2_with (go_at_call 25; refine (HL.out _ _ (by have := hpk.out; have := hmo.out; omega)).mono ?_; rintro e w' ⟨rfl, rfl⟩)
        exact fin12 rfl (Whole.fresh w 33 _) ((Below.refl _ w).alloc (Nat.le_refl _) _) rfl (by rw [hs.out]; rfl) (by rw [hs.out])
  · have t1 : ((B : Int) == 126) = false := by rw [beq_eq_false_iff_ne]; omega
    have t2 : ((B : Int) == 127) = false := by rw [beq_eq_false_iff_ne]; omega
    have hng : ¬ (B = 126 ∨ B = 127) := by omega
    have f0 : decide (32 ≤ (B : Int)) = true := decide_eq_true (by omega)
    have f1 : decide ((B : Int) ≤ 63) = false := decide_eq_false (by omega)
    have f2 : decide (160 ≤ (B : Int)) = false := decide_eq_false (by omega)
    have f3 : decide ((B : Int) ≤ 191) = true := decide_eq_true (by omega)
    have f4 : decide (64 ≤ (B : Int)) = true := decide_eq_true (by omega)
    have f5 : decide ((B : Int) ≤ 125) = true := decide_eq_true (by omega)
    have f6 : decide (192 ≤ (B : Int)) = false := decide_eq_false (by omega)
    have f7 : decide ((B : Int) < 128) = true := decide_eq_true (by omega)
    have hps : (P < 32768) ∨ (32768 ≤ P) := by omega
    rcases hps with hp | hp
    · skip
      have g0 : decide (32768 ≤ (P : Int)) = false := decide_eq_false (by omega)
      have hs := Lib.hid (spot_is_rom (l := l) (n := n) (m := m) (B := B) (P := P) hng (.inr ((if_neg hne).trans (decide_eq_false (by omega)))) ((if_neg hne).trans (decide_eq_true (by omega))))
      have hA : romAt l B P = B % 64 * 65536 + P + moreOf l := (if_neg hne).trans (by rw [if_pos (by omega)])
      have hx : B % 64 < 64 := Nat.mod_lt _ (by decide)
      have ex : (B : Int) % 64 = ((B % 64 : Nat) : Int) := by omega
      rw [hA] at HL hs
      clear hA
      generalize B % 64 = x at *
      have hpk := Lib.hid hp
      clear hr hp hng
      rcases hl with hl | hl
      · have hl3 : ((l : Int) == 3) = false := by rw [beq_eq_false_iff_ne]; omega
        have hmo := Lib.hid (show moreOf l = 0 by subst hl; rfl)
        clear hl
        go_enter Try.func12, Try.ntmps12
        go_wp2_with (go_at_call 25; refine (HL.out _ _ (by have := hpk.out; have := hmo.out; omega)).mono ?_; rintro e w' ⟨rfl, rfl⟩)
        exact fin12 rfl (Whole.fresh w 33 _) ((Below.refl _ w).alloc (Nat.le_refl _) _) rfl (by rw [hs.out]; rfl) (by rw [hs.out])
      · have hl3 : ((l : Int) == 3) = true := by rw [beq_iff_eq]; omega
        have hmo := Lib.hid (show moreOf l = 4194304 by subst hl; rfl)
        clear hl
        go_enter Try.func12, Try.ntmps12
        go_wp2_with (go_at_call 25; refine (HL.out _ _ (by have := hpk.out; have := hmo.out; omega)).mono ?_; rintro e w' ⟨rfl, rfl⟩)
        exact fin12 rfl (Whole.fresh w 33 _) ((Below.refl _ w).alloc (Nat.le_refl _) _) rfl (by rw [hs.out]; rfl) (by rw [hs.out])
    · skip
      have g0 : decide (32768 ≤ (P : Int)) = true := decide_eq_true (by omega)
      have hs := Lib.hid (spot_is_rom (l := l) (n := n) (m := m) (B := B) (P := P) hng (.inr ((if_neg hne).trans (decide_eq_false (by omega)))) ((if_neg hne).trans (decide_eq_true (by omega))))
      have hA : romAt l B P = B % 64 * 65536 + P + moreOf l := (if_neg hne).trans (by rw [if_pos (by omega)])
      have hx : B % 64 < 64 := Nat.mod_lt _ (by decide)
      have ex : (B : Int) % 64 = ((B % 64 : Nat) : Int) := by omega
      rw [hA] at HL hs
      clear hA
      generalize B % 64 = x at *
      have hpk := Lib.hid hp
      clear hr hp hng
      rcases hl with hl | hl
      · have hl3 : ((l : Int) == 3) = false := by rw [beq_eq_false_iff_ne]; omega
        have hmo := Lib.hid (show moreOf l = 0 by subst hl; rfl)
        clear hl
        go_enter Try.func12, Try.ntmps12
        go_wp2_with (go_at_call 25; refine (HL.out _ _ (by have := hpk.out; have := hmo.out; omega)).mono ?_; rintro e w' ⟨rfl, rfl⟩)
        exact fin12 rfl (Whole.fresh w 33 _) ((Below.refl _ w).alloc (Nat.le_refl _) _) rfl (by rw [hs.out]; rfl) (by rw [hs.out])
      · have hl3 : ((l : Int) == 3) = true := by rw [beq_iff_eq]; omega
        have hmo := Lib.hid (show moreOf l = 4194304 by subst hl; rfl)
        clear hl
        go_enter Try.func12, Try.ntmps12
        go_wp2_with (go_at_call 25; refine (HL.out _ _ (by have := hpk.out; have := hmo.out; omega)).mono ?_; rintro e w' ⟨rfl, rfl⟩)
        exact fin12 rfl (Whole.fresh w 33 _) ((Below.refl _ w).alloc (Nat.le_refl _) _) rfl (by rw [hs.out]; rfl) (by rw [hs.out])
  · rcases (show B = 126 ∨ B = 127 by omega) with b1 | b1
    · have t1 : ((B : Int) == 126) = true := by rw [beq_iff_eq]; omega
      have hs := Lib.hid (spot_is_gap (l := l) (n := n) (m := m) (B := B) (P := P) (.inl b1))
      clear b1 hr
      go_enter Try.func12, Try.ntmps12
      go_wp2_with fail
      exact fin12 rfl hX hBe rfl (by rw [hs.out]; rfl) (by rw [hs.out]; rfl)
    · have t1 : ((B : Int) == 126) = false := by rw [beq_eq_false_iff_ne]; omega
      have t2 : ((B : Int) == 127) = true := by rw [beq_iff_eq]; omega
      have hs := Lib.hid (spot_is_gap (l := l) (n := n) (m := m) (B := B) (P := P) (.inr b1))
      clear b1 hr
      go_enter Try.func12, Try.ntmps12
      go_wp2_with fail
      exact fin12 rfl hX hBe rfl (by rw [hs.out]; rfl) (by rw [hs.out]; rfl)
  · have t1 : ((B : Int) == 126) = false := by rw [beq_eq_false_iff_ne]; omega
    have t2 : ((B : Int) == 127) = false := by rw [beq_eq_false_iff_ne]; omega
    have hng : ¬ (B = 126 ∨ B = 127) := by omega
    have f0 : decide (32 ≤ (B : Int)) = true := decide_eq_true (by omega)
    have f1 : decide ((B : Int) ≤ 63) = false := decide_eq_false (by omega)
    have f2 : decide (160 ≤ (B : Int)) = false := decide_eq_false (by omega)
    have f3 : decide ((B : Int) ≤ 191) = true := decide_eq_true (by omega)
    have f4 : decide (64 ≤ (B : Int)) = true := decide_eq_true (by omega)
    have f5 : decide ((B : Int) ≤ 125) = false := decide_eq_false (by omega)
    have f6 : decide (192 ≤ (B : Int)) = false := decide_eq_false (by omega)
    have f7 : decide ((B : Int) < 128) = false := decide_eq_false (by omega)
    have hps : (P < 32768) ∨ (32768 ≤ P) := by omega
    rcases hps with hp | hp
    · skip
      have g0 : decide (32768 ≤ (P : Int)) = false := decide_eq_false (by omega)
      have hs := Lib.hid (spot_is_none (l := l) (n := n) (m := m) (B := B) (P := P) (.inr ((if_neg hne).trans (decide_eq_false (by omega)))) ((if_neg hne).trans (decide_eq_false (by omega))))
      clear hr hp hng HL
      go_enter Try.func12, Try.ntmps12
      go_wp2_with fail
      exact fin12 rfl hX hBe rfl (by rw [hs.out]; rfl) (by rw [hs.out]; rfl)
    · skip
      have g0 : decide (32768 ≤ (P : Int)) = true := decide_eq_true (by omega)
      have hs := Lib.hid (spot_is_rom (l := l) (n := n) (m := m) (B := B) (P := P) hng (.inr ((if_neg hne).trans (decide_eq_false (by omega)))) ((if_neg hne).trans (decide_eq_true (by omega))))
      have hA : romAt l B P = B % 64 * 65536 + P := (if_neg hne).trans (by rw [if_neg (by omega), Nat.add_zero])
      have hx : B % 64 < 64 := Nat.mod_lt _ (by decide)
      have ex : (B : Int) % 64 = ((B % 64 : Nat) : Int) := by omega
      rw [hA] at HL hs
      clear hA
      generalize B % 64 = x at *
      have hpk := Lib.hid hp
      clear hr hp hng
      rcases hl with hl | hl
      · have hl3 : ((l : Int) == 3) = false := by rw [beq_eq_false_iff_ne]; omega
        clear hl
        go_enter Try.func12, Try.ntmps12
        go_wp2_with (go_at_call 25; refine (HL.out _ _ (by have := hpk.out; omega)).mono ?_; rintro e w' ⟨rfl, rfl⟩)
        exact fin12 rfl (Whole.fresh w 33 _) ((Below.refl _ w).alloc (Nat.le_refl _) _) rfl (by rw [hs.out]; rfl) (by rw [hs.out])
      · have hl3 : ((l : Int) == 3) = true := by rw [beq_iff_eq]; omega
        clear hl
        go_enter Try.func12, Try.ntmps12
        go_wp2_with (go_at_call 25; refine (HL.out _ _ (by have := hpk.out; omega)).mono ?_; rintro e w' ⟨rfl, rfl⟩)
        exact fin12 rfl (Whole.fresh w 33 _) ((Below.refl _ w).alloc (Nat.le_refl _) _) rfl (by rw [hs.out]; rfl) (by rw [hs.out])
  · have t1 : ((B : Int) == 126) = false := by rw [beq_eq_false_iff_ne]; omega
    have t2 : ((B : Int) == 127) = false := by rw [beq_eq_false_iff_ne]; omega
    have hng : ¬ (B = 126 ∨ B = 127) := by omega
    have f0 : decide (32 ≤ (B : Int)) = true := decide_eq_true (by omega)
    have f1 : decide ((B : Int) ≤ 63) = false := decide_eq_false (by omega)
    have f2 : decide (160 ≤ (B : Int)) = true := decide_eq_true (by omega)
    have f3 : decide ((B : Int) ≤ 191) = true := decide_eq_true (by omega)
    have f4 : decide (64 ≤ (B : Int)) = true := decide_eq_true (by omega)
    have f5 : decide ((B : Int) ≤ 125) = false := decide_eq_false (by omega)
    have f6 : decide (192 ≤ (B : Int)) = false := decide_eq_false (by omega)
    have f7 : decide ((B : Int) < 128) = false := decide_eq_false (by omega)
    have hps : (P < 24576) ∨ (24576 ≤ P ∧ P < 32768) ∨ (32768 ≤ P) := by omega
    rcases hps with hp | hp | hp
    · skip
      have g0 : decide (24576 ≤ (P : Int)) = false := decide_eq_false (by omega)
      have g1 : decide (32768 ≤ (P : Int)) = false := decide_eq_false (by omega)
      have hs := Lib.hid (spot_is_none (l := l) (n := n) (m := m) (B := B) (P := P) (.inr ((if_neg hne).trans (decide_eq_false (by omega)))) ((if_neg hne).trans (decide_eq_false (by omega))))
      clear hr hp hng HL
      go_enter Try.func12, Try.ntmps12
      go_wp2_with fail
      exact fin12 rfl hX hBe rfl (by rw [hs.out]; rfl) (by rw [hs.out]; rfl)
    · skip
      have g0 : decide (24576 ≤ (P : Int)) = true := decide_eq_true (by omega)
      have g1 : decide ((P : Int) < 32768) = true := decide_eq_true (by omega)
      have g2 : decide (32768 ≤ (P : Int)) = false := decide_eq_false (by omega)
      by_cases h0 : 0 < m
      · have m0 : (0 : Int) < (m : Int) := by omega
        have hs := Lib.hid (spot_is_ram (l := l) (n := n) (m := m) (B := B) (P := P) hng h0 ((if_neg hne).trans (decide_eq_true (by omega))))
        have hmz : m ≠ 0 := by omega
        have hx : B % 32 < 32 := Nat.mod_lt _ (by decide)
        have hA : ramAt l B P = B % 32 * 8192 + P - 24576 := if_neg hne
        have ex : (B : Int) % 32 = ((B % 32 : Nat) : Int) := by omega
        rw [hA] at hs
        clear hA
        generalize B % 32 = x at *
        obtain ⟨A, hA⟩ : ∃ A, x * 8192 + P - 24576 = A := ⟨_, rfl⟩
        have hsum : (x : Int) * 8192 + (P : Int) - 24576 = (A : Int) := by omega
        rw [hA] at hs
        clear hr hp hng HL hA
        go_enter Try.func12, Try.ntmps12
        go_wp2_with fail
        exact fin12 rfl (Whole.fresh w 33 _) ((Below.refl _ w).alloc (Nat.le_refl _) _) rfl (by rw [hs.out]; rfl) (mod_eq hs.out (by omega))
      · have m0 : decide (0 < (m : Int)) = false := decide_eq_false (by omega)
        have hs := Lib.hid (spot_is_none (l := l) (n := n) (m := m) (B := B) (P := P) (.inl (by omega)) ((if_neg hne).trans (decide_eq_false (by omega))))
        clear hr hp hng HL
        go_enter Try.func12, Try.ntmps12
        go_wp2_with fail
        exact fin12 rfl hX hBe rfl (by rw [hs.out]; rfl) (by rw [hs.out]; rfl)
    · skip
      have g0 : decide (24576 ≤ (P : Int)) = true := decide_eq_true (by omega)
      have g1 : decide ((P : Int) < 32768) = false := decide_eq_false (by omega)
      have g2 : decide (32768 ≤ (P : Int)) = true := decide_eq_true (by omega)
      have hs := Lib.hid (spot_is_rom (l := l) (n := n) (m := m) (B := B) (P := P) hng (.inr ((if_neg hne).trans (decide_eq_false (by omega)))) ((if_neg hne).trans (decide_eq_true (by omega))))
      have hA : romAt l B P = B % 64 * 65536 + P := (if_neg hne).trans (by rw [if_neg (by omega), Nat.add_zero])
      have hx : B % 64 < 64 := Nat.mod_lt _ (by decide)
      have ex : (B : Int) % 64 = ((B % 64 : Nat) : Int) := by omega
      rw [hA] at HL hs
      clear hA
      generalize B % 64 = x at *
      have hpk := Lib.hid hp
      clear hr hp hng
      rcases hl with hl | hl
      · have hl3 : ((l : Int) == 3) = false := by rw [beq_eq_false_iff_ne]; omega
        clear hl
        go_enter Try.func12, Try.ntmps12
        go_wp2_with (go_at_call 25; refine (HL.out _ _ (by have := hpk.out; omega)).mono ?_; rintro e w' ⟨rfl, rfl⟩)
        exact fin12 rfl (Whole.fresh w 33 _) ((Below.refl _ w).alloc (Nat.le_refl _) _) rfl (by rw [hs.out]; rfl) (by rw [hs.out])
      · have hl3 : ((l : Int) == 3) = true := by rw [beq_iff_eq]; omega
        clear hl
        go_enter Try.func12, Try.ntmps12
        go_wp2_with (go_at_call 25; refine (HL.out _ _ (by have := hpk.out; omega)).mono ?_; rintro e w' ⟨rfl, rfl⟩)
        exact fin12 rfl (Whole.fresh w 33 _) ((Below.refl _ w).alloc (Nat.le_refl _) _) rfl (by rw [hs.out]; rfl) (by rw [hs.out])
  · have t1 : ((B : Int) == 126) = false := by rw [beq_eq_false_iff_ne]; omega
    have t2 : ((B : Int) == 127) = false := by rw [beq_eq_false_iff_ne]; omega
    have hng : ¬ (B = 126 ∨ B = 127) := by omega
    have f0 : decide (32 ≤ (B : Int)) = true := decide_eq_true (by omega)
    have f1 : decide ((B : Int) ≤ 63) = false := decide_eq_false (by omega)
    have f2 : decide (160 ≤ (B : Int)) = true := decide_eq_true (by omega)
    have f3 : decide ((B : Int) ≤ 191) = false := decide_eq_false (by omega)
    have f4 : decide (64 ≤ (B : Int)) = true := decide_eq_true (by omega)
    have f5 : decide ((B : Int) ≤ 125) = false := decide_eq_false (by omega)
    have f6 : decide (192 ≤ (B : Int)) = true := decide_eq_true (by omega)
    have f7 : decide ((B : Int) < 128) = false := decide_eq_false (by omega)
    have hps : (P < 32768) ∨ (32768 ≤ P) := by omega
    rcases hps with hp | hp
    · skip
      have g0 : decide (32768 ≤ (P : Int)) = false := decide_eq_false (by omega)
      have hs := Lib.hid (spot_is_rom (l := l) (n := n) (m := m) (B := B) (P := P) hng (.inr ((if_neg hne).trans (decide_eq_false (by omega)))) ((if_neg hne).trans (decide_eq_true (by omega))))
      have hA : romAt l B P = B % 64 * 65536 + P := (if_neg hne).trans (by rw [if_neg (by omega), Nat.add_zero])
      have hx : B % 64 < 64 := Nat.mod_lt _ (by decide)
      have ex : (B : Int) % 64 = ((B % 64 : Nat) : Int) := by omega
      rw [hA] at HL hs
      clear hA
      generalize B % 64 = x at *
      have hpk := Lib.hid hp
      clear hr hp hng
      rcases hl with hl | hl
      · have hl3 : ((l : Int) == 3) = false := by rw [beq_eq_false_iff_ne]; omega
        clear hl
        go_enter Try.func12, Try.ntmps12
        go_wp2_with (go_at_call 25; refine (HL.out _ _ (by have := hpk.out; omega)).mono ?_; rintro e w' ⟨rfl, rfl⟩)
        exact fin12 rfl (Whole.fresh w 33 _) ((Below.refl _ w).alloc (Nat.le_refl _) _) rfl (by rw [hs.out]; rfl) (by rw [hs.out])
      · have hl3 : ((l : Int) == 3) = true := by rw [beq_iff_eq]; omega
        clear hl
        go_enter Try.func12, Try.ntmps12
        go_wp2_with (go_at_call 25; refine (HL.out _ _ (by have := hpk.out; omega)).mono ?_; rintro e w' ⟨rfl, rfl⟩)
        exact fin12 rfl (Whole.fresh w 33 _) ((Below.refl _ w).alloc (Nat.le_refl _) _) rfl (by rw [hs.out]; rfl) (by rw [hs.out])
    · skip
      have g0 : decide (32768 ≤ (P : Int)) = true := decide_eq_true (by omega)
      have hs := Lib.hid (spot_is_rom (l := l) (n := n) (m := m) (B := B) (P := P) hng (.inr ((if_neg hne).trans (decide_eq_false (by omega)))) ((if_neg hne).trans (decide_eq_true (by omega))))
      have hA : romAt l B P = B % 64 * 65536 + P := (if_neg hne).trans (by rw [if_neg (by omega), Nat.add_zero])
      have hx : B % 64 < 64 := Nat.mod_lt _ (by decide)
      have ex : (B : Int) % 64 = ((B % 64 : Nat) : Int) := by omega
      rw [hA] at HL hs
      clear hA
      generalize B % 64 = x at *
      have hpk := Lib.hid hp
      clear hr hp hng
      rcases hl with hl | hl
      · have hl3 : ((l : Int) == 3) = false := by rw [beq_eq_false_iff_ne]; omega
        clear hl
        go_enter Try.func12, Try.ntmps12
        go_wp2_with (go_at_call 25; refine (HL.out _ _ (by have := hpk.out; omega)).mono ?_; rintro e w' ⟨rfl, rfl⟩)
        exact fin12 rfl (Whole.fresh w 33 _) ((Below.refl _ w).alloc (Nat.le_refl _) _) rfl (by rw [hs.out]; rfl) (by rw [hs.out])
      · have hl3 : ((l : Int) == 3) = true := by rw [beq_iff_eq]; omega
        clear hl
        go_enter Try.func12, Try.ntmps12
        go_wp2_with (go_at_call 25; refine (HL.out _ _ (by have := hpk.out; omega)).mono ?_; rintro e w' ⟨rfl, rfl⟩)
        exact fin12 rfl (Whole.fresh w 33 _) ((Below.refl _ w).alloc (Nat.le_refl _) _) rfl (by rw [hs.out]; rfl) (by rw [hs.out])
end Go.Proofs.Ythhahhmdpjchkaa
