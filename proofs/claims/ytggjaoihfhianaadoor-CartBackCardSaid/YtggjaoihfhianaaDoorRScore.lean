/-
  Score, by the document.
-/
import Derived.Test.YtggjaoihfhianaaDoorScores
namespace Go.Proofs.YtggjaoihfhianaaDoor
open Go.RowKit Go.Shelf
set_option maxRecDepth 100000
set_option maxHeartbeats 2000000

theorem rscore1_any (t : ByteArray) (mode kind rs check sum reset : Nat) (w : World) (ht : t.size ≤ 9223372036854775807) (hm : mode < 256) (hck : check < 65536) (hsm : sum < 65536) :
    Calls Tryd.prog 17 #[cardA t mode kind rs check sum reset, .int .u8 1] w fun e w' => e = .returned (.int .i64 (scoreV t mode check sum reset 1)) ∧ Below w.heap.size w w' := by
  have hv : scoreV t mode check sum reset 1 = scoreB (decide ((check + sum) % 65536 = 65535)) ((modesL 1).any fun y => ((modeF mode : Nat) : Int) == y) (seenB t) (decide (32768 ≤ reset)) := by
    unfold scoreV; rw [if_neg (by decide)]
  rw [hv]
  clear hv
  have HA := fun W => at_any 1 W (by decide)
  simp only [if_pos (show 1 ≤ 1 ∧ 1 ≤ 3 by decide)] at HA
  have HP := fun W => seen_any t W ht
  have e2 : (((check : Int) + sum) % 65536 == 65535) = decide ((check + sum) % 65536 = 65535) := by
    rw [Bool.eq_iff_iff, beq_iff_eq, decide_eq_true_eq]; omega
  have e3 : decide ((32768 : Int) ≤ (reset : Int)) = decide (32768 ≤ reset) := decide_eq_decide.2 (by omega)
  generalize seenB t = cp at *
  generalize decide ((check + sum) % 65536 = 65535) = cs at *
  generalize decide (32768 ≤ reset) = cr at *
  replace HA := Lib.hid HA
  replace HP := Lib.hid HP
  have hB0 : Below w.heap.size w (w.alloc (Obj.cells #[.string t, .int .u8 mode, .int .u8 kind, .int .u8 rs, .int .u16 check, .int .u16 sum, .int .u16 reset] 39)) := (Below.refl _ w).alloc (Nat.le_refl _) _
  have hX := Whole.fresh w 39 #[.string t, .int .u8 mode, .int .u8 kind, .int .u8 rs, .int .u16 check, .int .u16 sum, .int .u16 reset]
  have key : ∀ (mf : Nat) (bit : Bool), modeF mode = mf → ((mode : Int) / 16 % 2 == 1) = bit → (bit = true → (mode : Int) - 16 = (mf : Nat)) → (bit = false → mode = mf) →
      Calls Tryd.prog 17 #[cardA t mode kind rs check sum reset, .int .u8 1] w fun e w' => e = .returned (.int .i64 (scoreB cs ((modesL 1).any fun y => ((modeF mode : Nat) : Int) == y) cp cr)) ∧ Below w.heap.size w w' := by
    intro mf bit hmf hbit h1 h0
    rw [hmf]
    unfold modesL cardA
    obtain ⟨q1, hq1⟩ : ∃ b, ((mf : Int) == 32) = b := ⟨_, rfl⟩
    obtain ⟨q2, hq2⟩ : ∃ b, ((mf : Int) == 35) = b := ⟨_, rfl⟩
    have hany : ((if 1 = 1 then [32, 35] else if 1 = 2 then [33] else [37]).any fun y => ((mf : Nat) : Int) == y) = (q1 || q2) := by
      simp [hq1, hq2]
    rw [hany]
    clear hany hmf
    go_enter Tryd.func17, Tryd.ntmps17
    go_wp2_with fail
    generalize (w.alloc (Obj.cells #[.string t, .int .u8 mode, .int .u8 kind, .int .u8 rs, .int .u16 check, .int .u16 sum, .int .u16 reset] 39)) = W0 at hB0 hX ⊢
    refine (HA.out W0).mono ?_
    rintro e w1 ⟨rfl, rfl⟩
    have y0 := hX.cell 0
    have y1 := hX.cell 1
    have y2 := hX.cell 2
    have y3 := hX.cell 3
    have y4 := hX.cell 4
    have y5 := hX.cell 5
    have y6 := hX.cell 6
    clear HA
    cases bit with
    | true =>
      have h1 := h1 rfl
      clear h0
      cases cs <;> cases q1 <;> cases q2 <;>
      · go_wp2_with fail
        refine (HP.out _).mono ?_
        rintro e w' ⟨rfl, rfl⟩
        cases cp <;> cases cr <;>
        · go_wp2_with fail
          go_ret
          exact ⟨rfl, hB0⟩
    | false =>
      obtain rfl := h0 rfl
      clear h0 h1
      cases cs <;> cases q1 <;> cases q2 <;>
      · go_wp2_with fail
        refine (HP.out _).mono ?_
        rintro e w' ⟨rfl, rfl⟩
        cases cp <;> cases cr <;>
        · go_wp2_with fail
          go_ret
          exact ⟨rfl, hB0⟩
  by_cases hb : mode / 16 % 2 = 1
  · exact key (mode - 16) true (by unfold modeF; rw [if_pos hb]) (by rw [beq_iff_eq]; omega) (fun _ => by omega) (fun h => by cases h)
  · exact key mode false (by unfold modeF; rw [if_neg hb]) (by rw [beq_eq_false_iff_ne]; omega) (fun h => by cases h) (fun _ => rfl)
theorem rscore2_any (t : ByteArray) (mode kind rs check sum reset : Nat) (w : World) (ht : t.size ≤ 9223372036854775807) (hm : mode < 256) (hck : check < 65536) (hsm : sum < 65536) :
    Calls Tryd.prog 17 #[cardA t mode kind rs check sum reset, .int .u8 2] w fun e w' => e = .returned (.int .i64 (scoreV t mode check sum reset 2)) ∧ Below w.heap.size w w' := by
  have hv : scoreV t mode check sum reset 2 = scoreB (decide ((check + sum) % 65536 = 65535)) ((modesL 2).any fun y => ((modeF mode : Nat) : Int) == y) (seenB t) (decide (32768 ≤ reset)) := by
    unfold scoreV; rw [if_neg (by decide)]
  rw [hv]
  clear hv
  have HA := fun W => at_any 2 W (by decide)
  simp only [if_pos (show 1 ≤ 2 ∧ 2 ≤ 3 by decide)] at HA
  have HP := fun W => seen_any t W ht
  have e2 : (((check : Int) + sum) % 65536 == 65535) = decide ((check + sum) % 65536 = 65535) := by
    rw [Bool.eq_iff_iff, beq_iff_eq, decide_eq_true_eq]; omega
  have e3 : decide ((32768 : Int) ≤ (reset : Int)) = decide (32768 ≤ reset) := decide_eq_decide.2 (by omega)
  generalize seenB t = cp at *
  generalize decide ((check + sum) % 65536 = 65535) = cs at *
  generalize decide (32768 ≤ reset) = cr at *
  replace HA := Lib.hid HA
  replace HP := Lib.hid HP
  have hB0 : Below w.heap.size w (w.alloc (Obj.cells #[.string t, .int .u8 mode, .int .u8 kind, .int .u8 rs, .int .u16 check, .int .u16 sum, .int .u16 reset] 39)) := (Below.refl _ w).alloc (Nat.le_refl _) _
  have hX := Whole.fresh w 39 #[.string t, .int .u8 mode, .int .u8 kind, .int .u8 rs, .int .u16 check, .int .u16 sum, .int .u16 reset]
  have key : ∀ (mf : Nat) (bit : Bool), modeF mode = mf → ((mode : Int) / 16 % 2 == 1) = bit → (bit = true → (mode : Int) - 16 = (mf : Nat)) → (bit = false → mode = mf) →
      Calls Tryd.prog 17 #[cardA t mode kind rs check sum reset, .int .u8 2] w fun e w' => e = .returned (.int .i64 (scoreB cs ((modesL 2).any fun y => ((modeF mode : Nat) : Int) == y) cp cr)) ∧ Below w.heap.size w w' := by
    intro mf bit hmf hbit h1 h0
    rw [hmf]
    unfold modesL cardA
    obtain ⟨q1, hq1⟩ : ∃ b, ((mf : Int) == 33) = b := ⟨_, rfl⟩
    have hany : ((if 2 = 1 then [32, 35] else if 2 = 2 then [33] else [37]).any fun y => ((mf : Nat) : Int) == y) = (q1) := by
      simp [hq1]
    rw [hany]
    clear hany hmf
    go_enter Tryd.func17, Tryd.ntmps17
    go_wp2_with fail
    generalize (w.alloc (Obj.cells #[.string t, .int .u8 mode, .int .u8 kind, .int .u8 rs, .int .u16 check, .int .u16 sum, .int .u16 reset] 39)) = W0 at hB0 hX ⊢
    refine (HA.out W0).mono ?_
    rintro e w1 ⟨rfl, rfl⟩
    have y0 := hX.cell 0
    have y1 := hX.cell 1
    have y2 := hX.cell 2
    have y3 := hX.cell 3
    have y4 := hX.cell 4
    have y5 := hX.cell 5
    have y6 := hX.cell 6
    clear HA
    cases bit with
    | true =>
      have h1 := h1 rfl
      clear h0
      cases cs <;> cases q1 <;>
      · go_wp2_with fail
        refine (HP.out _).mono ?_
        rintro e w' ⟨rfl, rfl⟩
        cases cp <;> cases cr <;>
        · go_wp2_with fail
          go_ret
          exact ⟨rfl, hB0⟩
    | false =>
      obtain rfl := h0 rfl
      clear h0 h1
      cases cs <;> cases q1 <;>
      · go_wp2_with fail
        refine (HP.out _).mono ?_
        rintro e w' ⟨rfl, rfl⟩
        cases cp <;> cases cr <;>
        · go_wp2_with fail
          go_ret
          exact ⟨rfl, hB0⟩
  by_cases hb : mode / 16 % 2 = 1
  · exact key (mode - 16) true (by unfold modeF; rw [if_pos hb]) (by rw [beq_iff_eq]; omega) (fun _ => by omega) (fun h => by cases h)
  · exact key mode false (by unfold modeF; rw [if_neg hb]) (by rw [beq_eq_false_iff_ne]; omega) (fun h => by cases h) (fun _ => rfl)
theorem rscore3_any (t : ByteArray) (mode kind rs check sum reset : Nat) (w : World) (ht : t.size ≤ 9223372036854775807) (hm : mode < 256) (hck : check < 65536) (hsm : sum < 65536) :
    Calls Tryd.prog 17 #[cardA t mode kind rs check sum reset, .int .u8 3] w fun e w' => e = .returned (.int .i64 (scoreV t mode check sum reset 3)) ∧ Below w.heap.size w w' := by
  have hv : scoreV t mode check sum reset 3 = scoreB (decide ((check + sum) % 65536 = 65535)) ((modesL 3).any fun y => ((modeF mode : Nat) : Int) == y) (seenB t) (decide (32768 ≤ reset)) := by
    unfold scoreV; rw [if_neg (by decide)]
  rw [hv]
  clear hv
  have HA := fun W => at_any 3 W (by decide)
  simp only [if_pos (show 1 ≤ 3 ∧ 3 ≤ 3 by decide)] at HA
  have HP := fun W => seen_any t W ht
  have e2 : (((check : Int) + sum) % 65536 == 65535) = decide ((check + sum) % 65536 = 65535) := by
    rw [Bool.eq_iff_iff, beq_iff_eq, decide_eq_true_eq]; omega
  have e3 : decide ((32768 : Int) ≤ (reset : Int)) = decide (32768 ≤ reset) := decide_eq_decide.2 (by omega)
  generalize seenB t = cp at *
  generalize decide ((check + sum) % 65536 = 65535) = cs at *
  generalize decide (32768 ≤ reset) = cr at *
  replace HA := Lib.hid HA
  replace HP := Lib.hid HP
  have hB0 : Below w.heap.size w (w.alloc (Obj.cells #[.string t, .int .u8 mode, .int .u8 kind, .int .u8 rs, .int .u16 check, .int .u16 sum, .int .u16 reset] 39)) := (Below.refl _ w).alloc (Nat.le_refl _) _
  have hX := Whole.fresh w 39 #[.string t, .int .u8 mode, .int .u8 kind, .int .u8 rs, .int .u16 check, .int .u16 sum, .int .u16 reset]
  have key : ∀ (mf : Nat) (bit : Bool), modeF mode = mf → ((mode : Int) / 16 % 2 == 1) = bit → (bit = true → (mode : Int) - 16 = (mf : Nat)) → (bit = false → mode = mf) →
      Calls Tryd.prog 17 #[cardA t mode kind rs check sum reset, .int .u8 3] w fun e w' => e = .returned (.int .i64 (scoreB cs ((modesL 3).any fun y => ((modeF mode : Nat) : Int) == y) cp cr)) ∧ Below w.heap.size w w' := by
    intro mf bit hmf hbit h1 h0
    rw [hmf]
    unfold modesL cardA
    obtain ⟨q1, hq1⟩ : ∃ b, ((mf : Int) == 37) = b := ⟨_, rfl⟩
    have hany : ((if 3 = 1 then [32, 35] else if 3 = 2 then [33] else [37]).any fun y => ((mf : Nat) : Int) == y) = (q1) := by
      simp [hq1]
    rw [hany]
    clear hany hmf
    go_enter Tryd.func17, Tryd.ntmps17
    go_wp2_with fail
    generalize (w.alloc (Obj.cells #[.string t, .int .u8 mode, .int .u8 kind, .int .u8 rs, .int .u16 check, .int .u16 sum, .int .u16 reset] 39)) = W0 at hB0 hX ⊢
    refine (HA.out W0).mono ?_
    rintro e w1 ⟨rfl, rfl⟩
    have y0 := hX.cell 0
    have y1 := hX.cell 1
    have y2 := hX.cell 2
    have y3 := hX.cell 3
    have y4 := hX.cell 4
    have y5 := hX.cell 5
    have y6 := hX.cell 6
    clear HA
    cases bit with
    | true =>
      have h1 := h1 rfl
      clear h0
      cases cs <;> cases q1 <;>
      · go_wp2_with fail
        refine (HP.out _).mono ?_
        rintro e w' ⟨rfl, rfl⟩
        cases cp <;> cases cr <;>
        · go_wp2_with fail
          go_ret
          exact ⟨rfl, hB0⟩
    | false =>
      obtain rfl := h0 rfl
      clear h0 h1
      cases cs <;> cases q1 <;>
      · go_wp2_with fail
        refine (HP.out _).mono ?_
        rintro e w' ⟨rfl, rfl⟩
        cases cp <;> cases cr <;>
        · go_wp2_with fail
          go_ret
          exact ⟨rfl, hB0⟩
  by_cases hb : mode / 16 % 2 = 1
  · exact key (mode - 16) true (by unfold modeF; rw [if_pos hb]) (by rw [beq_iff_eq]; omega) (fun _ => by omega) (fun h => by cases h)
  · exact key mode false (by unfold modeF; rw [if_neg hb]) (by rw [beq_eq_false_iff_ne]; omega) (fun h => by cases h) (fun _ => rfl)

theorem rscore_any (t : ByteArray) (mode kind rs check sum reset l : Nat) (w : World) (hl : l < 256) (ht : t.size ≤ 9223372036854775807) (hm : mode < 256) (hck : check < 65536) (hsm : sum < 65536) :
    Calls Tryd.prog 17 #[cardA t mode kind rs check sum reset, .int .u8 l] w fun e w' => e = .returned (.int .i64 (scoreV t mode check sum reset l)) ∧ Below w.heap.size w w' := by
  by_cases h1 : l = 1
  · subst h1; exact rscore1_any t mode kind rs check sum reset w ht hm hck hsm
  by_cases h2 : l = 2
  · subst h2; exact rscore2_any t mode kind rs check sum reset w ht hm hck hsm
  by_cases h3 : l = 3
  · subst h3; exact rscore3_any t mode kind rs check sum reset w ht hm hck hsm
  have hno : ¬ (1 ≤ l ∧ l ≤ 3) := by omega
  have hv : scoreV t mode check sum reset l = 0 := by unfold scoreV; rw [if_pos hno]
  have HA := fun W => at_any l W hl
  simp only [if_neg hno] at HA
  replace HA := Lib.hid HA
  replace hv := Lib.hid hv
  unfold cardA
  go_enter Tryd.func17, Tryd.ntmps17
  go_wp2_with fail
  refine (HA.out _).mono ?_
  rintro e w1 ⟨rfl, rfl⟩
  go_wp2_with fail
  go_ret
  exact ⟨by rw [hv.out]; rfl, (Below.refl _ w).alloc (Nat.le_refl _) _⟩
end Go.Proofs.YtggjaoihfhianaaDoor
