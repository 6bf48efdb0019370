/-
  A byte with its sign; where a branch leads.
-/
import Derived.Test.YtmbpkpideepghaaDoorTextL
namespace Go.Proofs.YtmbpkpideepghaaDoor
open Go.RowKit
set_option maxRecDepth 100000
set_option maxHeartbeats 400000
set_option linter.unusedVariables false

theorem extend_any (x : Nat) (w : World) (hx : x < 256) : Calls Tryd.prog 64 #[.int .u8 x] w fun e w' => e = .returned (.int .u16 (extN x : Nat)) ∧ w = w' := by
  unfold extN
  by_cases h : x < 128
  · rw [if_pos h]
    go_enter Tryd.func64, Tryd.ntmps64
    go_wp2_with fail
    go_ret
    exact ⟨rfl, rfl⟩
  · rw [if_neg h]
    have hw8 : IntKind.i8.wrap (x : Int) = (x : Int) - 256 := (show ∀ x : Nat, x < 256 → ¬ x < 128 → IntKind.i8.wrap (x : Int) = (x : Int) - 256 by decide +kernel) x hx h
    have hw16 : IntKind.u16.wrap ((x : Int) - 256) = ((x + 65280 : Nat) : Int) := by simp only [IntKind.wrap_u16]; omega
    go_enter Tryd.func64, Tryd.ntmps64
    go_wp2_with fail
    go_ret
    exact ⟨rfl, rfl⟩
theorem target_any (b o k cap : Nat) (g : Nat → Nat) (pc : Nat) (w : World) (hR : Row w (some ⟨b, o, none⟩) (k + 1) g) (hk : k ≤ 3) (hk1 : 1 ≤ k) (hc : k + 1 ≤ cap) (hpc : pc < 65536) :
    Calls Tryd.prog 53 #[.slice (some ⟨b, o, none⟩) (k + 1) cap, .int .u16 pc] w fun e w' => e = .returned (.int .u16 (tgN (modeF (g 0)) k (fun i => g (i + 1)) pc : Nat)) ∧ w = w' := by
  obtain ⟨hb, h0 | ⟨b', o', hbo, hbl, hcl⟩⟩ := hR
  · omega
  injection hbo with hbo
  injection hbo with h1 h2
  subst h1 h2
  have hR2 : Row w (some ⟨b, o + 1, none⟩) k (fun i => g (i + 1)) := ⟨fun i hi => hb (i + 1) (by omega), .inr ⟨b, o + 1, rfl, hbl, fun i hi => by rw [Nat.add_assoc, Nat.add_comm 1 i]; exact hcl (i + 1) (by omega)⟩⟩
  have hn := numN_lt (f := fun i => g (i + 1)) (n := k) (fun i hi => hb (i + 1) (by omega))
  have hn4 : (2 : Nat) ^ (8 * k) ≤ 2 ^ (8 * 3) := Nat.pow_le_pow_right (by decide) (by omega)
  have hn5 : (2 : Nat) ^ (8 * 3) = 16777216 := by decide
  have HN := number_any (some ⟨b, o + 1, none⟩) k (cap - 1) (fun i => g (i + 1)) w hR2 hk
  have HM := modeOf_any (g 0) w (hb 0 (by omega))
  have HE := extend_any (g 1) w (hb 1 (by omega))
  have c0 := hcl 0 (by omega)
  have c1 := hcl 1 (by omega)
  rw [Nat.add_zero] at c0
  have g1 := hb 1 (by omega)
  unfold tgN
  show Calls _ _ _ _ (fun e w' => e = Ending.returned (.int .u16 (((pc + (k + 1) + (if modeF (g 0) = 3 then extN (g 1) else numN (fun i => g (i + 1)) k)) % 65536 : Nat) : Int)) ∧ w = w')
  have hm := modeF_lt (g 0) (hb 0 (by omega))
  have he : extN (g 1) < 65536 := by unfold extN; split <;> omega
  generalize extN (g 1) = E at *
  generalize g 1 = y at *
  generalize modeF (g 0) = m at *
  generalize g 0 = x at *
  have hn6 : numN (fun i => g (i + 1)) k < 16777216 := by omega
  clear hn hn4 hn5 hR2 hb hcl
  generalize numN (fun i => g (i + 1)) k = n at *
  replace HN := Lib.hid HN
  replace HM := Lib.hid HM
  replace HE := Lib.hid HE
  obtain ⟨c', rfl⟩ : ∃ c', cap = c' + 1 := ⟨cap - 1, by omega⟩
  rw [Nat.add_sub_cancel] at HN
  have i3 : ((m : Int) == 3) = decide (m = 3) := by
    by_cases h3 : m = 3
    · subst h3; rfl
    · rw [decide_eq_false h3, beq_eq_false_iff_ne]; omega
  have hb3 : (if m = 3 then E else n) = (if decide (m = 3) = true then E else n) := by
    by_cases h3 : m = 3
    · rw [if_pos h3, if_pos (decide_eq_true h3)]
    · rw [if_neg h3, if_neg (by simp [h3])]
  rw [hb3]
  clear hb3
  generalize decide (m = 3) = b3 at *
  cases b3
  all_goals
    go_enter Tryd.func53, Tryd.ntmps53
    go_wp2_with fail
    with_reducible refine HN.out.mono ?_
    rintro e w' ⟨rfl, rfl⟩
    go_wp2_with fail
    with_reducible refine HM.out.mono ?_
    rintro e w' ⟨rfl, rfl⟩
    go_wp2_with fail
    try with_reducible refine HE.out.mono ?_
    try rintro e w' ⟨rfl, rfl⟩
    try go_wp2_with fail
    go_ret
    refine ⟨?_, rfl⟩
    show Ending.returned (Value.int .u16 _) = Ending.returned (Value.int .u16 _)
    refine congrArg (fun z => Ending.returned (Value.int .u16 z)) ?_
    simp only [IntKind.wrap_u16]
    omega
end Go.Proofs.YtmbpkpideepghaaDoor
