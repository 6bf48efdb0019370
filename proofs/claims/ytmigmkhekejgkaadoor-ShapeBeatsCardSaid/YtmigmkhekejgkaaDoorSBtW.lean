/-
  The walk of ShapeBeats.
-/
import Derived.Test.YtmigmkhekejgkaaDoorSPer
namespace Go.Proofs.YtmigmkhekejgkaaDoor.shapeBeats
open Go.RowKit Go.Shelf
set_option maxRecDepth 100000
set_option maxHeartbeats 1000000
set_option linter.unusedVariables false
set_option linter.unusedSimpArgs false

/-- How often it beats in the first k samples from N on. -/
def cntF (N p : Nat) : Nat → Nat
  | 0 => 0
  | k + 1 => cntF N p k + if (N + k) % p = 0 then 1 else 0
theorem beat_at (N p k : Nat) (hk : k < p) : (N + k) % p = 0 ↔ (N % p + k = 0 ∨ N % p + k = p) := by
  have hm : N % p < p := Nat.mod_lt _ (by omega)
  have e : (N + k) % p = (N % p + k) % p := by rw [Nat.add_mod, Nat.mod_eq_of_lt hk]
  rw [e]
  generalize N % p = m at *
  by_cases h : m + k < p
  · rw [Nat.mod_eq_of_lt h]; omega
  · rw [Nat.mod_eq_sub_mod (by omega), Nat.mod_eq_of_lt (by omega)]; omega
theorem cntF_le (N p k : Nat) (hk : k ≤ p) (hp : 0 < p) : cntF N p k = if (if N % p = 0 then 0 else p - N % p) < k then 1 else 0 := by
  have hm : N % p < p := Nat.mod_lt _ hp
  have hj : (N % p = 0 ∧ (if N % p = 0 then 0 else p - N % p) = 0) ∨ (N % p ≠ 0 ∧ (if N % p = 0 then 0 else p - N % p) = p - N % p) := by
    by_cases h : N % p = 0
    · exact .inl ⟨h, if_pos h⟩
    · exact .inr ⟨h, if_neg h⟩
  generalize (if N % p = 0 then 0 else p - N % p) = j at *
  induction k with
  | zero => rfl
  | succ k ih =>
    have h := beat_at N p k (by omega)
    rw [cntF, ih (by omega)]
    generalize N % p = m at *
    by_cases hb : (N + k) % p = 0
    · rw [if_pos hb]
      have := h.1 hb
      clear h hb ih
      rw [if_neg (by omega), if_pos (by omega)]
    · rw [if_neg hb]
      have : ¬ (m + k = 0 ∨ m + k = p) := fun e => hb (h.2 e)
      clear h hb ih
      split
      · rw [if_pos (by omega)]
      · rw [if_neg (by omega)]
theorem cntF_one (N p : Nat) (hp : 0 < p) : cntF N p p = 1 := by
  have hm : N % p < p := Nat.mod_lt _ hp
  rw [cntF_le N p p (Nat.le_refl _) hp, if_pos]
  split <;> omega
theorem cntF_bnd (N p k : Nat) (hk : k ≤ p) (hp : 0 < p) : cntF N p k ≤ 1 := by
  rw [cntF_le N p k hk hp]
  generalize (if N % p = 0 then 0 else p - N % p) = j
  split <;> omega
theorem cntF_step (N p k : Nat) : cntF N p (k + 1) = cntF N p k + if (N + k) % p = 0 then 1 else 0 := rfl
theorem walk (x0 : Nat) (n : Int) (w : World) (hP : Pd w) (hx0 : x0 < 256) (hn : -9223372036854775808 ≤ n ∧ n ≤ 9223372036854775807) : Calls Tryd.prog 3 #[.int .u8 (x0 : Nat), .int .i64 n] w fun e w' => e = .returned (.bool true) ∧ Below w.heap.size w w' := by
  have e0 : (x0 : Int) % 32 = ((x0 % 32 : Nat) : Int) := by omega
  have hr : x0 % 32 < 32 := by omega
  have HP := Lib.hid (period_any w (x0 % 32) hP (by omega))
  have HP2 := Lib.hid (fun (h : x0 % 32 + 1 < 256) => period_any w (x0 % 32 + 1) hP h)
  have HB := Lib.hid (fun m h1 h2 => beats_any w (x0 % 32) m hP (by omega) h1 h2)
  generalize x0 % 32 = r at *
  clear hP hx0
  by_cases h0 : r = 0
  · subst h0
    have HB0 := Lib.hid (HB.out n hn.1 hn.2)
    clear HB HP2
    go_enter Tryd.func3, Tryd.ntmps3
    go_wp2_with fail
    refine HP.out.mono ?_
    rintro e w' ⟨rfl, rfl⟩
    have hp0 : ((perF 0 : Nat) : Int) = 0 := rfl
    rw [hp0]
    go_wp2_with fail
    refine HB0.out.mono ?_
    rintro e w' ⟨rfl, rfl⟩
    go_wp2_with fail
    go_ret
    exact ⟨rfl, Below.refl _ _⟩
  obtain ⟨hp1, hp2⟩ := perF_pos ⟨r, hr⟩ (by show 1 ≤ r; omega)
  simp only at hp1 hp2
  have hfall : r < 31 → perF (r + 1) ≤ perF r := fun h => perF_falls ⟨r, h⟩ (by show 1 ≤ r; omega)
  have hpos : decide (0 < perF r) = true := decide_eq_true (by omega)
  rw [hpos] at HB
  have hone := Lib.hid (fun N => cntF_one N (perF r) (by omega))
  have hcb := Lib.hid (fun N k (h : k ≤ perF r) => cntF_bnd N (perF r) k h (by omega))
  generalize hpe : perF r = p at *
  have d1 : decide ((p : Int) < 1) = false := decide_eq_false (by omega)
  have d2 : decide ((2048 : Int) < (p : Int)) = false := decide_eq_false (by omega)
  have d1' : decide (p < 1) = false := decide_eq_false (by omega)
  have d2' : decide (2048 < p) = false := decide_eq_false (by omega)
  have hr0 : ¬ ((r : Int) = 0) := by omega
  have hr0b : ((r : Int) == 0) = false := beq_eq_false_iff_ne.2 hr0
  replace hpe := Lib.hid hpe
  obtain ⟨N, hN, hNn⟩ : ∃ N : Nat, N ≤ 1152921504606846976 ∧ ((decide (n < 0) = true ∧ N = 0) ∨ (decide (n < 0) = false ∧ decide (1152921504606846976 < n) = true ∧ N = 0) ∨ (decide (n < 0) = false ∧ decide (1152921504606846976 < n) = false ∧ n = (N : Int))) := by
    by_cases a : n < 0
    · exact ⟨0, by omega, .inl ⟨decide_eq_true a, rfl⟩⟩
    · by_cases b : 1152921504606846976 < n
      · exact ⟨0, by omega, .inr (.inl ⟨decide_eq_false a, decide_eq_true b, rfl⟩)⟩
      · exact ⟨n.toNat, by omega, .inr (.inr ⟨decide_eq_false a, decide_eq_false b, by omega⟩)⟩
  replace hn := Lib.hid hn
  replace hN := Lib.hid hN
  by_cases h31 : r < 31
  · have HPn := Lib.hid (HP2.out (by omega))
    have hf := hfall h31
    have d3 : decide ((r : Int) < 31) = true := decide_eq_true (by omega)
    have d3' : decide (r < 31) = true := decide_eq_true (by omega)
    have d4 : decide ((p : Int) < (perF (r + 1) : Int)) = false := decide_eq_false (by omega)
    have d4' : decide (p < perF (r + 1)) = false := decide_eq_false (by omega)
    have e4 : (r : Int) + 1 = ((r + 1 : Nat) : Int) := by omega
    have hw8 : IntKind.u8.wrap ((r + 1 : Nat) : Int) = ((r + 1 : Nat) : Int) := by rw [IntKind.wrap_u8]; omega
    generalize perF (r + 1) = p2 at *
    generalize r + 1 = r1 at *
    clear hfall hf HP2
    rcases hNn with ⟨a, h⟩ | ⟨a, b, h⟩ | ⟨a, b, h⟩
    · subst h
      go_enter Tryd.func3, Tryd.ntmps3
      go_wp2_with fail
      refine HP.out.mono ?_
      rintro e w' ⟨rfl, rfl⟩
      go_wp2_with fail
      refine HPn.out.mono ?_
      rintro e w' ⟨rfl, rfl⟩
      go_wp2_with fail
      obtain ⟨N, hN0⟩ : ∃ N : Nat, N = 0 := ⟨0, rfl⟩
      have hNl : N ≤ 1152921504606846976 := by omega
      replace hNl := Lib.hid hNl
      skip
      go_loopw [6, 7] (fun s6 s7 wr => ∃ k : Nat, k ≤ p ∧ s7 = .int .i64 (k : Nat) ∧ s6 = .int .i64 (cntF N p k : Nat) ∧ wr = w') (fun _ s7 _ => p - (intOf s7).toNat)
      case atStart => exact ⟨0, Nat.zero_le _, rfl, rfl, rfl⟩
      case round =>
        obtain ⟨k, hk, rfl, rfl, rfl⟩ := hrel
        by_cases hlt : k < p
        · have hs := cntF_step N p k
          have hb := hcb.out N (k + 1) hlt
          have hbk := hcb.out N k hk
          have HBk := Lib.hid (HB.out ((N + k : Nat) : Int) (by omega) (by have := hNl.out; omega))
          have hmod : ((N + k : Nat) : Int) % (p : Int) = (((N + k) % p : Nat) : Int) := rfl
          have hdk : decide (((N + k : Nat) : Int) % (p : Int) = 0) = decide ((N + k) % p = 0) := by rw [hmod]; apply decide_eq_decide.2; omega
          rw [hdk] at HBk
          have ek : (0 : Int) + (k : Int) = ((N + k : Nat) : Int) := by omega
          have hw : wrap64 ((N + k : Nat) : Int) = ((N + k : Nat) : Int) := by have := hNl.out; simp only [wrap64]; omega
          generalize cntF N p k = C at *
          generalize hC' : cntF N p (k + 1) = C' at *
          replace hC' := Lib.hid hC'
          clear hdk hmod
          by_cases hbt : (N + k) % p = 0
          · rw [if_pos hbt] at hs
            rw [decide_eq_true hbt] at HBk
            have hC := Lib.hid (show (C : Int) + 1 = (C' : Int) by omega)
            replace hs := Lib.hid hs
            replace hbt := Lib.hid hbt
            replace ek := Lib.hid ek
            replace hw := Lib.hid hw
            clear hb
            go_wp2_with fail
            first | rw [ek.out, hw.out] | rw [ek.out] | (rw [show (k : Int) = ((N + k : Nat) : Int) by rw [← ek.out, Int.zero_add]])
            refine HBk.out.mono ?_
            rintro e w' ⟨rfl, rfl⟩
            clear HBk
            go_wp2_with fail
            go_roundw
            case rel => exact ⟨k + 1, hlt, by go_num, by rw [hC'.out]; first | rfl | (rw [← hC.out]; done) | rw [hC.out], by first | rfl | trivial⟩
            case measure => simp [intOf]; omega
          · rw [if_neg hbt] at hs
            rw [decide_eq_false hbt] at HBk
            have hC := Lib.hid (show (C : Int) = (C' : Int) by omega)
            replace hs := Lib.hid hs
            replace hbt := Lib.hid hbt
            replace ek := Lib.hid ek
            replace hw := Lib.hid hw
            clear hb
            go_wp2_with fail
            first | rw [ek.out, hw.out] | rw [ek.out] | (rw [show (k : Int) = ((N + k : Nat) : Int) by rw [← ek.out, Int.zero_add]])
            refine HBk.out.mono ?_
            rintro e w' ⟨rfl, rfl⟩
            clear HBk
            go_wp2_with fail
            go_roundw
            case rel => exact ⟨k + 1, hlt, by go_num, by rw [hC'.out]; first | rfl | (rw [← hC.out]; done) | rw [hC.out], by first | rfl | trivial⟩
            case measure => simp [intOf]; omega
        · obtain rfl : k = p := by omega
          have hc1 : ((cntF N k k : Nat) : Int) = 1 := by rw [hone.out N]; rfl
          rw [hc1]
          go_wp2_with fail
          go_ret
          exact ⟨rfl, Below.refl _ _⟩
    · subst h
      go_enter Tryd.func3, Tryd.ntmps3
      go_wp2_with fail
      refine HP.out.mono ?_
      rintro e w' ⟨rfl, rfl⟩
      go_wp2_with fail
      refine HPn.out.mono ?_
      rintro e w' ⟨rfl, rfl⟩
      go_wp2_with fail
      obtain ⟨N, hN0⟩ : ∃ N : Nat, N = 0 := ⟨0, rfl⟩
      have hNl : N ≤ 1152921504606846976 := by omega
      replace hNl := Lib.hid hNl
      skip
      go_loopw [6, 7] (fun s6 s7 wr => ∃ k : Nat, k ≤ p ∧ s7 = .int .i64 (k : Nat) ∧ s6 = .int .i64 (cntF N p k : Nat) ∧ wr = w') (fun _ s7 _ => p - (intOf s7).toNat)
      case atStart => exact ⟨0, Nat.zero_le _, rfl, rfl, rfl⟩
      case round =>
        obtain ⟨k, hk, rfl, rfl, rfl⟩ := hrel
        by_cases hlt : k < p
        · have hs := cntF_step N p k
          have hb := hcb.out N (k + 1) hlt
          have hbk := hcb.out N k hk
          have HBk := Lib.hid (HB.out ((N + k : Nat) : Int) (by omega) (by have := hNl.out; omega))
          have hmod : ((N + k : Nat) : Int) % (p : Int) = (((N + k) % p : Nat) : Int) := rfl
          have hdk : decide (((N + k : Nat) : Int) % (p : Int) = 0) = decide ((N + k) % p = 0) := by rw [hmod]; apply decide_eq_decide.2; omega
          rw [hdk] at HBk
          have ek : (0 : Int) + (k : Int) = ((N + k : Nat) : Int) := by omega
          have hw : wrap64 ((N + k : Nat) : Int) = ((N + k : Nat) : Int) := by have := hNl.out; simp only [wrap64]; omega
          generalize cntF N p k = C at *
          generalize hC' : cntF N p (k + 1) = C' at *
          replace hC' := Lib.hid hC'
          clear hdk hmod
          by_cases hbt : (N + k) % p = 0
          · rw [if_pos hbt] at hs
            rw [decide_eq_true hbt] at HBk
            have hC := Lib.hid (show (C : Int) + 1 = (C' : Int) by omega)
            replace hs := Lib.hid hs
            replace hbt := Lib.hid hbt
            replace ek := Lib.hid ek
            replace hw := Lib.hid hw
            clear hb
            go_wp2_with fail
            first | rw [ek.out, hw.out] | rw [ek.out] | (rw [show (k : Int) = ((N + k : Nat) : Int) by rw [← ek.out, Int.zero_add]])
            refine HBk.out.mono ?_
            rintro e w' ⟨rfl, rfl⟩
            clear HBk
            go_wp2_with fail
            go_roundw
            case rel => exact ⟨k + 1, hlt, by go_num, by rw [hC'.out]; first | rfl | (rw [← hC.out]; done) | rw [hC.out], by first | rfl | trivial⟩
            case measure => simp [intOf]; omega
          · rw [if_neg hbt] at hs
            rw [decide_eq_false hbt] at HBk
            have hC := Lib.hid (show (C : Int) = (C' : Int) by omega)
            replace hs := Lib.hid hs
            replace hbt := Lib.hid hbt
            replace ek := Lib.hid ek
            replace hw := Lib.hid hw
            clear hb
            go_wp2_with fail
            first | rw [ek.out, hw.out] | rw [ek.out] | (rw [show (k : Int) = ((N + k : Nat) : Int) by rw [← ek.out, Int.zero_add]])
            refine HBk.out.mono ?_
            rintro e w' ⟨rfl, rfl⟩
            clear HBk
            go_wp2_with fail
            go_roundw
            case rel => exact ⟨k + 1, hlt, by go_num, by rw [hC'.out]; first | rfl | (rw [← hC.out]; done) | rw [hC.out], by first | rfl | trivial⟩
            case measure => simp [intOf]; omega
        · obtain rfl : k = p := by omega
          have hc1 : ((cntF N k k : Nat) : Int) = 1 := by rw [hone.out N]; rfl
          rw [hc1]
          go_wp2_with fail
          go_ret
          exact ⟨rfl, Below.refl _ _⟩
    · subst h
      go_enter Tryd.func3, Tryd.ntmps3
      go_wp2_with fail
      refine HP.out.mono ?_
      rintro e w' ⟨rfl, rfl⟩
      go_wp2_with fail
      refine HPn.out.mono ?_
      rintro e w' ⟨rfl, rfl⟩
      go_wp2_with fail
      have hNl := hN.out
      replace hNl := Lib.hid hNl
      skip
      go_loopw [6, 7] (fun s6 s7 wr => ∃ k : Nat, k ≤ p ∧ s7 = .int .i64 (k : Nat) ∧ s6 = .int .i64 (cntF N p k : Nat) ∧ wr = w') (fun _ s7 _ => p - (intOf s7).toNat)
      case atStart => exact ⟨0, Nat.zero_le _, rfl, rfl, rfl⟩
      case round =>
        obtain ⟨k, hk, rfl, rfl, rfl⟩ := hrel
        by_cases hlt : k < p
        · have hs := cntF_step N p k
          have hb := hcb.out N (k + 1) hlt
          have hbk := hcb.out N k hk
          have HBk := Lib.hid (HB.out ((N + k : Nat) : Int) (by omega) (by have := hNl.out; omega))
          have hmod : ((N + k : Nat) : Int) % (p : Int) = (((N + k) % p : Nat) : Int) := rfl
          have hdk : decide (((N + k : Nat) : Int) % (p : Int) = 0) = decide ((N + k) % p = 0) := by rw [hmod]; apply decide_eq_decide.2; omega
          rw [hdk] at HBk
          have ek : (N : Int) + (k : Int) = ((N + k : Nat) : Int) := by omega
          have hw : wrap64 ((N + k : Nat) : Int) = ((N + k : Nat) : Int) := by have := hNl.out; simp only [wrap64]; omega
          generalize cntF N p k = C at *
          generalize hC' : cntF N p (k + 1) = C' at *
          replace hC' := Lib.hid hC'
          clear hdk hmod
          by_cases hbt : (N + k) % p = 0
          · rw [if_pos hbt] at hs
            rw [decide_eq_true hbt] at HBk
            have hC := Lib.hid (show (C : Int) + 1 = (C' : Int) by omega)
            replace hs := Lib.hid hs
            replace hbt := Lib.hid hbt
            replace ek := Lib.hid ek
            replace hw := Lib.hid hw
            clear hb
            go_wp2_with fail
            first | rw [ek.out, hw.out] | rw [ek.out]
            refine HBk.out.mono ?_
            rintro e w' ⟨rfl, rfl⟩
            clear HBk
            go_wp2_with fail
            go_roundw
            case rel => exact ⟨k + 1, hlt, by go_num, by rw [hC'.out]; first | rfl | (rw [← hC.out]; done) | rw [hC.out], by first | rfl | trivial⟩
            case measure => simp [intOf]; omega
          · rw [if_neg hbt] at hs
            rw [decide_eq_false hbt] at HBk
            have hC := Lib.hid (show (C : Int) = (C' : Int) by omega)
            replace hs := Lib.hid hs
            replace hbt := Lib.hid hbt
            replace ek := Lib.hid ek
            replace hw := Lib.hid hw
            clear hb
            go_wp2_with fail
            first | rw [ek.out, hw.out] | rw [ek.out]
            refine HBk.out.mono ?_
            rintro e w' ⟨rfl, rfl⟩
            clear HBk
            go_wp2_with fail
            go_roundw
            case rel => exact ⟨k + 1, hlt, by go_num, by rw [hC'.out]; first | rfl | (rw [← hC.out]; done) | rw [hC.out], by first | rfl | trivial⟩
            case measure => simp [intOf]; omega
        · obtain rfl : k = p := by omega
          have hc1 : ((cntF N k k : Nat) : Int) = 1 := by rw [hone.out N]; rfl
          rw [hc1]
          go_wp2_with fail
          go_ret
          exact ⟨rfl, Below.refl _ _⟩
  · have d3 : decide ((r : Int) < 31) = false := decide_eq_false (by omega)
    have d3' : decide (r < 31) = false := decide_eq_false (by omega)
    clear hfall HP2
    rcases hNn with ⟨a, h⟩ | ⟨a, b, h⟩ | ⟨a, b, h⟩
    · subst h
      go_enter Tryd.func3, Tryd.ntmps3
      go_wp2_with fail
      refine HP.out.mono ?_
      rintro e w' ⟨rfl, rfl⟩
      go_wp2_with fail
      obtain ⟨N, hN0⟩ : ∃ N : Nat, N = 0 := ⟨0, rfl⟩
      have hNl : N ≤ 1152921504606846976 := by omega
      replace hNl := Lib.hid hNl
      skip
      go_loopw [6, 7] (fun s6 s7 wr => ∃ k : Nat, k ≤ p ∧ s7 = .int .i64 (k : Nat) ∧ s6 = .int .i64 (cntF N p k : Nat) ∧ wr = w') (fun _ s7 _ => p - (intOf s7).toNat)
      case atStart => exact ⟨0, Nat.zero_le _, rfl, rfl, rfl⟩
      case round =>
        obtain ⟨k, hk, rfl, rfl, rfl⟩ := hrel
        by_cases hlt : k < p
        · have hs := cntF_step N p k
          have hb := hcb.out N (k + 1) hlt
          have hbk := hcb.out N k hk
          have HBk := Lib.hid (HB.out ((N + k : Nat) : Int) (by omega) (by have := hNl.out; omega))
          have hmod : ((N + k : Nat) : Int) % (p : Int) = (((N + k) % p : Nat) : Int) := rfl
          have hdk : decide (((N + k : Nat) : Int) % (p : Int) = 0) = decide ((N + k) % p = 0) := by rw [hmod]; apply decide_eq_decide.2; omega
          rw [hdk] at HBk
          have ek : (0 : Int) + (k : Int) = ((N + k : Nat) : Int) := by omega
          have hw : wrap64 ((N + k : Nat) : Int) = ((N + k : Nat) : Int) := by have := hNl.out; simp only [wrap64]; omega
          generalize cntF N p k = C at *
          generalize hC' : cntF N p (k + 1) = C' at *
          replace hC' := Lib.hid hC'
          clear hdk hmod
          by_cases hbt : (N + k) % p = 0
          · rw [if_pos hbt] at hs
            rw [decide_eq_true hbt] at HBk
            have hC := Lib.hid (show (C : Int) + 1 = (C' : Int) by omega)
            replace hs := Lib.hid hs
            replace hbt := Lib.hid hbt
            replace ek := Lib.hid ek
            replace hw := Lib.hid hw
            clear hb
            go_wp2_with fail
            first | rw [ek.out, hw.out] | rw [ek.out] | (rw [show (k : Int) = ((N + k : Nat) : Int) by rw [← ek.out, Int.zero_add]])
            refine HBk.out.mono ?_
            rintro e w' ⟨rfl, rfl⟩
            clear HBk
            go_wp2_with fail
            go_roundw
            case rel => exact ⟨k + 1, hlt, by go_num, by rw [hC'.out]; first | rfl | (rw [← hC.out]; done) | rw [hC.out], by first | rfl | trivial⟩
            case measure => simp [intOf]; omega
          · rw [if_neg hbt] at hs
            rw [decide_eq_false hbt] at HBk
            have hC := Lib.hid (show (C : Int) = (C' : Int) by omega)
            replace hs := Lib.hid hs
            replace hbt := Lib.hid hbt
            replace ek := Lib.hid ek
            replace hw := Lib.hid hw
            clear hb
            go_wp2_with fail
            first | rw [ek.out, hw.out] | rw [ek.out] | (rw [show (k : Int) = ((N + k : Nat) : Int) by rw [← ek.out, Int.zero_add]])
            refine HBk.out.mono ?_
            rintro e w' ⟨rfl, rfl⟩
            clear HBk
            go_wp2_with fail
            go_roundw
            case rel => exact ⟨k + 1, hlt, by go_num, by rw [hC'.out]; first | rfl | (rw [← hC.out]; done) | rw [hC.out], by first | rfl | trivial⟩
            case measure => simp [intOf]; omega
        · obtain rfl : k = p := by omega
          have hc1 : ((cntF N k k : Nat) : Int) = 1 := by rw [hone.out N]; rfl
          rw [hc1]
          go_wp2_with fail
          go_ret
          exact ⟨rfl, Below.refl _ _⟩
    · subst h
      go_enter Tryd.func3, Tryd.ntmps3
      go_wp2_with fail
      refine HP.out.mono ?_
      rintro e w' ⟨rfl, rfl⟩
      go_wp2_with fail
      obtain ⟨N, hN0⟩ : ∃ N : Nat, N = 0 := ⟨0, rfl⟩
      have hNl : N ≤ 1152921504606846976 := by omega
      replace hNl := Lib.hid hNl
      skip
      go_loopw [6, 7] (fun s6 s7 wr => ∃ k : Nat, k ≤ p ∧ s7 = .int .i64 (k : Nat) ∧ s6 = .int .i64 (cntF N p k : Nat) ∧ wr = w') (fun _ s7 _ => p - (intOf s7).toNat)
      case atStart => exact ⟨0, Nat.zero_le _, rfl, rfl, rfl⟩
      case round =>
        obtain ⟨k, hk, rfl, rfl, rfl⟩ := hrel
        by_cases hlt : k < p
        · have hs := cntF_step N p k
          have hb := hcb.out N (k + 1) hlt
          have hbk := hcb.out N k hk
          have HBk := Lib.hid (HB.out ((N + k : Nat) : Int) (by omega) (by have := hNl.out; omega))
          have hmod : ((N + k : Nat) : Int) % (p : Int) = (((N + k) % p : Nat) : Int) := rfl
          have hdk : decide (((N + k : Nat) : Int) % (p : Int) = 0) = decide ((N + k) % p = 0) := by rw [hmod]; apply decide_eq_decide.2; omega
          rw [hdk] at HBk
          have ek : (0 : Int) + (k : Int) = ((N + k : Nat) : Int) := by omega
          have hw : wrap64 ((N + k : Nat) : Int) = ((N + k : Nat) : Int) := by have := hNl.out; simp only [wrap64]; omega
          generalize cntF N p k = C at *
          generalize hC' : cntF N p (k + 1) = C' at *
          replace hC' := Lib.hid hC'
          clear hdk hmod
          by_cases hbt : (N + k) % p = 0
          · rw [if_pos hbt] at hs
            rw [decide_eq_true hbt] at HBk
            have hC := Lib.hid (show (C : Int) + 1 = (C' : Int) by omega)
            replace hs := Lib.hid hs
            replace hbt := Lib.hid hbt
            replace ek := Lib.hid ek
            replace hw := Lib.hid hw
            clear hb
            go_wp2_with fail
            first | rw [ek.out, hw.out] | rw [ek.out] | (rw [show (k : Int) = ((N + k : Nat) : Int) by rw [← ek.out, Int.zero_add]])
            refine HBk.out.mono ?_
            rintro e w' ⟨rfl, rfl⟩
            clear HBk
            go_wp2_with fail
            go_roundw
            case rel => exact ⟨k + 1, hlt, by go_num, by rw [hC'.out]; first | rfl | (rw [← hC.out]; done) | rw [hC.out], by first | rfl | trivial⟩
            case measure => simp [intOf]; omega
          · rw [if_neg hbt] at hs
            rw [decide_eq_false hbt] at HBk
            have hC := Lib.hid (show (C : Int) = (C' : Int) by omega)
            replace hs := Lib.hid hs
            replace hbt := Lib.hid hbt
            replace ek := Lib.hid ek
            replace hw := Lib.hid hw
            clear hb
            go_wp2_with fail
            first | rw [ek.out, hw.out] | rw [ek.out] | (rw [show (k : Int) = ((N + k : Nat) : Int) by rw [← ek.out, Int.zero_add]])
            refine HBk.out.mono ?_
            rintro e w' ⟨rfl, rfl⟩
            clear HBk
            go_wp2_with fail
            go_roundw
            case rel => exact ⟨k + 1, hlt, by go_num, by rw [hC'.out]; first | rfl | (rw [← hC.out]; done) | rw [hC.out], by first | rfl | trivial⟩
            case measure => simp [intOf]; omega
        · obtain rfl : k = p := by omega
          have hc1 : ((cntF N k k : Nat) : Int) = 1 := by rw [hone.out N]; rfl
          rw [hc1]
          go_wp2_with fail
          go_ret
          exact ⟨rfl, Below.refl _ _⟩
    · subst h
      go_enter Tryd.func3, Tryd.ntmps3
      go_wp2_with fail
      refine HP.out.mono ?_
      rintro e w' ⟨rfl, rfl⟩
      go_wp2_with fail
      have hNl := hN.out
      replace hNl := Lib.hid hNl
      skip
      go_loopw [6, 7] (fun s6 s7 wr => ∃ k : Nat, k ≤ p ∧ s7 = .int .i64 (k : Nat) ∧ s6 = .int .i64 (cntF N p k : Nat) ∧ wr = w') (fun _ s7 _ => p - (intOf s7).toNat)
      case atStart => exact ⟨0, Nat.zero_le _, rfl, rfl, rfl⟩
      case round =>
        obtain ⟨k, hk, rfl, rfl, rfl⟩ := hrel
        by_cases hlt : k < p
        · have hs := cntF_step N p k
          have hb := hcb.out N (k + 1) hlt
          have hbk := hcb.out N k hk
          have HBk := Lib.hid (HB.out ((N + k : Nat) : Int) (by omega) (by have := hNl.out; omega))
          have hmod : ((N + k : Nat) : Int) % (p : Int) = (((N + k) % p : Nat) : Int) := rfl
          have hdk : decide (((N + k : Nat) : Int) % (p : Int) = 0) = decide ((N + k) % p = 0) := by rw [hmod]; apply decide_eq_decide.2; omega
          rw [hdk] at HBk
          have ek : (N : Int) + (k : Int) = ((N + k : Nat) : Int) := by omega
          have hw : wrap64 ((N + k : Nat) : Int) = ((N + k : Nat) : Int) := by have := hNl.out; simp only [wrap64]; omega
          generalize cntF N p k = C at *
          generalize hC' : cntF N p (k + 1) = C' at *
          replace hC' := Lib.hid hC'
          clear hdk hmod
          by_cases hbt : (N + k) % p = 0
          · rw [if_pos hbt] at hs
            rw [decide_eq_true hbt] at HBk
            have hC := Lib.hid (show (C : Int) + 1 = (C' : Int) by omega)
            replace hs := Lib.hid hs
            replace hbt := Lib.hid hbt
            replace ek := Lib.hid ek
            replace hw := Lib.hid hw
            clear hb
            go_wp2_with fail
            first | rw [ek.out, hw.out] | rw [ek.out]
            refine HBk.out.mono ?_
            rintro e w' ⟨rfl, rfl⟩
            clear HBk
            go_wp2_with fail
            go_roundw
            case rel => exact ⟨k + 1, hlt, by go_num, by rw [hC'.out]; first | rfl | (rw [← hC.out]; done) | rw [hC.out], by first | rfl | trivial⟩
            case measure => simp [intOf]; omega
          · rw [if_neg hbt] at hs
            rw [decide_eq_false hbt] at HBk
            have hC := Lib.hid (show (C : Int) = (C' : Int) by omega)
            replace hs := Lib.hid hs
            replace hbt := Lib.hid hbt
            replace ek := Lib.hid ek
            replace hw := Lib.hid hw
            clear hb
            go_wp2_with fail
            first | rw [ek.out, hw.out] | rw [ek.out]
            refine HBk.out.mono ?_
            rintro e w' ⟨rfl, rfl⟩
            clear HBk
            go_wp2_with fail
            go_roundw
            case rel => exact ⟨k + 1, hlt, by go_num, by rw [hC'.out]; first | rfl | (rw [← hC.out]; done) | rw [hC.out], by first | rfl | trivial⟩
            case measure => simp [intOf]; omega
        · obtain rfl : k = p := by omega
          have hc1 : ((cntF N k k : Nat) : Int) = 1 := by rw [hone.out N]; rfl
          rw [hc1]
          go_wp2_with fail
          go_ret
          exact ⟨rfl, Below.refl _ _⟩
end Go.Proofs.YtmigmkhekejgkaaDoor.shapeBeats
