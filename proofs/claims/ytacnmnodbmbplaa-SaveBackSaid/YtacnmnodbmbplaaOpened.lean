/-
  The body of saved bytes, or why there is none.
-/
import Derived.Test.YtacnmnodbmbplaaJoin
import Derived.Laws.IdiomStrings
namespace Go.Proofs.Ytacnmnodbmbplaa
open Go.RowKit Go.Shelf
set_option maxRecDepth 100000
set_option maxHeartbeats 1000000

def shiftF (k : Nat) (f : Nat → Nat) : Nat → Nat := fun i => f (k + i)
/-- Why bytes are refused; 0 if they aren't. -/
def openE (n : Nat) (f : Nat → Nat) : Nat :=
  if n < 13 then 51 else if ¬ (f 0 = 76 ∧ f 1 = 65 ∧ f 2 = 78 ∧ f 3 = 84) then 52 else if f 4 ≠ 1 then 53 else if numN (shiftF 5 f) 4 ≠ n - 13 then 54 else if 16777216 < n - 13 then 54 else
  if numN (shiftF 9 f) 4 ≠ sumN (shiftF 13 f) (n - 13) then 55 else 0
theorem Row.shift {w : World} {g o n : Nat} {f : Nat → Nat} (h : Row w (some ⟨g, o, none⟩) n f) (k m : Nat) (hk : k + m ≤ n) : Row w (some ⟨g, o + k, none⟩) m (shiftF k f) := by
  refine ⟨fun i hi => h.1 (k + i) (by omega), ?_⟩
  by_cases h0 : m = 0
  · exact .inl h0
  · rcases h.2 with h1 | ⟨x, p, e, hx, hc⟩
    · omega
    · injection e with e
      injection e with e1 e2
      subst e1 e2
      exact .inr ⟨_, _, rfl, hx, fun i hi => by rw [Nat.add_assoc]; exact hc (k + i) (by omega)⟩
def markS (f : Nat → Nat) : ByteArray := ⟨[UInt8.ofNat (f 0), UInt8.ofNat (f 1), UInt8.ofNat (f 2), UInt8.ofNat (f 3)].toArray⟩
theorem conv_mark (w : World) (g c n : Nat) (f : Nat → Nat) (h : Row w (some ⟨g, 0, none⟩) n f) (hn : 4 ≤ n) : (convert 25 9 (.slice (some ⟨g, 0, none⟩) 4 c)).run Try.prog w = .ok (.string (markS f)) w := by
  refine run_convert_bytes_back (P := Try.prog) w 25 9 5 ⟨g, 0, none⟩ c [UInt8.ofNat (f 0), UInt8.ofNat (f 1), UInt8.ofNat (f 2), UInt8.ofNat (f 3)] Try.underlying25 Try.underlying5 Try.underlying9 (fun j hj => ?_)
  rcases h.2 with h0 | ⟨x, p, e, hx, hc⟩
  · omega
  injection e with e
  injection e with e1 e2
  subst e1 e2
  have hj : j < 4 := hj
  have key : ∀ k, k < 4 → w.cell? ⟨g, 0 + k, none⟩ = some (.int .u8 ((UInt8.ofNat (f k)).toNat : Int)) := fun k hk => by
    rw [hc k (by omega)]
    have := h.1 k (by omega)
    rw [UInt8.toNat_ofNat', Nat.mod_eq_of_lt this]
  rw [Addr.add_lit]
  rcases (show j = 0 ∨ j = 1 ∨ j = 2 ∨ j = 3 by omega) with rfl | rfl | rfl | rfl
  · exact key 0 (by decide)
  · exact key 1 (by decide)
  · exact key 2 (by decide)
  · exact key 3 (by decide)
theorem mark_is {f : Nat → Nat} (h : ∀ i, i < 4 → f i < 256) : ((markS f).toList == [76, 65, 78, 84]) = decide (f 0 = 76 ∧ f 1 = 65 ∧ f 2 = 78 ∧ f 3 = 84) := by
  have key : ∀ i k, i < 4 → k < 256 → (UInt8.ofNat (f i) = UInt8.ofNat k ↔ f i = k) := fun i k hi hk => by
    constructor
    · intro e
      have := congrArg UInt8.toNat e
      rw [UInt8.toNat_ofNat', UInt8.toNat_ofNat', Nat.mod_eq_of_lt (h i hi), Nat.mod_eq_of_lt hk] at this
      exact this
    · intro e
      rw [e]
  have a0 := key 0 76 (by decide) (by decide)
  have a1 := key 1 65 (by decide) (by decide)
  have a2 := key 2 78 (by decide) (by decide)
  have a3 := key 3 84 (by decide) (by decide)
  rw [Lib.toList_data, Bool.eq_iff_iff, beq_iff_eq, decide_eq_true_iff]
  show [UInt8.ofNat (f 0), UInt8.ofNat (f 1), UInt8.ofNat (f 2), UInt8.ofNat (f 3)] = [UInt8.ofNat 76, UInt8.ofNat 65, UInt8.ofNat 78, UInt8.ofNat 84] ↔ _
  simp only [List.cons.injEq, and_true, a0, a1, a2, a3]
theorem opened_any (g n c : Nat) (f : Nat → Nat) (w : World) (h : Row w (some ⟨g, 0, none⟩) n f) (hnc : n ≤ c) (hc13 : ¬ c = 13) (hn : n ≤ 281474976710656) :
    Calls Try.prog 45 #[.slice (some ⟨g, 0, none⟩) n c] w fun e w' => w' = w ∧ ((openE n f ≠ 0 ∧ e = fault (openE n f)) ∨ (openE n f = 0 ∧ ∃ a c', e = .returned (.slice a (n - 13) c') ∧ Row w a (n - 13) (shiftF 13 f) ∧ a ≠ none)) := by
  have y1 : (n : Int) < 281474976710657 := by omega
  by_cases h1 : n < 13
  · have hE : openE n f = 51 := by unfold openE; rw [if_pos h1]
    have z1 : (n : Int) < 13 := by omega
    rw [hE]
    clear hE h
    go_enter Try.func45, Try.ntmps45
    go_wp2_with fail
    refine (refuse_yes _ _).mono ?_
    rintro e w' ⟨rfl, rfl⟩
    unfold fault
    go_wp2_with fail
    exact ⟨rfl, rfl, .inl ⟨by decide, by rfl⟩⟩
  have z1 : ¬ (n : Int) < 13 := by omega
  have x1 : (13 : Int) ≤ (n : Int) := by omega
  have x2 : (13 : Nat) ≤ n := by omega
  have x3 : (4 : Int) ≤ (n : Int) := by omega
  have x4 : (4 : Int) ≤ (c : Int) := by omega
  have hR13 := Row.shift h 13 (n - 13) (by omega)
  rw [Nat.zero_add] at hR13
  have hcv := conv_mark w g c n f h (by omega)
  replace hnc := Lib.hid hnc
  replace hR13 := Lib.hid hR13
  replace h := Lib.hid h
  have hmk := mark_is (f := f) (fun i hi => h.out.1 i (by omega))
  generalize markS f = S at *
  have hJ5 := Lib.hid (fun W k (hW : Row W (some ⟨g, 5, none⟩) 4 (shiftF 5 f)) => join_uint32 (some ⟨g, 5, none⟩) (n - 5) k (shiftF 5 f) W hW (by omega))
  have hJ9 := Lib.hid (fun W k (hW : Row W (some ⟨g, 9, none⟩) 4 (shiftF 9 f)) => join_uint32 (some ⟨g, 9, none⟩) (n - 9) k (shiftF 9 f) W hW (by omega))
  have hb4 := h.out.1 4 (by omega)
  have hc4 : w.cell? ⟨g, 4, none⟩ = some (.int .u8 (f 4 : Nat)) := by
    rcases h.out.2 with h0 | ⟨x, p, e, hx, hc⟩
    · omega
    · injection e with e
      injection e with e1 e2
      subst e1 e2
      have := hc 4 (by omega)
      rw [Nat.zero_add] at this
      exact this
  have hcn := Lib.hid (show ((n - 13 : Nat) : Int) ≤ 281474976710656 by omega)
  by_cases hm : f 0 = 76 ∧ f 1 = 65 ∧ f 2 = 78 ∧ f 3 = 84
  case neg =>
    have hE : openE n f = 52 := by unfold openE; rw [if_neg h1, if_pos hm]
    rw [decide_eq_false hm] at hmk
    rw [hE]
    clear hE h hR13 hJ5 hJ9 hm
    go_enter Try.func45, Try.ntmps45
    go_wp2_with fail
    refine (refuse_no _ _).mono ?_
    rintro e w' ⟨rfl, hw⟩
    subst hw
    go_wp2_with fail
    refine (refuse_yes _ _).mono ?_
    rintro e w' ⟨rfl, rfl⟩
    unfold fault
    go_wp2_with fail
    exact ⟨rfl, rfl, .inl ⟨by decide, by rfl⟩⟩
  rw [decide_eq_true hm] at hmk
  go_enter Try.func45, Try.ntmps45
  go_wp2_with fail
  refine (refuse_no _ _).mono ?_
  rintro e w' ⟨rfl, hw⟩
  subst hw
  go_wp2_with fail
  refine (refuse_no _ _).mono ?_
  rintro e w' ⟨rfl, hw⟩
  subst hw
  have hc5 : ¬ c = 5 := by have := hnc.out; omega
  have hc9 : ¬ c = 9 := by have := hnc.out; omega
  have x5 : (5 : Int) ≤ (n : Int) := by omega
  have x6 : (5 : Nat) ≤ n := by omega
  have x9 : (9 : Int) ≤ (n : Int) := by omega
  have x10 : (9 : Nat) ≤ n := by omega
  have hR5 := Row.shift h.out 5 4 (by omega)
  rw [Nat.zero_add] at hR5
  replace hR5 := Lib.hid hR5
  have hR9 := Row.shift h.out 9 4 (by omega)
  rw [Nat.zero_add] at hR9
  replace hR9 := Lib.hid hR9
  have hm5 := Lib.hid (numN_lt (f := shiftF 5 f) (n := 4) hR5.out.1)
  have hm9 := Lib.hid (numN_lt (f := shiftF 9 f) (n := 4) hR9.out.1)
  by_cases h4 : f 4 = 1
  case neg =>
    have hE : openE n f = 53 := by unfold openE; rw [if_neg h1, if_neg (by exact fun hh => hh hm), if_pos h4]
    have t4 : ((f 4 : Int) != 1) = true := by rw [bne_iff_ne]; omega
    replace hE := Lib.hid hE
    clear hm
    go_wp2_with fail
    replace hE := hE.out
    refine (refuse_yes _ _).mono ?_
    rintro e w' ⟨rfl, rfl⟩
    unfold fault
    go_wp2_with fail
    exact ⟨rfl, rfl, .inl ⟨by rw [hE]; decide, by rw [hE]; rfl⟩⟩
  have t4 : ((f 4 : Int) != 1) = false := by rw [bne_eq_false_iff_eq]; omega
  go_wp2_with fail
  refine (refuse_no _ _).mono ?_
  rintro e w' ⟨rfl, hw⟩
  subst hw
  go_wp2_with fail
  refine (hJ5.out _ _ hR5.out).mono ?_
  rintro e w' ⟨rfl, hw⟩
  subst hw
  have w5 : IntKind.u64.wrap (numN (shiftF 5 f) 4 : Int) = (numN (shiftF 5 f) 4 : Int) := by
    have := hm5.out
    rw [show (2 : Nat) ^ (8 * 4) = 4294967296 by decide] at this
    simp only [IntKind.wrap_u64]
    omega
  have hE0 := Lib.hid (show openE n f = if numN (shiftF 5 f) 4 ≠ n - 13 then 54 else if 16777216 < n - 13 then 54 else if numN (shiftF 9 f) 4 ≠ sumN (shiftF 13 f) (n - 13) then 55 else 0 by
    unfold openE; rw [if_neg h1, if_neg (by exact fun hh => hh hm), if_neg (by exact fun hh => hh h4)])
  clear hJ5 hR5 hcv hmk hm hb4 h4 t4 hc4 hm5 hc5 x5 x6 x3 x4 h1
  generalize numN (shiftF 5 f) 4 = m5 at *
  by_cases h5 : m5 = n - 13
  case neg =>
    have hE := Lib.hid (show openE n f = 54 by rw [hE0.out, if_pos h5])
    have t5 : ((m5 : Int) != ((n - 13 : Nat) : Int)) = true := by rw [bne_iff_ne]; omega
    clear hE0
    go_wp2_with fail
    refine (refuse_yes _ _).mono ?_
    rintro e w' ⟨rfl, rfl⟩
    unfold fault
    go_wp2_with fail
    exact ⟨rfl, rfl, .inl ⟨by rw [hE.out]; decide, by rw [hE.out]; rfl⟩⟩
  subst h5
  have t5 : (((n - 13 : Nat) : Int) != ((n - 13 : Nat) : Int)) = false := by rw [bne_eq_false_iff_eq]
  go_wp2_with fail
  refine (refuse_no _ _).mono ?_
  rintro e w' ⟨rfl, hw⟩
  subst hw
  clear t5 w5
  by_cases h6 : 16777216 < n - 13
  case pos =>
    have hE := Lib.hid (show openE n f = 54 by rw [hE0.out, if_neg (by exact fun hh => hh rfl), if_pos h6])
    have t6 : decide (((n - 13 : Nat) : Int) > 16777216) = true := decide_eq_true (by omega)
    have t7 : decide ((16777216 : Int) < ((n - 13 : Nat) : Int)) = true := decide_eq_true (by omega)
    clear hE0 h6
    go_wp2_with fail
    refine (refuse_yes _ _).mono ?_
    rintro e w' ⟨rfl, rfl⟩
    unfold fault
    go_wp2_with fail
    exact ⟨rfl, rfl, .inl ⟨by rw [hE.out]; decide, by rw [hE.out]; rfl⟩⟩
  have t6 : decide (((n - 13 : Nat) : Int) > 16777216) = false := decide_eq_false (by omega)
  have t7 : decide ((16777216 : Int) < ((n - 13 : Nat) : Int)) = false := decide_eq_false (by omega)
  replace h6 := Lib.hid h6
  have HS := Lib.hid (fun W k (hW : Row W (some ⟨g, 13, none⟩) (n - 13) (shiftF 13 f)) => sum_any (some ⟨g, 13, none⟩) (n - 13) k (shiftF 13 f) W hW (by have := h6.out; omega))
  go_wp2_with fail
  refine (refuse_no _ _).mono ?_
  rintro e w' ⟨rfl, hw⟩
  subst hw
  clear t6 t7
  go_wp2_with fail
  refine (hJ9.out _ _ hR9.out).mono ?_
  rintro e w' ⟨rfl, hw⟩
  subst hw
  go_wp2_with fail
  refine (HS.out _ _ hR13.out).mono ?_
  rintro e w'' ⟨rfl, hw⟩
  subst hw
  clear HS hJ9 hm9
  by_cases h9 : numN (shiftF 9 f) 4 = sumN (shiftF 13 f) (n - 13)
  case neg =>
    have hE := Lib.hid (show openE n f = 55 by rw [hE0.out, if_neg (by exact fun hh => hh rfl), if_neg h6.out, if_pos h9])
    have t9 : ((numN (shiftF 9 f) 4 : Int) != (sumN (shiftF 13 f) (n - 13) : Int)) = true := by rw [bne_iff_ne]; omega
    clear hE0
    go_wp2_with fail
    refine (refuse_yes _ _).mono ?_
    rintro e w' ⟨rfl, rfl⟩
    unfold fault
    go_wp2_with fail
    exact ⟨rfl, rfl, .inl ⟨by rw [hE.out]; decide, by rw [hE.out]; rfl⟩⟩
  have hE := Lib.hid (show openE n f = 0 by rw [hE0.out, if_neg (by exact fun hh => hh rfl), if_neg h6.out, if_neg (by exact fun hh => hh h9)])
  have t9 : ((numN (shiftF 9 f) 4 : Int) != (sumN (shiftF 13 f) (n - 13) : Int)) = false := by rw [bne_eq_false_iff_eq]; omega
  clear hE0
  go_wp2_with fail
  refine (refuse_no _ _).mono ?_
  rintro e w' ⟨rfl, hw⟩
  subst hw
  go_wp2_with fail
  go_ret
  exact ⟨rfl, .inr ⟨hE.out, _, _, rfl, hR13.out, fun e => by cases e⟩⟩
theorem opened_13 (g n : Nat) (f : Nat → Nat) (w : World) (h : Row w (some ⟨g, 0, none⟩) n f) (hnc : n ≤ 13) (hn : n ≤ 281474976710656) :
    Calls Try.prog 45 #[.slice (some ⟨g, 0, none⟩) n 13] w fun e w' => w' = w ∧ ((openE n f ≠ 0 ∧ e = fault (openE n f)) ∨ (openE n f = 0 ∧ ∃ a c', e = .returned (.slice a (n - 13) c') ∧ Row w a (n - 13) (shiftF 13 f) ∧ a ≠ none)) := by
  have y1 : (n : Int) < 281474976710657 := by omega
  by_cases h1 : n < 13
  · have hE : openE n f = 51 := by unfold openE; rw [if_pos h1]
    have z1 : (n : Int) < 13 := by omega
    rw [hE]
    clear hE h
    go_enter Try.func45, Try.ntmps45
    go_wp2_with fail
    refine (refuse_yes _ _).mono ?_
    rintro e w' ⟨rfl, rfl⟩
    unfold fault
    go_wp2_with fail
    exact ⟨rfl, rfl, .inl ⟨by decide, by rfl⟩⟩
  have z1 : ¬ (n : Int) < 13 := by omega
  have x1 : (13 : Int) ≤ (n : Int) := by omega
  have x2 : (13 : Nat) ≤ n := by omega
  have x3 : (4 : Int) ≤ (n : Int) := by omega
  have hR13 : Row w (some ⟨g, 0, none⟩) (n - 13) (shiftF 13 f) := ⟨fun i hi => by omega, .inl (by omega)⟩
  have hcv := conv_mark w g 13 n f h (by omega)
  replace hnc := Lib.hid hnc
  replace hR13 := Lib.hid hR13
  replace h := Lib.hid h
  have hmk := mark_is (f := f) (fun i hi => h.out.1 i (by omega))
  generalize markS f = S at *
  have hJ5 := Lib.hid (fun W k (hW : Row W (some ⟨g, 5, none⟩) 4 (shiftF 5 f)) => join_uint32 (some ⟨g, 5, none⟩) (n - 5) k (shiftF 5 f) W hW (by omega))
  have hJ9 := Lib.hid (fun W k (hW : Row W (some ⟨g, 9, none⟩) 4 (shiftF 9 f)) => join_uint32 (some ⟨g, 9, none⟩) (n - 9) k (shiftF 9 f) W hW (by omega))
  have hb4 := h.out.1 4 (by omega)
  have hc4 : w.cell? ⟨g, 4, none⟩ = some (.int .u8 (f 4 : Nat)) := by
    rcases h.out.2 with h0 | ⟨x, p, e, hx, hc⟩
    · omega
    · injection e with e
      injection e with e1 e2
      subst e1 e2
      have := hc 4 (by omega)
      rw [Nat.zero_add] at this
      exact this
  have hcn := Lib.hid (show ((n - 13 : Nat) : Int) ≤ 281474976710656 by omega)
  by_cases hm : f 0 = 76 ∧ f 1 = 65 ∧ f 2 = 78 ∧ f 3 = 84
  case neg =>
    have hE : openE n f = 52 := by unfold openE; rw [if_neg h1, if_pos hm]
    rw [decide_eq_false hm] at hmk
    rw [hE]
    clear hE h hR13 hJ5 hJ9 hm
    go_enter Try.func45, Try.ntmps45
    go_wp2_with fail
    refine (refuse_no _ _).mono ?_
    rintro e w' ⟨rfl, hw⟩
    subst hw
    go_wp2_with fail
    refine (refuse_yes _ _).mono ?_
    rintro e w' ⟨rfl, rfl⟩
    unfold fault
    go_wp2_with fail
    exact ⟨rfl, rfl, .inl ⟨by decide, by rfl⟩⟩
  rw [decide_eq_true hm] at hmk
  go_enter Try.func45, Try.ntmps45
  go_wp2_with fail
  refine (refuse_no _ _).mono ?_
  rintro e w' ⟨rfl, hw⟩
  subst hw
  go_wp2_with fail
  refine (refuse_no _ _).mono ?_
  rintro e w' ⟨rfl, hw⟩
  subst hw
  have x5 : (5 : Int) ≤ (n : Int) := by omega
  have x6 : (5 : Nat) ≤ n := by omega
  have x9 : (9 : Int) ≤ (n : Int) := by omega
  have x10 : (9 : Nat) ≤ n := by omega
  have hR5 := Row.shift h.out 5 4 (by omega)
  rw [Nat.zero_add] at hR5
  replace hR5 := Lib.hid hR5
  have hR9 := Row.shift h.out 9 4 (by omega)
  rw [Nat.zero_add] at hR9
  replace hR9 := Lib.hid hR9
  have hm5 := Lib.hid (numN_lt (f := shiftF 5 f) (n := 4) hR5.out.1)
  have hm9 := Lib.hid (numN_lt (f := shiftF 9 f) (n := 4) hR9.out.1)
  by_cases h4 : f 4 = 1
  case neg =>
    have hE : openE n f = 53 := by unfold openE; rw [if_neg h1, if_neg (by exact fun hh => hh hm), if_pos h4]
    have t4 : ((f 4 : Int) != 1) = true := by rw [bne_iff_ne]; omega
    replace hE := Lib.hid hE
    clear hm
    go_wp2_with fail
    replace hE := hE.out
    refine (refuse_yes _ _).mono ?_
    rintro e w' ⟨rfl, rfl⟩
    unfold fault
    go_wp2_with fail
    exact ⟨rfl, rfl, .inl ⟨by rw [hE]; decide, by rw [hE]; rfl⟩⟩
  have t4 : ((f 4 : Int) != 1) = false := by rw [bne_eq_false_iff_eq]; omega
  go_wp2_with fail
  refine (refuse_no _ _).mono ?_
  rintro e w' ⟨rfl, hw⟩
  subst hw
  go_wp2_with fail
  refine (hJ5.out _ _ hR5.out).mono ?_
  rintro e w' ⟨rfl, hw⟩
  subst hw
  have w5 : IntKind.u64.wrap (numN (shiftF 5 f) 4 : Int) = (numN (shiftF 5 f) 4 : Int) := by
    have := hm5.out
    rw [show (2 : Nat) ^ (8 * 4) = 4294967296 by decide] at this
    simp only [IntKind.wrap_u64]
    omega
  have hE0 := Lib.hid (show openE n f = if numN (shiftF 5 f) 4 ≠ n - 13 then 54 else if 16777216 < n - 13 then 54 else if numN (shiftF 9 f) 4 ≠ sumN (shiftF 13 f) (n - 13) then 55 else 0 by
    unfold openE; rw [if_neg h1, if_neg (by exact fun hh => hh hm), if_neg (by exact fun hh => hh h4)])
  clear hJ5 hR5 hcv hmk hm hb4 h4 t4 hc4 hm5 x5 x6 x3 h1
  generalize numN (shiftF 5 f) 4 = m5 at *
  by_cases h5 : m5 = n - 13
  case neg =>
    have hE := Lib.hid (show openE n f = 54 by rw [hE0.out, if_pos h5])
    have t5 : ((m5 : Int) != ((n - 13 : Nat) : Int)) = true := by rw [bne_iff_ne]; omega
    clear hE0
    go_wp2_with fail
    refine (refuse_yes _ _).mono ?_
    rintro e w' ⟨rfl, rfl⟩
    unfold fault
    go_wp2_with fail
    exact ⟨rfl, rfl, .inl ⟨by rw [hE.out]; decide, by rw [hE.out]; rfl⟩⟩
  subst h5
  have t5 : (((n - 13 : Nat) : Int) != ((n - 13 : Nat) : Int)) = false := by rw [bne_eq_false_iff_eq]
  go_wp2_with fail
  refine (refuse_no _ _).mono ?_
  rintro e w' ⟨rfl, hw⟩
  subst hw
  clear t5 w5
  by_cases h6 : 16777216 < n - 13
  case pos =>
    have hE := Lib.hid (show openE n f = 54 by rw [hE0.out, if_neg (by exact fun hh => hh rfl), if_pos h6])
    have t6 : decide (((n - 13 : Nat) : Int) > 16777216) = true := decide_eq_true (by omega)
    have t7 : decide ((16777216 : Int) < ((n - 13 : Nat) : Int)) = true := decide_eq_true (by omega)
    clear hE0 h6
    go_wp2_with fail
    refine (refuse_yes _ _).mono ?_
    rintro e w' ⟨rfl, rfl⟩
    unfold fault
    go_wp2_with fail
    exact ⟨rfl, rfl, .inl ⟨by rw [hE.out]; decide, by rw [hE.out]; rfl⟩⟩
  have t6 : decide (((n - 13 : Nat) : Int) > 16777216) = false := decide_eq_false (by omega)
  have t7 : decide ((16777216 : Int) < ((n - 13 : Nat) : Int)) = false := decide_eq_false (by omega)
  replace h6 := Lib.hid h6
  have HS := Lib.hid (fun W k (hW : Row W (some ⟨g, 0, none⟩) (n - 13) (shiftF 13 f)) => sum_any (some ⟨g, 0, none⟩) (n - 13) k (shiftF 13 f) W hW (by have := h6.out; omega))
  go_wp2_with fail
  refine (refuse_no _ _).mono ?_
  rintro e w' ⟨rfl, hw⟩
  subst hw
  clear t6 t7
  go_wp2_with fail
  refine (hJ9.out _ _ hR9.out).mono ?_
  rintro e w' ⟨rfl, hw⟩
  subst hw
  go_wp2_with fail
  refine (HS.out _ _ hR13.out).mono ?_
  rintro e w'' ⟨rfl, hw⟩
  subst hw
  clear HS hJ9 hm9
  by_cases h9 : numN (shiftF 9 f) 4 = sumN (shiftF 13 f) (n - 13)
  case neg =>
    have hE := Lib.hid (show openE n f = 55 by rw [hE0.out, if_neg (by exact fun hh => hh rfl), if_neg h6.out, if_pos h9])
    have t9 : ((numN (shiftF 9 f) 4 : Int) != (sumN (shiftF 13 f) (n - 13) : Int)) = true := by rw [bne_iff_ne]; omega
    clear hE0
    go_wp2_with fail
    refine (refuse_yes _ _).mono ?_
    rintro e w' ⟨rfl, rfl⟩
    unfold fault
    go_wp2_with fail
    exact ⟨rfl, rfl, .inl ⟨by rw [hE.out]; decide, by rw [hE.out]; rfl⟩⟩
  have hE := Lib.hid (show openE n f = 0 by rw [hE0.out, if_neg (by exact fun hh => hh rfl), if_neg h6.out, if_neg (by exact fun hh => hh h9)])
  have t9 : ((numN (shiftF 9 f) 4 : Int) != (sumN (shiftF 13 f) (n - 13) : Int)) = false := by rw [bne_eq_false_iff_eq]; omega
  clear hE0
  go_wp2_with fail
  refine (refuse_no _ _).mono ?_
  rintro e w' ⟨rfl, hw⟩
  subst hw
  go_wp2_with fail
  go_ret
  exact ⟨rfl, .inr ⟨hE.out, _, _, rfl, hR13.out, fun e => by cases e⟩⟩
end Go.Proofs.Ytacnmnodbmbplaa
