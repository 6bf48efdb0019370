/-
  The body of saved bytes, or why there is none.
-/
import Derived.Test.YtbdhdedlemndeaaDoorSvGD
import Derived.Laws.IdiomStrings
import Derived.BigQuiet
namespace Go.Proofs.YtbdhdedlemndeaaDoor
open Go.RowKit Go.Shelf
set_option maxRecDepth 100000
set_option maxHeartbeats 1000000

def shiftF (k : Nat) (f : Nat → Nat) : Nat → Nat := fun i => f (k + i)
/-- Why bytes are refused; 0 if they aren't. -/
def openE (n : Nat) (f : Nat → Nat) : Nat :=
  if n < 13 then 51 else if ¬ (f 0 = 76 ∧ f 1 = 65 ∧ f 2 = 78 ∧ f 3 = 84) then 52 else if f 4 ≠ 1 then 53 else if numN (shiftF 5 f) 4 ≠ n - 13 then 54 else if 16777216 < n - 13 then 54 else
  if numN (shiftF 9 f) 4 ≠ sumN (shiftF 13 f) (n - 13) then 55 else 0
theorem Row.shift {w : World} {g o n : Nat} {f : Nat → Nat} (h : Row w (some ⟨g, o, none⟩) n f) (k m : Nat) (hk : k + m ≤ n) : Row w (some ⟨g, o + k, none⟩) m (shiftF k f) := by
  refine ⟨fun i hi => h.1 (k + i) (by omega), ?_⟩
  by_cases h0 : m = 0
  · exact .inl h0
  · rcases h.2 with h1 | ⟨x, p, e, hx, hc⟩
    · omega
    · injection e with e
      injection e with e1 e2
      subst e1 e2
      exact .inr ⟨_, _, rfl, hx, fun i hi => by rw [Nat.add_assoc]; exact hc (k + i) (by omega)⟩
def markS (f : Nat → Nat) : ByteArray := ⟨[UInt8.ofNat (f 0), UInt8.ofNat (f 1), UInt8.ofNat (f 2), UInt8.ofNat (f 3)].toArray⟩
theorem conv_mark (w : World) (g c n : Nat) (f : Nat → Nat) (h : Row w (some ⟨g, 0, none⟩) n f) (hn : 4 ≤ n) : (convert 46 9 (.slice (some ⟨g, 0, none⟩) 4 c)).run Tryd.prog w = .ok (.string (markS f)) w := by
  refine run_convert_bytes_back (P := Tryd.prog) w 46 9 5 ⟨g, 0, none⟩ c [UInt8.ofNat (f 0), UInt8.ofNat (f 1), UInt8.ofNat (f 2), UInt8.ofNat (f 3)] Tryd.underlying46 Tryd.underlying5 Tryd.underlying9 (fun j hj => ?_)
  rcases h.2 with h0 | ⟨x, p, e, hx, hc⟩
  · omega
  injection e with e
  injection e with e1 e2
  subst e1 e2
  have hj : j < 4 := hj
  have key : ∀ k, k < 4 → w.cell? ⟨g, 0 + k, none⟩ = some (.int .u8 ((UInt8.ofNat (f k)).toNat : Int)) := fun k hk => by
    rw [hc k (by omega)]
    have := h.1 k (by omega)
    rw [UInt8.toNat_ofNat', Nat.mod_eq_of_lt this]
  rw [Addr.add_lit]
  rcases (show j = 0 ∨ j = 1 ∨ j = 2 ∨ j = 3 by omega) with rfl | rfl | rfl | rfl
  · exact key 0 (by decide)
  · exact key 1 (by decide)
  · exact key 2 (by decide)
  · exact key 3 (by decide)
theorem mark_is {f : Nat → Nat} (h : ∀ i, i < 4 → f i < 256) : ((markS f).toList == [76, 65, 78, 84]) = decide (f 0 = 76 ∧ f 1 = 65 ∧ f 2 = 78 ∧ f 3 = 84) := by
  have key : ∀ i k, i < 4 → k < 256 → (UInt8.ofNat (f i) = UInt8.ofNat k ↔ f i = k) := fun i k hi hk => by
    constructor
    · intro e
      have := congrArg UInt8.toNat e
      rw [UInt8.toNat_ofNat', UInt8.toNat_ofNat', Nat.mod_eq_of_lt (h i hi), Nat.mod_eq_of_lt hk] at this
      exact this
    · intro e
      rw [e]
  have a0 := key 0 76 (by decide) (by decide)
  have a1 := key 1 65 (by decide) (by decide)
  have a2 := key 2 78 (by decide) (by decide)
  have a3 := key 3 84 (by decide) (by decide)
  rw [Lib.toList_data, Bool.eq_iff_iff, beq_iff_eq, decide_eq_true_iff]
  show [UInt8.ofNat (f 0), UInt8.ofNat (f 1), UInt8.ofNat (f 2), UInt8.ofNat (f 3)] = [UInt8.ofNat 76, UInt8.ofNat 65, UInt8.ofNat 78, UInt8.ofNat 84] ↔ _
  simp only [List.cons.injEq, and_true, a0, a1, a2, a3]
theorem opened_any (g n c : Nat) (f : Nat → Nat) (w : World) (h : Row w (some ⟨g, 0, none⟩) n f) (hnc : n ≤ c) (hc13 : ¬ c = 13) (hn : n ≤ 281474976710656) :
    Calls Tryd.prog 43 #[.slice (some ⟨g, 0, none⟩) n c] w fun e w' => w' = w ∧ ((openE n f ≠ 0 ∧ e = fault (openE n f)) ∨ (openE n f = 0 ∧ ∃ a c', e = .returned (.slice a (n - 13) c') ∧ Row w a (n - 13) (shiftF 13 f) ∧ a ≠ none)) := by
  have y1 : (n : Int) < 281474976710657 := by omega
  by_cases h1 : n < 13
  · have hE : openE n f = 51 := by unfold openE; rw [if_pos h1]
    have z1 : (n : Int) < 13 := by omega
    rw [hE]
    clear hE h
    go_enter Tryd.func43, Tryd.ntmps43
    go_wp2_with fail
    refine (refuse_yes _ _).mono ?_
    rintro e w' ⟨rfl, rfl⟩
    unfold fault
    go_wp2_with fail
    exact ⟨rfl, rfl, .inl ⟨by decide, by rfl⟩⟩
  have z1 : ¬ (n : Int) < 13 := by omega
  have x1 : (13 : Int) ≤ (n : Int) := by omega
  have x2 : (13 : Nat) ≤ n := by omega
  have x3 : (4 : Int) ≤ (n : Int) := by omega
  have x4 : (4 : Int) ≤ (c : Int) := by omega
  have hR13 := Row.shift h 13 (n - 13) (by omega)
  rw [Nat.zero_add] at hR13
  have hcv := conv_mark w g c n f h (by omega)
  replace hnc := Lib.hid hnc
  replace hR13 := Lib.hid hR13
  replace h := Lib.hid h
  have hmk := mark_is (f := f) (fun i hi => h.out.1 i (by omega))
  generalize markS f = S at *
  have hJ5 := Lib.hid (fun W k (hW : Row W (some ⟨g, 5, none⟩) 4 (shiftF 5 f)) => join_uint32 (some ⟨g, 5, none⟩) (n - 5) k (shiftF 5 f) W hW (by omega))
  have hJ9 := Lib.hid (fun W k (hW : Row W (some ⟨g, 9, none⟩) 4 (shiftF 9 f)) => join_uint32 (some ⟨g, 9, none⟩) (n - 9) k (shiftF 9 f) W hW (by omega))
  have hb4 := h.out.1 4 (by omega)
  have hc4 : w.cell? ⟨g, 4, none⟩ = some (.int .u8 (f 4 : Nat)) := by
    rcases h.out.2 with h0 | ⟨x, p, e, hx, hc⟩
    · omega
    · injection e with e
      injection e with e1 e2
      subst e1 e2
      have := hc 4 (by omega)
      rw [Nat.zero_add] at this
      exact this
  have hcn := Lib.hid (show ((n - 13 : Nat) : Int) ≤ 281474976710656 by omega)
  by_cases hm : f 0 = 76 ∧ f 1 = 65 ∧ f 2 = 78 ∧ f 3 = 84
  case neg =>
    have hE : openE n f = 52 := by unfold openE; rw [if_neg h1, if_pos hm]
    rw [decide_eq_false hm] at hmk
    rw [hE]
    clear hE h hR13 hJ5 hJ9 hm
    go_enter Tryd.func43, Tryd.ntmps43
    go_wp2_with fail
    refine (refuse_no _ _).mono ?_
    rintro e w' ⟨rfl, hw⟩
    subst hw
    go_wp2_with fail
    refine (refuse_yes _ _).mono ?_
    rintro e w' ⟨rfl, rfl⟩
    unfold fault
    go_wp2_with fail
    exact ⟨rfl, rfl, .inl ⟨by decide, by rfl⟩⟩
  rw [decide_eq_true hm] at hmk
  go_enter Tryd.func43, Tryd.ntmps43
  go_wp2_with fail
  refine (refuse_no _ _).mono ?_
  rintro e w' ⟨rfl, hw⟩
  subst hw
  go_wp2_with fail
  refine (refuse_no _ _).mono ?_
  rintro e w' ⟨rfl, hw⟩
  subst hw
  have hc5 : ¬ c = 5 := by have := hnc.out; omega
  have hc9 : ¬ c = 9 := by have := hnc.out; omega
  have x5 : (5 : Int) ≤ (n : Int) := by omega
  have x6 : (5 : Nat) ≤ n := by omega
  have x9 : (9 : Int) ≤ (n : Int) := by omega
  have x10 : (9 : Nat) ≤ n := by omega
  have hR5 := Row.shift h.out 5 4 (by omega)
  rw [Nat.zero_add] at hR5
  replace hR5 := Lib.hid hR5
  have hR9 := Row.shift h.out 9 4 (by omega)
  rw [Nat.zero_add] at hR9
  replace hR9 := Lib.hid hR9
  have hm5 := Lib.hid (numN_lt (f := shiftF 5 f) (n := 4) hR5.out.1)
  have hm9 := Lib.hid (numN_lt (f := shiftF 9 f) (n := 4) hR9.out.1)
  by_cases h4 : f 4 = 1
  case neg =>
    have hE : openE n f = 53 := by unfold openE; rw [if_neg h1, if_neg (by exact fun hh => hh hm), if_pos h4]
    have t4 : ((f 4 : Int) != 1) = true := by rw [bne_iff_ne]; omega
    replace hE := Lib.hid hE
    clear hm
    go_wp2_with fail
    replace hE := hE.out
    refine (refuse_yes _ _).mono ?_
    rintro e w' ⟨rfl, rfl⟩
    unfold fault
    go_wp2_with fail
    exact ⟨rfl, rfl, .inl ⟨by rw [hE]; decide, by rw [hE]; rfl⟩⟩
  have t4 : ((f 4 : Int) != 1) = false := by rw [bne_eq_false_iff_eq]; omega
  go_wp2_with fail
  refine (refuse_no _ _).mono ?_
  rintro e w' ⟨rfl, hw⟩
  subst hw
  go_wp2_with fail
  refine (hJ5.out _ _ hR5.out).mono ?_
  rintro e w' ⟨rfl, hw⟩
  subst hw
  have w5 : IntKind.u64.wrap (numN (shiftF 5 f) 4 : Int) = (numN (shiftF 5 f) 4 : Int) := by
    have := hm5.out
    rw [show (2 : Nat) ^ (8 * 4) = 4294967296 by decide] at this
    simp only [IntKind.wrap_u64]
    omega
  have hE0 := Lib.hid (show openE n f = if numN (shiftF 5 f) 4 ≠ n - 13 then 54 else if 16777216 < n - 13 then 54 else if numN (shiftF 9 f) 4 ≠ sumN (shiftF 13 f) (n - 13) then 55 else 0 by
    unfold openE; rw [if_neg h1, if_neg (by exact fun hh => hh hm), if_neg (by exact fun hh => hh h4)])
  clear hJ5 hR5 hcv hmk hm hb4 h4 t4 hc4 hm5 hc5 x5 x6 x3 x4 h1
  generalize numN (shiftF 5 f) 4 = m5 at *
  by_cases h5 : m5 = n - 13
  case neg =>
    have hE := Lib.hid (show openE n f = 54 by rw [hE0.out, if_pos h5])
    have t5 : ((m5 : Int) != ((n - 13 : Nat) : Int)) = true := by rw [bne_iff_ne]; omega
    clear hE0
    go_wp2_with fail
    refine (refuse_yes _ _).mono ?_
    rintro e w' ⟨rfl, rfl⟩
    unfold fault
    go_wp2_with fail
    exact ⟨rfl, rfl, .inl ⟨by rw [hE.out]; decide, by rw [hE.out]; rfl⟩⟩
  subst h5
  have t5 : (((n - 13 : Nat) : Int) != ((n - 13 : Nat) : Int)) = false := by rw [bne_eq_false_iff_eq]
  go_wp2_with fail
  refine (refuse_no _ _).mono ?_
  rintro e w' ⟨rfl, hw⟩
  subst hw
  clear t5 w5
  by_cases h6 : 16777216 < n - 13
  case pos =>
    have hE := Lib.hid (show openE n f = 54 by rw [hE0.out, if_neg (by exact fun hh => hh rfl), if_pos h6])
    have t6 : decide (((n - 13 : Nat) : Int) > 16777216) = true := decide_eq_true (by omega)
    have t7 : decide ((16777216 : Int) < ((n - 13 : Nat) : Int)) = true := decide_eq_true (by omega)
    clear hE0 h6
    go_wp2_with fail
    refine (refuse_yes _ _).mono ?_
    rintro e w' ⟨rfl, rfl⟩
    unfold fault
    go_wp2_with fail
    exact ⟨rfl, rfl, .inl ⟨by rw [hE.out]; decide, by rw [hE.out]; rfl⟩⟩
  have t6 : decide (((n - 13 : Nat) : Int) > 16777216) = false := decide_eq_false (by omega)
  have t7 : decide ((16777216 : Int) < ((n - 13 : Nat) : Int)) = false := decide_eq_false (by omega)
  replace h6 := Lib.hid h6
  have HS := Lib.hid (fun W k (hW : Row W (some ⟨g, 13, none⟩) (n - 13) (shiftF 13 f)) => sum_any (some ⟨g, 13, none⟩) (n - 13) k (shiftF 13 f) W hW (by have := h6.out; omega))
  go_wp2_with fail
  refine (refuse_no _ _).mono ?_
  rintro e w' ⟨rfl, hw⟩
  subst hw
  clear t6 t7
  go_wp2_with fail
  refine (hJ9.out _ _ hR9.out).mono ?_
  rintro e w' ⟨rfl, hw⟩
  subst hw
  go_wp2_with fail
  refine (HS.out _ _ hR13.out).mono ?_
  rintro e w'' ⟨rfl, hw⟩
  subst hw
  clear HS hJ9 hm9
  by_cases h9 : numN (shiftF 9 f) 4 = sumN (shiftF 13 f) (n - 13)
  case neg =>
    have hE := Lib.hid (show openE n f = 55 by rw [hE0.out, if_neg (by exact fun hh => hh rfl), if_neg h6.out, if_pos h9])
    have t9 : ((numN (shiftF 9 f) 4 : Int) != (sumN (shiftF 13 f) (n - 13) : Int)) = true := by rw [bne_iff_ne]; omega
    clear hE0
    go_wp2_with fail
    refine (refuse_yes _ _).mono ?_
    rintro e w' ⟨rfl, rfl⟩
    unfold fault
    go_wp2_with fail
    exact ⟨rfl, rfl, .inl ⟨by rw [hE.out]; decide, by rw [hE.out]; rfl⟩⟩
  have hE := Lib.hid (show openE n f = 0 by rw [hE0.out, if_neg (by exact fun hh => hh rfl), if_neg h6.out, if_neg (by exact fun hh => hh h9)])
  have t9 : ((numN (shiftF 9 f) 4 : Int) != (sumN (shiftF 13 f) (n - 13) : Int)) = false := by rw [bne_eq_false_iff_eq]; omega
  clear hE0
  go_wp2_with fail
  refine (refuse_no _ _).mono ?_
  rintro e w' ⟨rfl, hw⟩
  subst hw
  go_wp2_with fail
  go_ret
  exact ⟨rfl, .inr ⟨hE.out, _, _, rfl, hR13.out, fun e => by cases e⟩⟩
theorem opened_13 (g n : Nat) (f : Nat → Nat) (w : World) (h : Row w (some ⟨g, 0, none⟩) n f) (hnc : n ≤ 13) (hn : n ≤ 281474976710656) :
    Calls Tryd.prog 43 #[.slice (some ⟨g, 0, none⟩) n 13] w fun e w' => w' = w ∧ ((openE n f ≠ 0 ∧ e = fault (openE n f)) ∨ (openE n f = 0 ∧ ∃ a c', e = .returned (.slice a (n - 13) c') ∧ Row w a (n - 13) (shiftF 13 f) ∧ a ≠ none)) := by
  have y1 : (n : Int) < 281474976710657 := by omega
  by_cases h1 : n < 13
  · have hE : openE n f = 51 := by unfold openE; rw [if_pos h1]
    have z1 : (n : Int) < 13 := by omega
    rw [hE]
    clear hE h
    go_enter Tryd.func43, Tryd.ntmps43
    go_wp2_with fail
    refine (refuse_yes _ _).mono ?_
    rintro e w' ⟨rfl, rfl⟩
    unfold fault
    go_wp2_with fail
    exact ⟨rfl, rfl, .inl ⟨by decide, by rfl⟩⟩
  have z1 : ¬ (n : Int) < 13 := by omega
  have x1 : (13 : Int) ≤ (n : Int) := by omega
  have x2 : (13 : Nat) ≤ n := by omega
  have x3 : (4 : Int) ≤ (n : Int) := by omega
  have hR13 : Row w (some ⟨g, 0, none⟩) (n - 13) (shiftF 13 f) := ⟨fun i hi => by omega, .inl (by omega)⟩
  have hcv := conv_mark w g 13 n f h (by omega)
  replace hnc := Lib.hid hnc
  replace hR13 := Lib.hid hR13
  replace h := Lib.hid h
  have hmk := mark_is (f := f) (fun i hi => h.out.1 i (by omega))
  generalize markS f = S at *
  have hJ5 := Lib.hid (fun W k (hW : Row W (some ⟨g, 5, none⟩) 4 (shiftF 5 f)) => join_uint32 (some ⟨g, 5, none⟩) (n - 5) k (shiftF 5 f) W hW (by omega))
  have hJ9 := Lib.hid (fun W k (hW : Row W (some ⟨g, 9, none⟩) 4 (shiftF 9 f)) => join_uint32 (some ⟨g, 9, none⟩) (n - 9) k (shiftF 9 f) W hW (by omega))
  have hb4 := h.out.1 4 (by omega)
  have hc4 : w.cell? ⟨g, 4, none⟩ = some (.int .u8 (f 4 : Nat)) := by
    rcases h.out.2 with h0 | ⟨x, p, e, hx, hc⟩
    · omega
    · injection e with e
      injection e with e1 e2
      subst e1 e2
      have := hc 4 (by omega)
      rw [Nat.zero_add] at this
      exact this
  have hcn := Lib.hid (show ((n - 13 : Nat) : Int) ≤ 281474976710656 by omega)
  by_cases hm : f 0 = 76 ∧ f 1 = 65 ∧ f 2 = 78 ∧ f 3 = 84
  case neg =>
    have hE : openE n f = 52 := by unfold openE; rw [if_neg h1, if_pos hm]
    rw [decide_eq_false hm] at hmk
    rw [hE]
    clear hE h hR13 hJ5 hJ9 hm
    go_enter Tryd.func43, Tryd.ntmps43
    go_wp2_with fail
    refine (refuse_no _ _).mono ?_
    rintro e w' ⟨rfl, hw⟩
    subst hw
    go_wp2_with fail
    refine (refuse_yes _ _).mono ?_
    rintro e w' ⟨rfl, rfl⟩
    unfold fault
    go_wp2_with fail
    exact ⟨rfl, rfl, .inl ⟨by decide, by rfl⟩⟩
  rw [decide_eq_true hm] at hmk
  go_enter Tryd.func43, Tryd.ntmps43
  go_wp2_with fail
  refine (refuse_no _ _).mono ?_
  rintro e w' ⟨rfl, hw⟩
  subst hw
  go_wp2_with fail
  refine (refuse_no _ _).mono ?_
  rintro e w' ⟨rfl, hw⟩
  subst hw
  have x5 : (5 : Int) ≤ (n : Int) := by omega
  have x6 : (5 : Nat) ≤ n := by omega
  have x9 : (9 : Int) ≤ (n : Int) := by omega
  have x10 : (9 : Nat) ≤ n := by omega
  have hR5 := Row.shift h.out 5 4 (by omega)
  rw [Nat.zero_add] at hR5
  replace hR5 := Lib.hid hR5
  have hR9 := Row.shift h.out 9 4 (by omega)
  rw [Nat.zero_add] at hR9
  replace hR9 := Lib.hid hR9
  have hm5 := Lib.hid (numN_lt (f := shiftF 5 f) (n := 4) hR5.out.1)
  have hm9 := Lib.hid (numN_lt (f := shiftF 9 f) (n := 4) hR9.out.1)
  by_cases h4 : f 4 = 1
  case neg =>
    have hE : openE n f = 53 := by unfold openE; rw [if_neg h1, if_neg (by exact fun hh => hh hm), if_pos h4]
    have t4 : ((f 4 : Int) != 1) = true := by rw [bne_iff_ne]; omega
    replace hE := Lib.hid hE
    clear hm
    go_wp2_with fail
    replace hE := hE.out
    refine (refuse_yes _ _).mono ?_
    rintro e w' ⟨rfl, rfl⟩
    unfold fault
    go_wp2_with fail
    exact ⟨rfl, rfl, .inl ⟨by rw [hE]; decide, by rw [hE]; rfl⟩⟩
  have t4 : ((f 4 : Int) != 1) = false := by rw [bne_eq_false_iff_eq]; omega
  go_wp2_with fail
  refine (refuse_no _ _).mono ?_
  rintro e w' ⟨rfl, hw⟩
  subst hw
  go_wp2_with fail
  refine (hJ5.out _ _ hR5.out).mono ?_
  rintro e w' ⟨rfl, hw⟩
  subst hw
  have w5 : IntKind.u64.wrap (numN (shiftF 5 f) 4 : Int) = (numN (shiftF 5 f) 4 : Int) := by
    have := hm5.out
    rw [show (2 : Nat) ^ (8 * 4) = 4294967296 by decide] at this
    simp only [IntKind.wrap_u64]
    omega
  have hE0 := Lib.hid (show openE n f = if numN (shiftF 5 f) 4 ≠ n - 13 then 54 else if 16777216 < n - 13 then 54 else if numN (shiftF 9 f) 4 ≠ sumN (shiftF 13 f) (n - 13) then 55 else 0 by
    unfold openE; rw [if_neg h1, if_neg (by exact fun hh => hh hm), if_neg (by exact fun hh => hh h4)])
  clear hJ5 hR5 hcv hmk hm hb4 h4 t4 hc4 hm5 x5 x6 x3 h1
  generalize numN (shiftF 5 f) 4 = m5 at *
  by_cases h5 : m5 = n - 13
  case neg =>
    have hE := Lib.hid (show openE n f = 54 by rw [hE0.out, if_pos h5])
    have t5 : ((m5 : Int) != ((n - 13 : Nat) : Int)) = true := by rw [bne_iff_ne]; omega
    clear hE0
    go_wp2_with fail
    refine (refuse_yes _ _).mono ?_
    rintro e w' ⟨rfl, rfl⟩
    unfold fault
    go_wp2_with fail
    exact ⟨rfl, rfl, .inl ⟨by rw [hE.out]; decide, by rw [hE.out]; rfl⟩⟩
  subst h5
  have t5 : (((n - 13 : Nat) : Int) != ((n - 13 : Nat) : Int)) = false := by rw [bne_eq_false_iff_eq]
  go_wp2_with fail
  refine (refuse_no _ _).mono ?_
  rintro e w' ⟨rfl, hw⟩
  subst hw
  clear t5 w5
  by_cases h6 : 16777216 < n - 13
  case pos =>
    have hE := Lib.hid (show openE n f = 54 by rw [hE0.out, if_neg (by exact fun hh => hh rfl), if_pos h6])
    have t6 : decide (((n - 13 : Nat) : Int) > 16777216) = true := decide_eq_true (by omega)
    have t7 : decide ((16777216 : Int) < ((n - 13 : Nat) : Int)) = true := decide_eq_true (by omega)
    clear hE0 h6
    go_wp2_with fail
    refine (refuse_yes _ _).mono ?_
    rintro e w' ⟨rfl, rfl⟩
    unfold fault
    go_wp2_with fail
    exact ⟨rfl, rfl, .inl ⟨by rw [hE.out]; decide, by rw [hE.out]; rfl⟩⟩
  have t6 : decide (((n - 13 : Nat) : Int) > 16777216) = false := decide_eq_false (by omega)
  have t7 : decide ((16777216 : Int) < ((n - 13 : Nat) : Int)) = false := decide_eq_false (by omega)
  replace h6 := Lib.hid h6
  have HS := Lib.hid (fun W k (hW : Row W (some ⟨g, 0, none⟩) (n - 13) (shiftF 13 f)) => sum_any (some ⟨g, 0, none⟩) (n - 13) k (shiftF 13 f) W hW (by have := h6.out; omega))
  go_wp2_with fail
  refine (refuse_no _ _).mono ?_
  rintro e w' ⟨rfl, hw⟩
  subst hw
  clear t6 t7
  go_wp2_with fail
  refine (hJ9.out _ _ hR9.out).mono ?_
  rintro e w' ⟨rfl, hw⟩
  subst hw
  go_wp2_with fail
  refine (HS.out _ _ hR13.out).mono ?_
  rintro e w'' ⟨rfl, hw⟩
  subst hw
  clear HS hJ9 hm9
  by_cases h9 : numN (shiftF 9 f) 4 = sumN (shiftF 13 f) (n - 13)
  case neg =>
    have hE := Lib.hid (show openE n f = 55 by rw [hE0.out, if_neg (by exact fun hh => hh rfl), if_neg h6.out, if_pos h9])
    have t9 : ((numN (shiftF 9 f) 4 : Int) != (sumN (shiftF 13 f) (n - 13) : Int)) = true := by rw [bne_iff_ne]; omega
    clear hE0
    go_wp2_with fail
    refine (refuse_yes _ _).mono ?_
    rintro e w' ⟨rfl, rfl⟩
    unfold fault
    go_wp2_with fail
    exact ⟨rfl, rfl, .inl ⟨by rw [hE.out]; decide, by rw [hE.out]; rfl⟩⟩
  have hE := Lib.hid (show openE n f = 0 by rw [hE0.out, if_neg (by exact fun hh => hh rfl), if_neg h6.out, if_neg (by exact fun hh => hh h9)])
  have t9 : ((numN (shiftF 9 f) 4 : Int) != (sumN (shiftF 13 f) (n - 13) : Int)) = false := by rw [bne_eq_false_iff_eq]; omega
  clear hE0
  go_wp2_with fail
  refine (refuse_no _ _).mono ?_
  rintro e w' ⟨rfl, hw⟩
  subst hw
  go_wp2_with fail
  go_ret
  exact ⟨rfl, .inr ⟨hE.out, _, _, rfl, hR13.out, fun e => by cases e⟩⟩
end Go.Proofs.YtbdhdedlemndeaaDoor
namespace Go.Proofs.YtbdhdedlemndeaaDoor
open Go.RowKit Go.Shelf
set_option maxRecDepth 100000
set_option maxHeartbeats 1000000

theorem opened_all (g n c : Nat) (f : Nat → Nat) (w : World) (h : Row w (some ⟨g, 0, none⟩) n f) (hnc : n ≤ c) (hn : n ≤ 281474976710656) :
    Calls Tryd.prog 43 #[.slice (some ⟨g, 0, none⟩) n c] w fun e w' => w' = w ∧ ((openE n f ≠ 0 ∧ e = fault (openE n f)) ∨ (openE n f = 0 ∧ ∃ a c', e = .returned (.slice a (n - 13) c') ∧ Row w a (n - 13) (shiftF 13 f) ∧ a ≠ none)) := by
  by_cases hc : c = 13
  · subst hc
    exact opened_13 g n f w h hnc hn
  · exact opened_any g n c f w h hnc hc hn
theorem openE_n {n : Nat} {f : Nat → Nat} (h : openE n f = 0) : 13 ≤ n ∧ n - 13 ≤ 16777216 := by
  unfold openE at h
  by_cases h1 : n < 13
  · rw [if_pos h1] at h; cases h
  rw [if_neg h1] at h
  refine ⟨by omega, ?_⟩
  by_cases h2 : 16777216 < n - 13
  · exfalso
    rw [if_pos h2] at h
    repeat' split at h
    all_goals cases h
  · omega
/-- A reader's cells. -/
def readerCells (v : Value) (at_ : Nat) (ends : Nat → Nat) (op : Nat) : Array Value := #[v, .int .i64 at_,
  .int .i64 (ends 0 : Nat), .int .i64 (ends 1 : Nat), .int .i64 (ends 2 : Nat), .int .i64 (ends 3 : Nat), .int .i64 (ends 4 : Nat), .int .i64 (ends 5 : Nat), .int .i64 (ends 6 : Nat), .int .i64 (ends 7 : Nat),
  .int .i64 (ends 8 : Nat), .int .i64 (ends 9 : Nat), .int .i64 (ends 10 : Nat), .int .i64 (ends 11 : Nat), .int .i64 (ends 12 : Nat), .int .i64 (ends 13 : Nat), .int .i64 (ends 14 : Nat), .int .i64 (ends 15 : Nat), .int .i64 op]
def readerNew (v : Value) : Array Value := #[v, .int .i64 0, .int .i64 0, .int .i64 0, .int .i64 0, .int .i64 0, .int .i64 0, .int .i64 0, .int .i64 0, .int .i64 0, .int .i64 0, .int .i64 0, .int .i64 0, .int .i64 0, .int .i64 0, .int .i64 0, .int .i64 0, .int .i64 0, .int .i64 0]
theorem readerNew_eq (v : Value) : readerNew v = readerCells v 0 (fun _ => 0) 0 := rfl
theorem reader1_no {p0 p1 g n c : Nat} {f : Nat → Nat} (w : World) (h : Row w (some ⟨g, 0, none⟩) n f) (hnc : n ≤ c) (hn : n ≤ 281474976710656) (q0 : w.cell? ⟨p0, 0, none⟩ = some (.slice (some ⟨g, 0, none⟩) n c)) (hE : openE n f ≠ 0) :
    Calls Tryd.prog 41 #[.pointer (some ⟨p0, 0, none⟩), .pointer (some ⟨p1, 0, none⟩)] w fun e w' => e = fault (openE n f) ∧ w' = w := by
  have HO := opened_all g n c f w h hnc hn
  generalize openE n f = E at *
  replace HO := Lib.hid HO
  replace hE := Lib.hid hE
  clear h hnc hn
  go_enter Tryd.func41, Tryd.ntmps41
  go_wp2_with fail
  refine HO.out.mono ?_
  rintro e w' ⟨rfl, (⟨_, rfl⟩ | ⟨h0, _⟩)⟩
  · unfold fault
    go_wp2_with fail
    exact ⟨rfl, by rfl, rfl⟩
  · exact absurd h0 hE.out
theorem reader1_ok {p0 p1 g n c : Nat} {f : Nat → Nat} (w : World) (h : Row w (some ⟨g, 0, none⟩) n f) (hnc : n ≤ c) (hn : n ≤ 281474976710656) (q0 : w.cell? ⟨p0, 0, none⟩ = some (.slice (some ⟨g, 0, none⟩) n c)) (q1 : Whole w p1 51 #[.pointer none]) (hE : openE n f = 0) :
    Calls Tryd.prog 41 #[.pointer (some ⟨p0, 0, none⟩), .pointer (some ⟨p1, 0, none⟩)] w fun e w' => e = .returned (.tuple #[]) ∧
      ∃ R v, Whole w' p1 51 #[.pointer (some ⟨R, 0, none⟩)] ∧ Whole w' R 86 (readerCells v 0 (fun _ => 0) 0) ∧ Owns w' v (n - 13) (shiftF 13 f) ∧ (∀ x, v.ownBlock = some x → w.heap.size ≤ x ∧ x ≠ R) ∧ w.heap.size ≤ R ∧ w.grownBy w' (some p1) := by
  have HO := Lib.hid (opened_all g n c f w h hnc hn)
  have hb := (openE_n hE).2
  replace hE := Lib.hid hE
  have hl1 := q1.lt
  replace hn := Lib.hid hn
  replace hnc := Lib.hid hnc
  clear h
  go_enter Tryd.func41, Tryd.ntmps41
  go_wp2_with fail
  refine HO.out.mono ?_
  rintro e w' ⟨rfl, (⟨h0, _⟩ | ⟨_, a, c', rfl, hR, ha⟩)⟩
  · exact absurd hE.out h0
  have HC := Lib.hid (clone_any a (n - 13) c' _ w' hR (by omega) (fun e => absurd e ha))
  clear HO hR ha
  replace hb := Lib.hid hb
  go_wp2_with fail
  refine HC.out.mono ?_
  rintro e w2 ⟨v, rfl, hOw, hv, hB⟩
  clear HC
  obtain ⟨a2, c2, rfl, hR2⟩ := hOw.row
  have hB3 := hB.alloc hB.size (.cells (readerNew (.slice a2 (n - 13) c2)) 86)
  have hRd := Whole.fresh w2 86 (readerNew (.slice a2 (n - 13) c2))
  have hO3 := hOw.below (Below.alloc (Below.refl w2.heap.size w2) (Nat.le_refl _) (.cells (readerNew (.slice a2 (n - 13) c2)) 86))
  have hq3 := q1.below hB3 hl1
  have hws := hB.size
  have hol := hOw.lt
  obtain ⟨W, hW⟩ : ∃ W, W = w2.alloc (.cells (readerNew (.slice a2 (n - 13) c2)) 86) := ⟨_, rfl⟩
  rw [← hW] at hB3 hRd hO3 hq3
  unfold readerNew at hW
  have c1 := hq3.cell 0
  have f1 := hq3.free 0
  simp only [List.getElem?_toArray, List.getElem?_cons_zero] at c1
  rw [hW] at c1 f1
  clear hOw hR2 hB q0 q1
  replace hB3 := Lib.hid hB3
  replace hRd := Lib.hid hRd
  replace hO3 := Lib.hid hO3
  replace hq3 := Lib.hid hq3
  replace hW := Lib.hid hW
  go_wp2_with fail
  rw [← hW.out]
  go_end0
  have hR2 : w2.heap.size ≠ p1 := by omega
  have hvx : (Value.slice a2 (n - 13) c2).ownBlock ≠ some p1 := fun e => by have := hv _ e; omega
  refine ⟨rfl, w2.heap.size, _, hq3.out.put 0 _, (hRd.out.away (p := ⟨p1, 0, none⟩) hR2 _).as (readerNew_eq _), hO3.out.away hvx 0 _, fun x hx => ⟨hv x hx, by have := hol x hx; omega⟩, hws, only_set (Below.only hB3.out p1) 0 _⟩
theorem newReader_no {g n c : Nat} {f : Nat → Nat} (w : World) (h : Row w (some ⟨g, 0, none⟩) n f) (hnc : n ≤ c) (hn : n ≤ 281474976710656) (hE : openE n f ≠ 0) :
    Calls Tryd.prog 23 #[.slice (some ⟨g, 0, none⟩) n c] w fun e w' => e = .returned (.tuple #[.pointer none, .int .i64 (openE n f : Nat)]) ∧ Below w.heap.size w w' := by
  have hmf := makeF
  have hP := (Whole.fresh w 46 #[.slice (some ⟨g, 0, none⟩) n c]).alloc (.cells #[.pointer none] 51)
  have hS := Whole.fresh (w.alloc (.cells #[.slice (some ⟨g, 0, none⟩) n c] 46)) 51 #[.pointer none]
  have hB := ((Below.refl w.heap.size w).alloc (Nat.le_refl _) (.cells #[.slice (some ⟨g, 0, none⟩) n c] 46)).alloc (by simp) (.cells #[.pointer none] 51)
  have hR0 := Lib.hid (h.below hB)
  have hd := Lib.hid (fun W (hW : Row W (some ⟨g, 0, none⟩) n f) p0 p1 q0 => reader1_no (p0 := p0) (p1 := p1) W hW hnc hn q0 hE)
  generalize openE n f = E at *
  clear h hnc hn
  go_enter Tryd.func23, Tryd.ntmps23
  go_wp2_with fail
  generalize (w.alloc (.cells #[.slice (some ⟨g, 0, none⟩) n c] 46)).alloc (.cells #[.pointer none] 51) = W at *
  have hs1 : (w.alloc (.cells #[.slice (some ⟨g, 0, none⟩) n c] 46)).heap.size = w.heap.size + 1 := by simp
  rw [hs1] at hS
  have hPl := hP.lt
  have hSl := hS.lt
  refine (attempt_any (k := 41) W (fun _ => False) (fun c V => c = (E : Int) ∧ Below (W.heap.size + 1) (W.alloc (.cells #[.int .i64 0] 40)) V) (enters_of Tryd.func41 (by kernel_rfl) rfl)
    ((hd.out _ (hR0.out.below ((Below.refl _ W).alloc (Nat.le_refl _) _)) _ _ (by rw [(hP.alloc _).cell 0]; rfl)).mono ?_)).mono ?_
  · rintro e w' ⟨rfl, rfl⟩
    exact ⟨Whole.fresh W _ _, .inr ⟨E, rfl, rfl, Below.refl _ _⟩⟩
  rintro e w' (⟨_, V, hF, _⟩ | ⟨c, V, rfl, ⟨rfl, hb⟩, rfl⟩)
  · exact hF.elim
  have hbs : W.heap.size + 1 ≤ V.heap.size := by have := hb.size; simp at this; omega
  have hS2 := (((hS.alloc (.cells #[.int .i64 0] 40)).below hb (by omega)).alloc (.cells #[.int .i64 (E : Nat)] 96)).away (p := ⟨W.heap.size, 0, none⟩) (by simp; omega) (.int .i64 (E : Nat))
  have hB2 := (((hB.alloc (by omega) (.cells #[.int .i64 0] 40)).trans (hb.mono (by omega))).alloc (by omega) (.cells #[.int .i64 (E : Nat)] 96)).setCell (p := ⟨W.heap.size, 0, none⟩) (by simp; omega) (.int .i64 (E : Nat))
  have h0 := hS2.cell 0
  simp only [List.getElem?_toArray, List.getElem?_cons_zero] at h0
  generalize (V.alloc (.cells #[.int .i64 (E : Nat)] 96)).setCell ⟨W.heap.size, 0, none⟩ (.int .i64 (E : Nat)) = W2 at *
  clear hmf hP hS hB hs1 hS2 hd hR0 hb
  go_wp2_with fail
  go_ret2
  exact ⟨rfl, hB2⟩
theorem newReader_ok {g n c : Nat} {f : Nat → Nat} (w : World) (h : Row w (some ⟨g, 0, none⟩) n f) (hnc : n ≤ c) (hn : n ≤ 281474976710656) (hE : openE n f = 0) :
    Calls Tryd.prog 23 #[.slice (some ⟨g, 0, none⟩) n c] w fun e w' => ∃ R v, e = .returned (.tuple #[.pointer (some ⟨R, 0, none⟩), .int .i64 0]) ∧
      Whole w' R 86 (readerCells v 0 (fun _ => 0) 0) ∧ Owns w' v (n - 13) (shiftF 13 f) ∧ (∀ x, v.ownBlock = some x → w.heap.size ≤ x ∧ x ≠ R) ∧ w.heap.size ≤ R ∧ Below w.heap.size w w' := by
  have hmf := makeF
  have hP := (Whole.fresh w 46 #[.slice (some ⟨g, 0, none⟩) n c]).alloc (.cells #[.pointer none] 51)
  have hS := Whole.fresh (w.alloc (.cells #[.slice (some ⟨g, 0, none⟩) n c] 46)) 51 #[.pointer none]
  have hB := ((Below.refl w.heap.size w).alloc (Nat.le_refl _) (.cells #[.slice (some ⟨g, 0, none⟩) n c] 46)).alloc (by simp) (.cells #[.pointer none] 51)
  have hR0 := Lib.hid (h.below hB)
  have hd := Lib.hid (fun W (hW : Row W (some ⟨g, 0, none⟩) n f) p0 p1 q0 q1 => reader1_ok (p0 := p0) (p1 := p1) W hW hnc hn q0 q1 hE)
  clear h hnc hn hE
  go_enter Tryd.func23, Tryd.ntmps23
  go_wp2_with fail
  generalize (w.alloc (.cells #[.slice (some ⟨g, 0, none⟩) n c] 46)).alloc (.cells #[.pointer none] 51) = W at *
  have hs1 : (w.alloc (.cells #[.slice (some ⟨g, 0, none⟩) n c] 46)).heap.size = w.heap.size + 1 := by simp
  rw [hs1] at hS
  have hPl := hP.lt
  have hSl := hS.lt
  refine (attempt_any (k := 41) W (fun V => ∃ R v, Whole V (w.heap.size + 1) 51 #[.pointer (some ⟨R, 0, none⟩)] ∧ Whole V R 86 (readerCells v 0 (fun _ => 0) 0) ∧ Owns V v (n - 13) (shiftF 13 f) ∧ (∀ x, v.ownBlock = some x → W.heap.size + 1 ≤ x ∧ x ≠ R) ∧ W.heap.size + 1 ≤ R ∧ Below w.heap.size w V)
    (fun c V => False) (enters_of Tryd.func41 (by kernel_rfl) rfl)
    ((hd.out _ (hR0.out.below ((Below.refl _ W).alloc (Nat.le_refl _) _)) w.heap.size (w.heap.size + 1) (by rw [(hP.alloc _).cell 0]; rfl) (hS.alloc _)).mono ?_)).mono ?_
  · rintro e w' ⟨rfl, R, v, h1, h2, h3, h4, h5, h6⟩
    rw [World.size_alloc] at h4 h5
    refine ⟨(Whole.fresh W _ _).only h6 (by omega), .inl ⟨rfl, R, v, h1, h2, h3, h4, h5, ?_⟩⟩
    exact (hB.alloc (by omega) (.cells #[.int .i64 0] 40)).trans (Below.mono (below_grown h6 (by simp; omega)) (by omega))
  rintro e w' (⟨rfl, V, ⟨R, v, h1, h2, h3, h4, h5, h6⟩, rfl⟩ | ⟨_, V, _, hF, _⟩)
  · have h7 := h1.away (p := ⟨W.heap.size, 0, none⟩) (by simp; omega) (.int .i64 0)
    have h8 := h2.away (p := ⟨W.heap.size, 0, none⟩) (by simp; omega) (.int .i64 0)
    have h9 := h3.away (x := W.heap.size) (fun e => by have := (h4 _ e).1; omega) 0 (.int .i64 0)
    have hB2 := h6.setCell (p := ⟨W.heap.size, 0, none⟩) (by simp; omega) (.int .i64 0)
    have h0 := h7.cell 0
    simp only [List.getElem?_toArray, List.getElem?_cons_zero] at h0
    generalize V.setCell ⟨W.heap.size, 0, none⟩ (.int .i64 0) = W2 at *
    have hGl : w.heap.size ≤ R := by omega
    have h10 : ∀ x, v.ownBlock = some x → w.heap.size ≤ x ∧ x ≠ R := fun x hx => ⟨by have := (h4 x hx).1; omega, (h4 x hx).2⟩
    replace h8 := Lib.hid h8
    replace h10 := Lib.hid h10
    clear hmf hP hS hB hs1 hd hR0 h1 h2 h3 h4 h5 h6 h7
    go_wp2_with fail
    go_ret2
    exact ⟨R, v, rfl, h8.out, h9, h10.out, hGl, hB2⟩
  · exact hF.elim
end Go.Proofs.YtbdhdedlemndeaaDoor
namespace Go.Proofs.YtbdhdedlemndeaaDoor
open Go.RowKit Go.Shelf
set_option maxRecDepth 100000
set_option maxHeartbeats 1000000

def St.new : St := ⟨0, fun _ => 0, fun _ => 0, 0, 0⟩
/-- A writer of its own, made since w. -/
structure Live (B : Nat) (w W : World) (b : Nat) (v : Value) (s : St) : Prop where
  wr : Wr W b v s
  lb : B ≤ b
  lv : ∀ x, v.ownBlock = some x → B ≤ x
  bel : Below B w W
  le : B ≤ w.heap.size
theorem Live.step {B : Nat} {w W W' : World} {b : Nat} {v v' : Value} {s s' : St} (h : Live B w W b v s) (h1 : Wr W' b v' s') (h2 : Only2 b v.ownBlock W W') (h3 : NewOwn v v' W) : Live B w W' b v' s' :=
  ⟨h1, h.lb, fun x hx => by
    rcases h3 with h3 | h3
    · exact h.lv x (by rw [← h3]; exact hx)
    · exact Nat.le_trans (Nat.le_trans h.le h.bel.size) (h3 x hx), Only2.below h.bel h2 h.lb h.lv (Nat.le_trans h.le h.bel.size), h.le⟩
theorem Live.below {B : Nat} {w W W' : World} {b : Nat} {v : Value} {s : St} (h : Live B w W b v s) (hb : Below W.heap.size W W') : Live B w W' b v s :=
  ⟨h.wr.below hb, h.lb, h.lv, h.bel.trans (hb.mono (Nat.le_trans h.le h.bel.size)), h.le⟩
theorem newWriter (B : Nat) (w W : World) (hB : Below B w W) (hl : B ≤ w.heap.size) : Calls Tryd.prog 35 #[] W fun e W' => ∃ b, e = .returned (.pointer (some ⟨b, 0, none⟩)) ∧ Live B w W' b (.slice none 0 0) St.new := by
  have hW := Whole.fresh W 92 #[.slice none 0 0, .int .i64 0, .int .i64 0, .int .i64 0, .int .i64 0, .int .i64 0, .int .i64 0, .int .i64 0, .int .i64 0, .int .i64 0, .int .i64 0, .int .i64 0, .int .i64 0, .int .i64 0, .int .i64 0, .int .i64 0, .int .i64 0, .int .i64 0, .int .i64 0]
  have hB2 := hB.alloc (Nat.le_trans hl hB.size) (.cells #[.slice none 0 0, .int .i64 0, .int .i64 0, .int .i64 0, .int .i64 0, .int .i64 0, .int .i64 0, .int .i64 0, .int .i64 0, .int .i64 0, .int .i64 0, .int .i64 0, .int .i64 0, .int .i64 0, .int .i64 0, .int .i64 0, .int .i64 0, .int .i64 0, .int .i64 0] 92)
  have hfin : Live B w _ W.heap.size (.slice none 0 0) St.new := ⟨⟨⟨⟨_, hW, rfl, rfl, fun i hi => by
    rcases (show i = 0 ∨ i = 1 ∨ i = 2 ∨ i = 3 ∨ i = 4 ∨ i = 5 ∨ i = 6 ∨ i = 7 ∨ i = 8 ∨ i = 9 ∨ i = 10 ∨ i = 11 ∨ i = 12 ∨ i = 13 ∨ i = 14 ∨ i = 15 by omega) with rfl | rfl | rfl | rfl | rfl | rfl | rfl | rfl | rfl | rfl | rfl | rfl | rfl | rfl | rfl | rfl <;> rfl, rfl, rfl⟩⟩, Owns.none _ _, by simp [Value.ownBlock], ⟨Nat.zero_le _, Nat.zero_le _, fun i hi => absurd hi (Nat.not_lt_zero _)⟩⟩, Nat.le_trans hl hB.size, fun x hx => by simp [Value.ownBlock] at hx, hB2, hl⟩
  clear hW hB2
  replace hfin := Lib.hid hfin
  go_enter Tryd.func35, Tryd.ntmps35
  go_wp2_with fail
  go_ret
  exact ⟨_, rfl, hfin.out⟩
def St.sm : St :=
  let s1 := St.new.when (St.new.putW 1 (byteAt 7))
  let s2 := s1.when (s1.openW 9)
  let s3 := s2.when (s2.putW 2 (byteAt 258))
  s3.when s3.closeW
theorem sm_n : St.sm.n = 8 := by decide +kernel
theorem sm_e : St.sm.doneE = 0 := by decide +kernel
theorem sm_f : headF 8 St.sm.f 13 = 7 ∧ headF 8 St.sm.f 14 = 9 ∧ headF 8 St.sm.f 15 = 2 ∧ headF 8 St.sm.f 19 = 2 ∧ headF 8 St.sm.f 20 = 1 := by decide +kernel
end Go.Proofs.YtbdhdedlemndeaaDoor
