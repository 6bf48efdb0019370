/-
  A reader stays good; the document's Body.
-/
import Derived.Test.YtacnmnodbmbplaaRTakesM
import Derived.Deep.DeepCutAuto
import Derived.BigQuiet
import Derived.Test.YtacnmnodbmbplaaOpenPuts
namespace Go.Proofs.Ytacnmnodbmbplaa
open Go.RowKit Go.Shelf
set_option maxRecDepth 100000
set_option maxHeartbeats 1000000
set_option linter.unusedVariables false

theorem opened_good {s : RS} (h : s.Good) {X : Nat} (ho : s.op ≠ 16) (hz : ¬ s.left < 5) (hm : ¬ s.left - 5 < X) : (RS.mk s.n s.f (s.at_ + 5) (s.op + 1) (upd s.ends s.op (s.at_ + 5 + X))).Good := by
  have h1 := h.op
  have h2 := h.le
  have hL : s.left = s.endN - s.at_ := rfl
  have hfit : s.at_ + 5 + X ≤ s.endN := by omega
  have hend := h.end_le
  have hE : ∀ i, i < s.op → s.endN ≤ s.ends i := fun i hi => by
    have h0 : ¬ s.op = 0 := by omega
    have e : s.endN = s.ends (s.op - 1) := if_neg h0
    rw [e]
    exact h.mono i (s.op - 1) (by omega) (by omega)
  refine ⟨by show s.op + 1 ≤ 16; omega, h.n, ?_, fun i j hij hj => ?_, fun i hi => ?_⟩
  · have e : (RS.mk s.n s.f (s.at_ + 5) (s.op + 1) (upd s.ends s.op (s.at_ + 5 + X))).endN = s.at_ + 5 + X := by
      unfold RS.endN
      rw [if_neg (Nat.succ_ne_zero _)]
      show upd s.ends s.op (s.at_ + 5 + X) (s.op + 1 - 1) = _
      rw [Nat.add_sub_cancel]
      exact if_pos rfl
    rw [e]
    exact Nat.le_add_right _ _
  · have hj : j < s.op + 1 := hj
    show upd s.ends s.op (s.at_ + 5 + X) j ≤ upd s.ends s.op (s.at_ + 5 + X) i
    unfold upd
    by_cases hj2 : j = s.op
    · rw [if_pos hj2]
      by_cases hi2 : i = s.op
      · rw [if_pos hi2]; exact Nat.le_refl _
      · rw [if_neg hi2]; exact Nat.le_trans hfit (hE i (by omega))
    · rw [if_neg hj2, if_neg (by omega)]
      exact h.mono i j hij (by omega)
  · have hi : i < s.op + 1 := hi
    show upd s.ends s.op (s.at_ + 5 + X) i ≤ s.n
    unfold upd
    by_cases hi2 : i = s.op
    · rw [if_pos hi2]; exact Nat.le_trans hfit hend
    · rw [if_neg hi2]; exact h.bnd i (by omega)
theorem closed_good {s : RS} (h : s.Good) (ho : s.op ≠ 0) (hl : ¬ 0 < s.left) : s.closed.Good := by
  have h1 := h.op
  have h2 := h.le
  have hL : s.left = s.endN - s.at_ := rfl
  refine ⟨by show s.op - 1 ≤ 16; omega, h.n, ?_, fun i j hij hj => h.mono i j hij (by have hj : j < s.op - 1 := hj; omega), fun i hi => h.bnd i (by have hi : i < s.op - 1 := hi; omega)⟩
  show s.at_ ≤ s.closed.endN
  have e : s.endN = s.ends (s.op - 1) := if_neg ho
  by_cases h0 : s.op - 1 = 0
  · have e2 : s.closed.endN = s.n := if_pos h0
    rw [e2]
    exact Nat.le_trans h2 h.end_le
  · have e2 : s.closed.endN = s.ends (s.op - 1 - 1) := if_neg h0
    rw [e2]
    have := h.mono (s.op - 1 - 1) (s.op - 1) (by omega) (by omega)
    rw [e] at h2
    exact Nat.le_trans h2 this
theorem bytes_good {s : RS} (h : s.Good) {X : Nat} (hz : ¬ s.left < 4) (ht : ¬ s.left - 4 < X) : ((s.adv 4).adv X).Good :=
  (h.adv (Nat.le_of_not_lt hz)).adv (by rw [RS.adv_left]; exact Nat.le_of_not_lt ht)
theorem stepN_good {s : RS} (h : s.Good) (z : Nat) : (s.stepN z).s.Good := by
  unfold RS.stepN
  by_cases hz : s.left < z
  · rw [if_pos hz]; exact h
  · rw [if_neg hz]; exact h.adv (Nat.le_of_not_lt hz)
theorem flag_good {s : RS} (h : s.Good) : (if s.flagE = 0 then s.adv 1 else s).Good := by
  by_cases hE : s.flagE = 0
  · rw [if_pos hE]
    refine h.adv (Nat.le_of_not_lt fun hz => ?_)
    unfold RS.flagE at hE
    rw [if_pos hz] at hE
    cases hE
  · rw [if_neg hE]; exact h
theorem byt_good {s : RS} (h : s.Good) (n : Int) : (if s.bytesE n = 0 then s.bytesS else s).Good := by
  by_cases hE : s.bytesE n = 0
  · rw [if_pos hE]
    unfold RS.bytesE at hE
    by_cases hz : s.left < 4
    · rw [if_pos hz] at hE; cases hE
    · by_cases hm : n < (s.num 4 : Nat)
      · rw [if_neg hz, if_pos hm] at hE; cases hE
      · by_cases ht : s.left - 4 < s.num 4
        · rw [if_neg hz, if_neg hm, if_pos ht] at hE; cases hE
        · exact bytes_good h hz ht
  · rw [if_neg hE]; exact h
theorem ope_good {s : RS} (h : s.Good) (t : Nat) : (if s.openE t = 0 then s.opened else s).Good := by
  by_cases hE : s.openE t = 0
  · rw [if_pos hE]
    unfold RS.openE at hE
    by_cases ho : s.op = 16
    · rw [if_pos ho] at hE; cases hE
    · by_cases hz : s.left < 5
      · rw [if_neg ho, if_pos hz] at hE; cases hE
      · by_cases ht : s.f s.at_ ≠ t
        · rw [if_neg ho, if_neg hz, if_pos ht] at hE; cases hE
        · by_cases hm : s.left - 5 < (s.adv 1).num 4
          · rw [if_neg ho, if_neg hz, if_neg ht, if_pos hm] at hE; cases hE
          · exact opened_good h ho hz hm
  · rw [if_neg hE]; exact h
theorem clo_good {s : RS} (h : s.Good) : (if s.closeE = 0 then s.closed else s).Good := by
  by_cases hE : s.closeE = 0
  · rw [if_pos hE]
    unfold RS.closeE at hE
    by_cases ho : s.op = 0
    · rw [if_pos ho] at hE; cases hE
    · by_cases hl : 0 < s.left
      · rw [if_neg ho, if_pos hl] at hE; cases hE
      · exact closed_good h ho hl
  · rw [if_neg hE]; exact h
theorem step_good {s : RS} (h : s.Good) (what n : Int) : (s.step what n).s.Good := by
  rcases what_ways what with rfl | rfl | rfl | rfl | rfl | rfl | rfl | ⟨t0, t1, t2, t3, t4, t5, t6⟩
  · exact stepN_good h 1
  · exact stepN_good h 2
  · exact stepN_good h 4
  · exact stepN_good h 8
  · exact flag_good h
  · exact byt_good h n
  · exact ope_good h _
  · rw [step_close s what n t0 t1 t2 t3 t4 t5 t6]
    exact clo_good h
end Go.Proofs.Ytacnmnodbmbplaa
namespace Go.Proofs.Ytacnmnodbmbplaa
open Go.RowKit Go.Shelf
set_option maxRecDepth 100000
set_option maxHeartbeats 1000000
set_option linter.unusedVariables false

theorem row13 {w : World} {a : Option Addr} {n : Nat} {f : Nat → Nat} (h : Row w a n f) (hn : ¬ n < 13) : ∃ bb bo, a = some ⟨bb, bo, none⟩ ∧ bb < w.heap.size ∧ ∀ i, i < 13 → w.cell? ⟨bb, bo + i, none⟩ = some (.int .u8 (f i : Nat)) := by
  rcases h.2 with h0 | ⟨bb, bo, e, hbb, hc⟩
  · omega
  · exact ⟨bb, bo, e, hbb, fun i hi => hc i (by omega)⟩
theorem ne_true {x y : Nat} (h : x ≠ y) : ((x : Int) != (y : Int)) = true := by rw [bne_iff_ne]; omega
theorem len_facts {n c : Nat} (h : ¬ n < 13) (hc : n ≤ c) (hn : n ≤ 281474976710656) : decide ((n : Int) < 13) = false ∧ ¬ (n : Int) < 13 ∧ (0 : Int) < (n : Int) ∧ (1 : Int) < (n : Int) ∧ (2 : Int) < (n : Int) ∧ (3 : Int) < (n : Int) ∧ (4 : Int) < (n : Int) ∧ (9 : Int) ≤ (c : Int) ∧ (13 : Int) ≤ (c : Int) ∧ (n : Int) ≤ (c : Int) ∧ ¬ c = 5 ∧ ¬ c = 9 ∧
    wrap64 ((n : Int) - 13) = ((n - 13 : Nat) : Int) ∧ IntKind.i64.wrap ((n : Int) - 13) = ((n - 13 : Nat) : Int) ∧ IntKind.u64.wrap ((n - 13 : Nat) : Int) = ((n - 13 : Nat) : Int) ∧ (13 : Int) ≤ (n : Int) ∧ 9 ≤ c ∧ 13 ≤ c ∧ 13 ≤ n ∧ n ≤ c :=
  ⟨decide_eq_false (by omega), by omega, by omega, by omega, by omega, by omega, by omega, by omega, by omega, by omega, by omega, by omega, by unfold wrap64; omega, by simp only [IntKind.wrap_i64]; omega, by simp only [IntKind.wrap_u64]; omega, by omega, by omega, by omega, by omega, hc⟩
theorem rbody_51 {a : Option Addr} {n c : Nat} {f : Nat → Nat} (w : World) (hn : n < 13) :
    Calls Try.prog 17 #[.slice a n c] w fun e w' => e = .returned (.tuple #[.slice none 0 0, .int .i64 51]) ∧ ∃ q, w' = w.drewN q := by
  have i1 : decide ((n : Int) < 13) = true := decide_eq_true (by omega)
  have i2 : (n : Int) < 13 := by omega
  go_enter Try.func17, Try.ntmps17
  go_wp2_with fail
  go_ret2
  exact ⟨rfl, 0, rfl⟩
theorem rbody_52a {a : Option Addr} {n c : Nat} {f : Nat → Nat} (w : World) (h : Row w a n f) (hnc : n ≤ c) (hn : n ≤ 281474976710656) (h13 : ¬ n < 13) (h0 : f 0 ≠ 76) :
    Calls Try.prog 17 #[.slice a n c] w fun e w' => e = .returned (.tuple #[.slice none 0 0, .int .i64 52]) ∧ ∃ q, w' = w.drewN q := by
  have ⟨i1, i2, i3, i4, i5, i6, i7, i8, i9, i10, i11, i12, i13, i14, i15, i16, i17, i18, i19, i20⟩ := len_facts h13 hnc hn
  obtain ⟨bb, bo, rfl, hbb, hc⟩ := row13 h h13
  have b0 := hc 0 (by decide)
  have b1 := hc 1 (by decide)
  have b2 := hc 2 (by decide)
  have b3 := hc 3 (by decide)
  have b4 := hc 4 (by decide)
  rw [Nat.add_zero] at b0
  have t1 : (((f 0 : Nat) : Int) != 76) = true := ne_true h0
  clear hc h
  generalize f 0 = x at *
  go_enter Try.func17, Try.ntmps17
  go_wp2_with fail
  go_ret2
  exact ⟨rfl, 0, rfl⟩
theorem rbody_52b {a : Option Addr} {n c : Nat} {f : Nat → Nat} (w : World) (h : Row w a n f) (hnc : n ≤ c) (hn : n ≤ 281474976710656) (h13 : ¬ n < 13) (h0 : f 0 = 76) (h1 : f 1 ≠ 65) :
    Calls Try.prog 17 #[.slice a n c] w fun e w' => e = .returned (.tuple #[.slice none 0 0, .int .i64 52]) ∧ ∃ q, w' = w.drewN q := by
  have ⟨i1, i2, i3, i4, i5, i6, i7, i8, i9, i10, i11, i12, i13, i14, i15, i16, i17, i18, i19, i20⟩ := len_facts h13 hnc hn
  obtain ⟨bb, bo, rfl, hbb, hc⟩ := row13 h h13
  have b0 := hc 0 (by decide)
  have b1 := hc 1 (by decide)
  have b2 := hc 2 (by decide)
  have b3 := hc 3 (by decide)
  have b4 := hc 4 (by decide)
  rw [Nat.add_zero] at b0
  rw [h0] at b0
  have t1 : (((f 1 : Nat) : Int) != 65) = true := ne_true h1
  clear hc h
  generalize f 1 = x at *
  go_enter Try.func17, Try.ntmps17
  go_wp2_with fail
  go_ret2
  exact ⟨rfl, 0, rfl⟩
theorem rbody_52c {a : Option Addr} {n c : Nat} {f : Nat → Nat} (w : World) (h : Row w a n f) (hnc : n ≤ c) (hn : n ≤ 281474976710656) (h13 : ¬ n < 13) (h0 : f 0 = 76) (h1 : f 1 = 65) (h2 : f 2 ≠ 78) :
    Calls Try.prog 17 #[.slice a n c] w fun e w' => e = .returned (.tuple #[.slice none 0 0, .int .i64 52]) ∧ ∃ q, w' = w.drewN q := by
  have ⟨i1, i2, i3, i4, i5, i6, i7, i8, i9, i10, i11, i12, i13, i14, i15, i16, i17, i18, i19, i20⟩ := len_facts h13 hnc hn
  obtain ⟨bb, bo, rfl, hbb, hc⟩ := row13 h h13
  have b0 := hc 0 (by decide)
  have b1 := hc 1 (by decide)
  have b2 := hc 2 (by decide)
  have b3 := hc 3 (by decide)
  have b4 := hc 4 (by decide)
  rw [Nat.add_zero] at b0
  rw [h0] at b0
  rw [h1] at b1
  have t1 : (((f 2 : Nat) : Int) != 78) = true := ne_true h2
  clear hc h
  generalize f 2 = x at *
  go_enter Try.func17, Try.ntmps17
  go_wp2_with fail
  go_ret2
  exact ⟨rfl, 0, rfl⟩
theorem rbody_52d {a : Option Addr} {n c : Nat} {f : Nat → Nat} (w : World) (h : Row w a n f) (hnc : n ≤ c) (hn : n ≤ 281474976710656) (h13 : ¬ n < 13) (h0 : f 0 = 76) (h1 : f 1 = 65) (h2 : f 2 = 78) (h3 : f 3 ≠ 84) :
    Calls Try.prog 17 #[.slice a n c] w fun e w' => e = .returned (.tuple #[.slice none 0 0, .int .i64 52]) ∧ ∃ q, w' = w.drewN q := by
  have ⟨i1, i2, i3, i4, i5, i6, i7, i8, i9, i10, i11, i12, i13, i14, i15, i16, i17, i18, i19, i20⟩ := len_facts h13 hnc hn
  obtain ⟨bb, bo, rfl, hbb, hc⟩ := row13 h h13
  have b0 := hc 0 (by decide)
  have b1 := hc 1 (by decide)
  have b2 := hc 2 (by decide)
  have b3 := hc 3 (by decide)
  have b4 := hc 4 (by decide)
  rw [Nat.add_zero] at b0
  rw [h0] at b0
  rw [h1] at b1
  rw [h2] at b2
  have t1 : (((f 3 : Nat) : Int) != 84) = true := ne_true h3
  clear hc h
  generalize f 3 = x at *
  go_enter Try.func17, Try.ntmps17
  go_wp2_with fail
  go_ret2
  exact ⟨rfl, 0, rfl⟩
theorem rbody_53 {a : Option Addr} {n c : Nat} {f : Nat → Nat} (w : World) (h : Row w a n f) (hnc : n ≤ c) (hn : n ≤ 281474976710656) (h13 : ¬ n < 13) (h0 : f 0 = 76) (h1 : f 1 = 65) (h2 : f 2 = 78) (h3 : f 3 = 84) (h4 : f 4 ≠ 1) :
    Calls Try.prog 17 #[.slice a n c] w fun e w' => e = .returned (.tuple #[.slice none 0 0, .int .i64 53]) ∧ ∃ q, w' = w.drewN q := by
  have ⟨i1, i2, i3, i4, i5, i6, i7, i8, i9, i10, i11, i12, i13, i14, i15, i16, i17, i18, i19, i20⟩ := len_facts h13 hnc hn
  obtain ⟨bb, bo, rfl, hbb, hc⟩ := row13 h h13
  have b0 := hc 0 (by decide)
  have b1 := hc 1 (by decide)
  have b2 := hc 2 (by decide)
  have b3 := hc 3 (by decide)
  have b4 := hc 4 (by decide)
  rw [Nat.add_zero] at b0
  rw [h0] at b0
  rw [h1] at b1
  rw [h2] at b2
  rw [h3] at b3
  have t1 : (((f 4 : Nat) : Int) != 1) = true := ne_true h4
  clear hc h
  generalize f 4 = x at *
  go_enter Try.func17, Try.ntmps17
  go_wp2_with fail
  go_ret2
  exact ⟨rfl, 0, rfl⟩
theorem rbody_54a {a : Option Addr} {n c : Nat} {f : Nat → Nat} (w : World) (h : Row w a n f) (hnc : n ≤ c) (hn : n ≤ 281474976710656) (h13 : ¬ n < 13) (h0 : f 0 = 76) (h1 : f 1 = 65) (h2 : f 2 = 78) (h3 : f 3 = 84) (h4 : f 4 = 1) (X Y : Nat) (hX : numN (shiftF 5 f) 4 = X) (hx : X ≠ n - 13) :
    Calls Try.prog 17 #[.slice a n c] w fun e w' => e = .returned (.tuple #[.slice none 0 0, .int .i64 54]) ∧ ∃ q, w' = w.drewN q := by
  have ⟨i1, i2, i3, i4, i5, i6, i7, i8, i9, i10, i11, i12, i13, i14, i15, i16, i17, i18, i19, i20⟩ := len_facts h13 hnc hn
  obtain ⟨bb, bo, rfl, hbb, hc⟩ := row13 h h13
  have b0 := hc 0 (by decide)
  have b1 := hc 1 (by decide)
  have b2 := hc 2 (by decide)
  have b3 := hc 3 (by decide)
  have b4 := hc 4 (by decide)
  rw [Nat.add_zero] at b0
  rw [h0] at b0
  rw [h1] at b1
  rw [h2] at b2
  rw [h3] at b3
  rw [h4] at b4
  have hR5 := Lib.hid (Row.shift h 5 4 (by omega))
  have HN5 := (fun W (hW : Row W (some ⟨bb, bo + 5, none⟩) 4 (shiftF 5 f)) => rnumber_any (some ⟨bb, bo + 5, none⟩) 4 (c - 5) (shiftF 5 f) W hW (by decide))
  rw [hX] at HN5
  replace HN5 := Lib.hid HN5
  clear hX
  have t1 : ((X : Int) != ((n - 13 : Nat) : Int)) = true := ne_true hx
  clear h
  clear hc
  go_enter Try.func17, Try.ntmps17
  go_wp2_with fail
  refine (HN5.out _ hR5.out).mono ?_
  rintro e W1 ⟨rfl, rfl⟩
  go_wp2_with fail
  go_ret2
  exact ⟨rfl, 0, rfl⟩
theorem rbody_54b {a : Option Addr} {n c : Nat} {f : Nat → Nat} (w : World) (h : Row w a n f) (hnc : n ≤ c) (hn : n ≤ 281474976710656) (h13 : ¬ n < 13) (h0 : f 0 = 76) (h1 : f 1 = 65) (h2 : f 2 = 78) (h3 : f 3 = 84) (h4 : f 4 = 1) (X Y : Nat) (hX : numN (shiftF 5 f) 4 = X) (hx : X = n - 13) (hl : 16777216 < n - 13) :
    Calls Try.prog 17 #[.slice a n c] w fun e w' => e = .returned (.tuple #[.slice none 0 0, .int .i64 54]) ∧ ∃ q, w' = w.drewN q := by
  have ⟨i1, i2, i3, i4, i5, i6, i7, i8, i9, i10, i11, i12, i13, i14, i15, i16, i17, i18, i19, i20⟩ := len_facts h13 hnc hn
  obtain ⟨bb, bo, rfl, hbb, hc⟩ := row13 h h13
  have b0 := hc 0 (by decide)
  have b1 := hc 1 (by decide)
  have b2 := hc 2 (by decide)
  have b3 := hc 3 (by decide)
  have b4 := hc 4 (by decide)
  rw [Nat.add_zero] at b0
  rw [h0] at b0
  rw [h1] at b1
  rw [h2] at b2
  rw [h3] at b3
  rw [h4] at b4
  have hR5 := Lib.hid (Row.shift h 5 4 (by omega))
  have HN5 := (fun W (hW : Row W (some ⟨bb, bo + 5, none⟩) 4 (shiftF 5 f)) => rnumber_any (some ⟨bb, bo + 5, none⟩) 4 (c - 5) (shiftF 5 f) W hW (by decide))
  rw [hX] at HN5
  replace HN5 := Lib.hid HN5
  clear hX
  have t1 : ((X : Int) != ((n - 13 : Nat) : Int)) = false := by rw [hx]; exact bne_self_eq_false _
  have t2 : decide (((n - 13 : Nat) : Int) > 16777216) = true := decide_eq_true (by omega)
  have t3 : 16777216 < n - 13 := hl
  clear h
  clear hc
  go_enter Try.func17, Try.ntmps17
  go_wp2_with fail
  refine (HN5.out _ hR5.out).mono ?_
  rintro e W1 ⟨rfl, rfl⟩
  go_wp2_with fail
  go_ret2
  exact ⟨rfl, 0, rfl⟩
end Go.Proofs.Ytacnmnodbmbplaa
namespace Go.Proofs.Ytacnmnodbmbplaa
open Go.RowKit Go.Shelf
set_option maxRecDepth 100000
set_option maxHeartbeats 1000000
set_option linter.unusedVariables false

theorem rbody_55 {a : Option Addr} {n c : Nat} {f : Nat → Nat} (w : World) (h : Row w a n f) (hnc : n ≤ c) (hn : n ≤ 281474976710656) (h13 : ¬ n < 13) (h0 : f 0 = 76) (h1 : f 1 = 65) (h2 : f 2 = 78) (h3 : f 3 = 84) (h4 : f 4 = 1) (X Y S : Nat) (hX : numN (shiftF 5 f) 4 = X) (hx : X = n - 13) (hl : ¬ 16777216 < n - 13) (hY : numN (shiftF 9 f) 4 = Y) (hS : sumN (shiftF 13 f) (n - 13) = S) (hys : Y ≠ S) (hc13 : ¬ c = 13) :
    Calls Try.prog 17 #[.slice a n c] w fun e w' => (e = .returned (.tuple #[.slice none 0 0, .int .i64 55])) ∧ ∃ q, w' = w.drewN q := by
  have ⟨i1, i2, i3, i4, i5, i6, i7, i8, i9, i10, i11, i12, i13, i14, i15, i16, i17, i18, i19, i20⟩ := len_facts h13 hnc hn
  obtain ⟨bb, bo, rfl, hbb, hc⟩ := row13 h h13
  have b0 := hc 0 (by decide)
  have b1 := hc 1 (by decide)
  have b2 := hc 2 (by decide)
  have b3 := hc 3 (by decide)
  have b4 := hc 4 (by decide)
  rw [Nat.add_zero] at b0
  rw [h0] at b0
  rw [h1] at b1
  rw [h2] at b2
  rw [h3] at b3
  rw [h4] at b4
  have hl2 : n - 13 ≤ 140737488355328 := by omega
  have hSl : S < 4294967296 := hS ▸ sumN_lt _ _
  have hR5 := Lib.hid (Row.shift h 5 4 (by omega))
  have hR9 := Lib.hid (Row.shift h 9 4 (by omega))
  have hR13 := Lib.hid (Row.shift h 13 (n - 13) (by omega))
  have HN5 := (fun W (hW : Row W (some ⟨bb, bo + 5, none⟩) 4 (shiftF 5 f)) => rnumber_any (some ⟨bb, bo + 5, none⟩) 4 (c - 5) (shiftF 5 f) W hW (by decide))
  have HN9 := (fun W (hW : Row W (some ⟨bb, bo + 9, none⟩) 4 (shiftF 9 f)) => rnumber_any (some ⟨bb, bo + 9, none⟩) 4 (c - 9) (shiftF 9 f) W hW (by decide))
  have HS13 := (fun W (hW : Row W (some ⟨bb, bo + 13, none⟩) (n - 13) (shiftF 13 f)) => rsum_any (some ⟨bb, bo + 13, none⟩) (n - 13) (c - 13) (shiftF 13 f) W hW hl2)
  have t1 : ((X : Int) != ((n - 13 : Nat) : Int)) = false := by rw [hx]; exact bne_self_eq_false _
  have t2 : decide (((n - 13 : Nat) : Int) > 16777216) = false := decide_eq_false (by omega)
  have t3 : ¬ 16777216 < n - 13 := hl
  have t4 : ((Y : Int) != (S : Int)) = true := ne_true hys
  have t5 : IntKind.u64.wrap (S : Int) = (S : Int) := by simp only [IntKind.wrap_u64]; omega
  rw [hX] at HN5
  rw [hY] at HN9
  rw [hS] at HS13
  replace HN5 := Lib.hid HN5
  replace HN9 := Lib.hid HN9
  replace HS13 := Lib.hid HS13
  clear hX hY hS hc h hx hl hys hSl
  go_enter Try.func17, Try.ntmps17
  go_wp2_with fail
  refine (HN5.out _ hR5.out).mono ?_
  rintro e W1 ⟨rfl, rfl⟩
  go_upto_region 9 with (fail)
  clear HN5 hR5
  go_quiet (first
    | (go_at_call 42; exact Calls.quiet_of_same (HN9.out _ hR9.out))
    | (go_at_call 16; exact Calls.quiet_of_same (HS13.out _ hR13.out)))
  go_wp2_with fail
  go_ret2
  exact ⟨rfl, nq, rfl⟩
theorem rbody_0 {a : Option Addr} {n c : Nat} {f : Nat → Nat} (w : World) (h : Row w a n f) (hnc : n ≤ c) (hn : n ≤ 281474976710656) (h13 : ¬ n < 13) (h0 : f 0 = 76) (h1 : f 1 = 65) (h2 : f 2 = 78) (h3 : f 3 = 84) (h4 : f 4 = 1) (X Y S : Nat) (hX : numN (shiftF 5 f) 4 = X) (hx : X = n - 13) (hl : ¬ 16777216 < n - 13) (hY : numN (shiftF 9 f) 4 = Y) (hS : sumN (shiftF 13 f) (n - 13) = S) (hys : Y = S) (hc13 : ¬ c = 13) :
    Calls Try.prog 17 #[.slice a n c] w fun e w' => (∃ a' c', e = .returned (.tuple #[.slice a' (n - 13) c', .int .i64 0]) ∧ Row w a' (n - 13) (shiftF 13 f) ∧ n - 13 ≤ c') ∧ ∃ q, w' = w.drewN q := by
  have ⟨i1, i2, i3, i4, i5, i6, i7, i8, i9, i10, i11, i12, i13, i14, i15, i16, i17, i18, i19, i20⟩ := len_facts h13 hnc hn
  obtain ⟨bb, bo, rfl, hbb, hc⟩ := row13 h h13
  have b0 := hc 0 (by decide)
  have b1 := hc 1 (by decide)
  have b2 := hc 2 (by decide)
  have b3 := hc 3 (by decide)
  have b4 := hc 4 (by decide)
  rw [Nat.add_zero] at b0
  rw [h0] at b0
  rw [h1] at b1
  rw [h2] at b2
  rw [h3] at b3
  rw [h4] at b4
  have hl2 : n - 13 ≤ 140737488355328 := by omega
  have hSl : S < 4294967296 := hS ▸ sumN_lt _ _
  have hR5 := Lib.hid (Row.shift h 5 4 (by omega))
  have hR9 := Lib.hid (Row.shift h 9 4 (by omega))
  have hR13 := Lib.hid (Row.shift h 13 (n - 13) (by omega))
  have HN5 := (fun W (hW : Row W (some ⟨bb, bo + 5, none⟩) 4 (shiftF 5 f)) => rnumber_any (some ⟨bb, bo + 5, none⟩) 4 (c - 5) (shiftF 5 f) W hW (by decide))
  have HN9 := (fun W (hW : Row W (some ⟨bb, bo + 9, none⟩) 4 (shiftF 9 f)) => rnumber_any (some ⟨bb, bo + 9, none⟩) 4 (c - 9) (shiftF 9 f) W hW (by decide))
  have HS13 := (fun W (hW : Row W (some ⟨bb, bo + 13, none⟩) (n - 13) (shiftF 13 f)) => rsum_any (some ⟨bb, bo + 13, none⟩) (n - 13) (c - 13) (shiftF 13 f) W hW hl2)
  have t1 : ((X : Int) != ((n - 13 : Nat) : Int)) = false := by rw [hx]; exact bne_self_eq_false _
  have t2 : decide (((n - 13 : Nat) : Int) > 16777216) = false := decide_eq_false (by omega)
  have t3 : ¬ 16777216 < n - 13 := hl
  have t4 : ((Y : Int) != (S : Int)) = false := by rw [hys]; exact bne_self_eq_false _
  have t5 : IntKind.u64.wrap (S : Int) = (S : Int) := by simp only [IntKind.wrap_u64]; omega
  rw [hX] at HN5
  rw [hY] at HN9
  rw [hS] at HS13
  replace HN5 := Lib.hid HN5
  replace HN9 := Lib.hid HN9
  replace HS13 := Lib.hid HS13
  clear hX hY hS hc h hx hl hys hSl
  go_enter Try.func17, Try.ntmps17
  go_wp2_with fail
  refine (HN5.out _ hR5.out).mono ?_
  rintro e W1 ⟨rfl, rfl⟩
  go_upto_region 9 with (fail)
  clear HN5 hR5
  go_quiet (first
    | (go_at_call 42; exact Calls.quiet_of_same (HN9.out _ hR9.out))
    | (go_at_call 16; exact Calls.quiet_of_same (HS13.out _ hR13.out)))
  go_wp2_with fail
  go_ret2
  exact ⟨⟨_, _, rfl, hR13.out, Nat.sub_le_sub_right i20 13⟩, nq, rfl⟩
theorem rbody_55s {a : Option Addr} {n c : Nat} {f : Nat → Nat} (w : World) (h : Row w a n f) (hnc : n ≤ c) (hn : n ≤ 281474976710656) (h13 : ¬ n < 13) (h0 : f 0 = 76) (h1 : f 1 = 65) (h2 : f 2 = 78) (h3 : f 3 = 84) (h4 : f 4 = 1) (X Y S : Nat) (hX : numN (shiftF 5 f) 4 = X) (hx : X = n - 13) (hl : ¬ 16777216 < n - 13) (hY : numN (shiftF 9 f) 4 = Y) (hS : sumN (shiftF 13 f) (n - 13) = S) (hys : Y ≠ S) (hc13 : c = 13) :
    Calls Try.prog 17 #[.slice a n c] w fun e w' => (e = .returned (.tuple #[.slice none 0 0, .int .i64 55])) ∧ ∃ q, w' = w.drewN q := by
  have ⟨i1, i2, i3, i4, i5, i6, i7, i8, i9, i10, i11, i12, i13, i14, i15, i16, i17, i18, i19, i20⟩ := len_facts h13 hnc hn
  obtain ⟨bb, bo, rfl, hbb, hc⟩ := row13 h h13
  have b0 := hc 0 (by decide)
  have b1 := hc 1 (by decide)
  have b2 := hc 2 (by decide)
  have b3 := hc 3 (by decide)
  have b4 := hc 4 (by decide)
  rw [Nat.add_zero] at b0
  rw [h0] at b0
  rw [h1] at b1
  rw [h2] at b2
  rw [h3] at b3
  rw [h4] at b4
  have hl2 : n - 13 ≤ 140737488355328 := by omega
  have hSl : S < 4294967296 := hS ▸ sumN_lt _ _
  have hR5 := Lib.hid (Row.shift h 5 4 (by omega))
  have hR9 := Lib.hid (Row.shift h 9 4 (by omega))
  have hR13 := Lib.hid (Row.shift h 13 (n - 13) (by omega))
  have HN5 := (fun W (hW : Row W (some ⟨bb, bo + 5, none⟩) 4 (shiftF 5 f)) => rnumber_any (some ⟨bb, bo + 5, none⟩) 4 (c - 5) (shiftF 5 f) W hW (by decide))
  have HN9 := (fun W (hW : Row W (some ⟨bb, bo + 9, none⟩) 4 (shiftF 9 f)) => rnumber_any (some ⟨bb, bo + 9, none⟩) 4 (c - 9) (shiftF 9 f) W hW (by decide))
  have HS13 := (fun W => rsum_any (some ⟨bb, bo, none⟩) 0 0 (shiftF 13 f) W (Row.nil _ _ _) (by decide))
  have t1 : ((X : Int) != ((n - 13 : Nat) : Int)) = false := by rw [hx]; exact bne_self_eq_false _
  have t2 : decide (((n - 13 : Nat) : Int) > 16777216) = false := decide_eq_false (by omega)
  have t3 : ¬ 16777216 < n - 13 := hl
  have t4 : ((Y : Int) != (S : Int)) = true := ne_true hys
  have t5 : IntKind.u64.wrap (S : Int) = (S : Int) := by simp only [IntKind.wrap_u64]; omega
  rw [hX] at HN5
  rw [hY] at HN9
  obtain rfl : n = 13 := by omega
  subst hc13
  rw [hS] at HS13
  obtain rfl : X = 0 := hx
  clear i1 i3 i4 i5 i6 i7 i8 i9 i10 i11 i12 i13 i14 i15 i16 i17 i18 i19 i20 t1 t2 t3 hl2 hn h13 hnc
  replace HN5 := Lib.hid HN5
  replace HN9 := Lib.hid HN9
  replace HS13 := Lib.hid HS13
  clear hX hY hS hc h  hys hSl
  go_enter Try.func17, Try.ntmps17
  go_wp2_with fail
  refine (HN5.out _ hR5.out).mono ?_
  rintro e W1 ⟨rfl, rfl⟩
  go_upto_region 9 with (fail)
  clear HN5 hR5
  go_quiet (first
    | (go_at_call 42; exact Calls.quiet_of_same (HN9.out _ hR9.out))
    | (go_at_call 16; exact Calls.quiet_of_same (HS13.out _)))
  go_wp2_with fail
  go_ret2
  exact ⟨rfl, nq, rfl⟩
theorem rbody_0s {a : Option Addr} {n c : Nat} {f : Nat → Nat} (w : World) (h : Row w a n f) (hnc : n ≤ c) (hn : n ≤ 281474976710656) (h13 : ¬ n < 13) (h0 : f 0 = 76) (h1 : f 1 = 65) (h2 : f 2 = 78) (h3 : f 3 = 84) (h4 : f 4 = 1) (X Y S : Nat) (hX : numN (shiftF 5 f) 4 = X) (hx : X = n - 13) (hl : ¬ 16777216 < n - 13) (hY : numN (shiftF 9 f) 4 = Y) (hS : sumN (shiftF 13 f) (n - 13) = S) (hys : Y = S) (hc13 : c = 13) :
    Calls Try.prog 17 #[.slice a n c] w fun e w' => (∃ a' c', e = .returned (.tuple #[.slice a' (n - 13) c', .int .i64 0]) ∧ Row w a' (n - 13) (shiftF 13 f) ∧ n - 13 ≤ c') ∧ ∃ q, w' = w.drewN q := by
  have ⟨i1, i2, i3, i4, i5, i6, i7, i8, i9, i10, i11, i12, i13, i14, i15, i16, i17, i18, i19, i20⟩ := len_facts h13 hnc hn
  obtain ⟨bb, bo, rfl, hbb, hc⟩ := row13 h h13
  have b0 := hc 0 (by decide)
  have b1 := hc 1 (by decide)
  have b2 := hc 2 (by decide)
  have b3 := hc 3 (by decide)
  have b4 := hc 4 (by decide)
  rw [Nat.add_zero] at b0
  rw [h0] at b0
  rw [h1] at b1
  rw [h2] at b2
  rw [h3] at b3
  rw [h4] at b4
  have hl2 : n - 13 ≤ 140737488355328 := by omega
  have hSl : S < 4294967296 := hS ▸ sumN_lt _ _
  have hR5 := Lib.hid (Row.shift h 5 4 (by omega))
  have hR9 := Lib.hid (Row.shift h 9 4 (by omega))
  have hR13 := Lib.hid (Row.shift h 13 (n - 13) (by omega))
  have HN5 := (fun W (hW : Row W (some ⟨bb, bo + 5, none⟩) 4 (shiftF 5 f)) => rnumber_any (some ⟨bb, bo + 5, none⟩) 4 (c - 5) (shiftF 5 f) W hW (by decide))
  have HN9 := (fun W (hW : Row W (some ⟨bb, bo + 9, none⟩) 4 (shiftF 9 f)) => rnumber_any (some ⟨bb, bo + 9, none⟩) 4 (c - 9) (shiftF 9 f) W hW (by decide))
  have HS13 := (fun W => rsum_any (some ⟨bb, bo, none⟩) 0 0 (shiftF 13 f) W (Row.nil _ _ _) (by decide))
  have t1 : ((X : Int) != ((n - 13 : Nat) : Int)) = false := by rw [hx]; exact bne_self_eq_false _
  have t2 : decide (((n - 13 : Nat) : Int) > 16777216) = false := decide_eq_false (by omega)
  have t3 : ¬ 16777216 < n - 13 := hl
  have t4 : ((Y : Int) != (S : Int)) = false := by rw [hys]; exact bne_self_eq_false _
  have t5 : IntKind.u64.wrap (S : Int) = (S : Int) := by simp only [IntKind.wrap_u64]; omega
  rw [hX] at HN5
  rw [hY] at HN9
  obtain rfl : n = 13 := by omega
  subst hc13
  rw [hS] at HS13
  obtain rfl : X = 0 := hx
  clear i1 i3 i4 i5 i6 i7 i8 i9 i10 i11 i12 i13 i14 i15 i16 i17 i18 i19 i20 t1 t2 t3 hl2 hn h13 hnc
  replace HN5 := Lib.hid HN5
  replace HN9 := Lib.hid HN9
  replace HS13 := Lib.hid HS13
  clear hX hY hS hc h  hys hSl
  go_enter Try.func17, Try.ntmps17
  go_wp2_with fail
  refine (HN5.out _ hR5.out).mono ?_
  rintro e W1 ⟨rfl, rfl⟩
  go_upto_region 9 with (fail)
  clear HN5 hR5
  go_quiet (first
    | (go_at_call 42; exact Calls.quiet_of_same (HN9.out _ hR9.out))
    | (go_at_call 16; exact Calls.quiet_of_same (HS13.out _)))
  go_wp2_with fail
  go_ret2
  exact ⟨⟨_, _, rfl, Row.nil _ _ _, Nat.le_refl _⟩, nq, rfl⟩
theorem rbody_any {a : Option Addr} {n c : Nat} {f : Nat → Nat} (w : World) (h : Row w a n f) (hnc : n ≤ c) (hn : n ≤ 281474976710656) :
    Calls Try.prog 17 #[.slice a n c] w fun e w' => ((openE n f ≠ 0 ∧ e = .returned (.tuple #[.slice none 0 0, .int .i64 (openE n f : Nat)])) ∨ (openE n f = 0 ∧ ∃ a' c', e = .returned (.tuple #[.slice a' (n - 13) c', .int .i64 0]) ∧ Row w a' (n - 13) (shiftF 13 f) ∧ n - 13 ≤ c')) ∧ ∃ q, w' = w.drewN q := by
  have bad : ∀ {E : Nat} {e : Ending} {w' : World}, openE n f = E → E ≠ 0 → e = .returned (.tuple #[.slice none 0 0, .int .i64 (E : Nat)]) → (openE n f ≠ 0 ∧ e = .returned (.tuple #[.slice none 0 0, .int .i64 (openE n f : Nat)])) ∨ (openE n f = 0 ∧ ∃ a' c', e = .returned (.tuple #[.slice a' (n - 13) c', .int .i64 0]) ∧ Row w a' (n - 13) (shiftF 13 f) ∧ n - 13 ≤ c') := fun {E e w'} h1 h2 h3 => .inl ⟨by rw [h1]; exact h2, by rw [h1]; exact h3⟩
  by_cases h13 : n < 13
  · have hE : openE n f = 51 := if_pos h13
    exact (rbody_51 (f := f) w h13).mono fun e w' ⟨h1, h2⟩ => ⟨bad (w' := w') hE (by decide) h1, h2⟩
  by_cases hm : f 0 = 76 ∧ f 1 = 65 ∧ f 2 = 78 ∧ f 3 = 84
  · obtain ⟨h0, h1, h2, h3⟩ := hm
    have hm : ¬ ¬ (f 0 = 76 ∧ f 1 = 65 ∧ f 2 = 78 ∧ f 3 = 84) := fun h => h ⟨h0, h1, h2, h3⟩
    by_cases h4 : f 4 = 1
    · have h4' : ¬ f 4 ≠ 1 := fun h => h h4
      obtain ⟨X, hX⟩ : ∃ X, numN (shiftF 5 f) 4 = X := ⟨_, rfl⟩
      obtain ⟨Y, hY⟩ : ∃ Y, numN (shiftF 9 f) 4 = Y := ⟨_, rfl⟩
      obtain ⟨S, hS⟩ : ∃ S, sumN (shiftF 13 f) (n - 13) = S := ⟨_, rfl⟩
      by_cases hx : X = n - 13
      · have hx' : ¬ numN (shiftF 5 f) 4 ≠ n - 13 := fun h => h (hX.trans hx)
        by_cases hl : 16777216 < n - 13
        · have hE : openE n f = 54 := by unfold openE; rw [if_neg h13, if_neg hm, if_neg h4', if_neg hx', if_pos hl]
          exact (rbody_54b w h hnc hn h13 h0 h1 h2 h3 h4 X Y hX hx hl).mono fun e w' ⟨h1, h2⟩ => ⟨bad (w' := w') hE (by decide) h1, h2⟩
        · by_cases hys : Y = S
          · have hE : openE n f = 0 := by unfold openE; rw [if_neg h13, if_neg hm, if_neg h4', if_neg hx', if_neg hl, if_neg (fun h => h (hY.trans (hys.trans hS.symm)))]
            by_cases hc13 : c = 13
            · exact (rbody_0s w h hnc hn h13 h0 h1 h2 h3 h4 X Y S hX hx hl hY hS hys hc13).mono fun e w' ⟨h1, h2⟩ => ⟨.inr ⟨hE, h1⟩, h2⟩
            · exact (rbody_0 w h hnc hn h13 h0 h1 h2 h3 h4 X Y S hX hx hl hY hS hys hc13).mono fun e w' ⟨h1, h2⟩ => ⟨.inr ⟨hE, h1⟩, h2⟩
          · have hE : openE n f = 55 := by unfold openE; rw [if_neg h13, if_neg hm, if_neg h4', if_neg hx', if_neg hl, if_pos (fun h => hys (hY.symm.trans (h.trans hS)))]
            by_cases hc13 : c = 13
            · exact (rbody_55s w h hnc hn h13 h0 h1 h2 h3 h4 X Y S hX hx hl hY hS hys hc13).mono fun e w' ⟨h1, h2⟩ => ⟨bad (w' := w') hE (by decide) h1, h2⟩
            · exact (rbody_55 w h hnc hn h13 h0 h1 h2 h3 h4 X Y S hX hx hl hY hS hys hc13).mono fun e w' ⟨h1, h2⟩ => ⟨bad (w' := w') hE (by decide) h1, h2⟩
      · have hE : openE n f = 54 := by unfold openE; rw [if_neg h13, if_neg hm, if_neg h4', if_pos (fun h => hx (hX.symm.trans h))]
        exact (rbody_54a w h hnc hn h13 h0 h1 h2 h3 h4 X Y hX hx).mono fun e w' ⟨h1, h2⟩ => ⟨bad (w' := w') hE (by decide) h1, h2⟩
    · have hE : openE n f = 53 := by unfold openE; rw [if_neg h13, if_neg hm, if_pos h4]
      exact (rbody_53 w h hnc hn h13 h0 h1 h2 h3 h4).mono fun e w' ⟨h1, h2⟩ => ⟨bad (w' := w') hE (by decide) h1, h2⟩
  · have hE : openE n f = 52 := by unfold openE; rw [if_neg h13, if_pos hm]
    by_cases h0 : f 0 = 76
    · by_cases h1 : f 1 = 65
      · by_cases h2 : f 2 = 78
        · have h3 : f 3 ≠ 84 := fun h3 => hm ⟨h0, h1, h2, h3⟩
          exact (rbody_52d w h hnc hn h13 h0 h1 h2 h3).mono fun e w' ⟨h1, h2⟩ => ⟨bad (w' := w') hE (by decide) h1, h2⟩
        · exact (rbody_52c w h hnc hn h13 h0 h1 h2).mono fun e w' ⟨h1, h2⟩ => ⟨bad (w' := w') hE (by decide) h1, h2⟩
      · exact (rbody_52b w h hnc hn h13 h0 h1).mono fun e w' ⟨h1, h2⟩ => ⟨bad (w' := w') hE (by decide) h1, h2⟩
    · exact (rbody_52a w h hnc hn h13 h0).mono fun e w' ⟨h1, h2⟩ => ⟨bad (w' := w') hE (by decide) h1, h2⟩
end Go.Proofs.Ytacnmnodbmbplaa
namespace Go.Proofs.Ytacnmnodbmbplaa
open Go.RowKit Go.Shelf
set_option maxRecDepth 100000
set_option maxHeartbeats 1000000
set_option linter.unusedVariables false

theorem rd_heap {w w' : World} {b : Nat} {v : Value} {s : RS} (h : Rd w b v s) (h' : Rd w' b v s) : w'.heap[b]? = w.heap[b]? := by
  obtain ⟨cs, hw, hs, a0, a1, ae, a18⟩ := h.head.all
  obtain ⟨cs', hw', hs', b0, b1, be, b18⟩ := h'.head.all
  have e : cs' = cs := by
    apply Array.ext_getElem?
    intro i
    by_cases h0 : i = 0
    · subst h0; rw [a0, b0]
    by_cases h1 : i = 1
    · subst h1; rw [a1, b1]
    by_cases h18 : i = 18
    · subst h18; rw [a18, b18]
    by_cases hi : i < 18
    · obtain ⟨j, rfl⟩ : ∃ j, i = 2 + j := ⟨i - 2, by omega⟩
      rw [ae j (by omega), be j (by omega)]
    · rw [Array.getElem?_eq_none (by omega), Array.getElem?_eq_none (by omega)]
  subst e
  exact hw'.trans hw.symm
theorem rd_below {w w' : World} {b : Nat} {v : Value} {s : RS} (h : Rd w b v s) (h' : Rd w' b v s) (hG : w.grownBy w' (some b)) : Below w.heap.size w w' :=
  ⟨hG.os, hG.tape, hG.output, hG.size, fun k hk => by
    by_cases e : k = b
    · subst e; exact rd_heap h h'
    · exact hG.block k hk (fun h => e (by injection h))⟩
theorem ite_same {α : Type} (p : Prop) [Decidable p] (x : α) : (if p then x else x) = x := by split <;> rfl
theorem rdone_below {b : Nat} {v : Value} {s : RS} (w : World) (h : Rd w b v s) (hg : s.Good) :
    Calls Try.prog 24 #[.pointer (some ⟨b, 0, none⟩)] w fun e w' => e = .returned (.int .i64 (s.doneE : Nat)) ∧ Below w.heap.size w w' :=
  (rdone_any w h hg).mono fun e w' ⟨h1, h2, h3⟩ => ⟨h1, rd_below h (by rw [ite_same] at h2; exact h2) h3⟩
theorem rleft_below {b : Nat} {v : Value} {s : RS} (w : World) (h : Rd w b v s) (hg : s.Good) :
    Calls Try.prog 22 #[.pointer (some ⟨b, 0, none⟩)] w fun e w' => e = .returned (.int .i64 (s.left : Nat)) ∧ Below w.heap.size w w' :=
  (rleft_any w h hg).mono fun e w' ⟨h1, q, h2⟩ => ⟨h1, by rw [h2]; exact below_drewN (Below.refl _ _) q⟩
theorem same_below (a b : Option Addr) (n c d : Nat) (f : Nat → Nat) (w : World) (h1 : Row w a n f) (h2 : Row w b n f) (hn : n ≤ 140737488355328) :
    Calls Try.prog 13 #[.slice a n c, .slice b n d] w fun e w' => e = .returned (.bool true) ∧ Below w.heap.size w w' :=
  (same_any a b n c d f w h1 h2 hn).mono fun e w' ⟨h1, q, h2⟩ => ⟨h1, by rw [h2]; exact below_drewN (Below.refl _ _) q⟩
theorem if_nf {p : Prop} [Decidable p] {x s : RS} (hn : x.n = s.n) (hf : x.f = s.f) : (if p then x else s).n = s.n ∧ (if p then x else s).f = s.f := by
  split
  · exact ⟨hn, hf⟩
  · exact ⟨rfl, rfl⟩
theorem adv_nf (s : RS) (z : Nat) : (s.adv z).n = s.n ∧ (s.adv z).f = s.f := ⟨rfl, rfl⟩
theorem adv2_nf (s : RS) (z : Nat) : ((s.adv 4).adv z).n = s.n ∧ ((s.adv 4).adv z).f = s.f := ⟨rfl, rfl⟩
theorem stepN_nf (s : RS) (z : Nat) : (s.stepN z).s.n = s.n ∧ (s.stepN z).s.f = s.f ∧ (s.stepN z).len = 0 := by
  unfold RS.stepN
  split
  · exact ⟨rfl, rfl, rfl⟩
  · exact ⟨rfl, rfl, rfl⟩
theorem opened_nf (s : RS) : s.opened.n = s.n ∧ s.opened.f = s.f := ⟨rfl, rfl⟩
theorem closed_nf (s : RS) : s.closed.n = s.n ∧ s.closed.f = s.f := ⟨rfl, rfl⟩
theorem step_nf (s : RS) (what n : Int) : (s.step what n).s.n = s.n ∧ (s.step what n).s.f = s.f := by
  rcases what_ways what with rfl | rfl | rfl | rfl | rfl | rfl | rfl | ⟨t0, t1, t2, t3, t4, t5, t6⟩
  · exact ⟨(stepN_nf s 1).1, (stepN_nf s 1).2.1⟩
  · exact ⟨(stepN_nf s 2).1, (stepN_nf s 2).2.1⟩
  · exact ⟨(stepN_nf s 4).1, (stepN_nf s 4).2.1⟩
  · exact ⟨(stepN_nf s 8).1, (stepN_nf s 8).2.1⟩
  · exact if_nf (adv_nf s 1).1 (adv_nf s 1).2
  · exact if_nf (p := s.bytesE n = 0) (x := s.bytesS) (s := s) (by unfold RS.bytesS; exact (adv2_nf s _).1) (by unfold RS.bytesS; exact (adv2_nf s _).2)
  · exact if_nf (opened_nf s).1 (opened_nf s).2
  · rw [step_close s what n t0 t1 t2 t3 t4 t5 t6]
    exact if_nf (closed_nf s).1 (closed_nf s).2
theorem bytes_len {s : RS} (h : s.Good) (n : Int) {X : Nat} (hX : s.num 4 = X) : (if s.bytesE n = 0 then X else 0) ≤ 16777216 := by
  by_cases hE : s.bytesE n = 0
  · rw [if_pos hE]
    unfold RS.bytesE at hE
    rw [hX] at hE
    by_cases hz : s.left < 4
    · rw [if_pos hz] at hE; cases hE
    · by_cases hm : n < (X : Nat)
      · rw [if_neg hz, if_pos hm] at hE; cases hE
      · by_cases ht : s.left - 4 < X
        · rw [if_neg hz, if_neg hm, if_pos ht] at hE; cases hE
        · exact Nat.le_trans (Nat.le_of_not_lt ht) (Nat.le_trans (Nat.sub_le _ _) (left_le h))
  · rw [if_neg hE]; exact Nat.zero_le _
theorem step_len {s : RS} (h : s.Good) (what n : Int) : (s.step what n).len ≤ 16777216 := by
  rcases what_ways what with rfl | rfl | rfl | rfl | rfl | rfl | rfl | ⟨t0, t1, t2, t3, t4, t5, t6⟩
  · exact Nat.le_trans (Nat.le_of_eq (stepN_nf s 1).2.2) (Nat.zero_le _)
  · exact Nat.le_trans (Nat.le_of_eq (stepN_nf s 2).2.2) (Nat.zero_le _)
  · exact Nat.le_trans (Nat.le_of_eq (stepN_nf s 4).2.2) (Nat.zero_le _)
  · exact Nat.le_trans (Nat.le_of_eq (stepN_nf s 8).2.2) (Nat.zero_le _)
  · exact Nat.zero_le _
  · exact bytes_len h n rfl
  · exact Nat.zero_le _
  · rw [step_close s what n t0 t1 t2 t3 t4 t5 t6]
    exact Nat.zero_le _
theorem seen_bytes2 {H : Type} {enc : TypeId × Value → H} {w : World} {base : Nat} {held : Bool} {fuel : Nat} {v : Value} {y : DataW H × List MemPlace} (h : DataW.trod enc Try.prog w base (fun _ => true) held fuel 25 [v] = some y)
    (hsz : ∀ x ∈ y.1.weights Try.prog 25, x ≤ reachBytes) : ∃ (a : Option Addr) (len cap : Nat) (f : Nat → Nat), v = .slice a len cap ∧ Row w a len f ∧ len ≤ 140737488351232 ∧ len ≤ cap := by
  obtain ⟨a, len, cap, f, rfl, hR, hl⟩ := seen_bytes h hsz
  refine ⟨a, len, cap, f, rfl, hR, hl, ?_⟩
  rcases DataW.trod_slice Try.underlying25 h with ⟨e, _⟩ | ⟨x, l, c, _, _, _, _, e, _, _, hle, _⟩
  · injection e with e; injection e with e1 e2 e3; omega
  · injection e with e; injection e with e1 e2 e3; omega
/-- The document's reader lies in box D, apart from block R. -/
structure RBox (w : World) (R D : Nat) (a : Option Addr) (c : Nat) (ae : Option Addr) (ce : Nat) (s : RS) : Prop where
  box : Whole w D 48 #[.slice a s.n c, .int .i64 (s.at_ : Nat), .slice ae (s.op + 1) ce]
  doc : RDoc w a c ae ce s
  nD : D ≠ R
  nE : ∀ ad, ae = some ad → ad.block ≠ R ∧ ad.block ≠ D ∧ ad.block < w.heap.size
end Go.Proofs.Ytacnmnodbmbplaa
