/-
  The document's lost and Room: how far a thread may run, by halves.
-/
import Derived.Test.YtijcfpdcijpenaaRfOrd
namespace Go.Proofs.Ytijcfpdcijpenaa
open Go.RowKit Go.Shelf
set_option maxRecDepth 100000
set_option maxHeartbeats 1000000
set_option linter.unusedVariables false
/-- Thread k would be ahead of thread i, were i's time t. -/
def Past (ts : List Int) (i : Nat) (t : Int) (k : Nat) : Prop := k ≠ i ∧ (ts[k]?.getD 0 < t ∨ (ts[k]?.getD 0 = t ∧ k < i))
theorem rlost_any (i : Nat) (n : Int) (b : Bool) (w : World) {p q cp cq : Nat} {ss ts : List Int} (h : Rf w p q ss ts) (hn : ss.length ≤ 16) (hi : i < ss.length) (hn0 : 0 ≤ n) (hn1 : n ≤ 1073741824)
    (hs0 : 1 ≤ ss[i]?.getD 0) (hs1 : ss[i]?.getD 0 ≤ 16777216) (hx0 : 0 ≤ ts[i]?.getD 0) (hx1 : ts[i]?.getD 0 ≤ 1152921504606846976)
    (hb : b = true ↔ ∃ k, k < ss.length ∧ Past ts i (ts[i]?.getD 0 + n * ss[i]?.getD 0) k) :
    Calls Try.prog 44 #[rv p q ss.length cp cq, .int .i64 i, .int .i64 n] w fun e w' => e = .returned (.bool b) ∧ Below w.heap.size w w' := by
  unfold rv
  have hp0 : 0 ≤ n * ss[i]?.getD 0 := Int.mul_nonneg hn0 (by omega)
  have hp1 : n * ss[i]?.getD 0 ≤ 1073741824 * 16777216 := Int.mul_le_mul hn1 hs1 (by omega) (by omega)
  have h1 := (h.alloc (.cells #[.slice (some ⟨p, 0, none⟩) ss.length cp, .slice (some ⟨q, 0, none⟩) ss.length cq] 25)).tm i hi
  have h2 := (h.alloc (.cells #[.slice (some ⟨p, 0, none⟩) ss.length cp, .slice (some ⟨q, 0, none⟩) ss.length cq] 25)).sc i hi
  have hR := h.alloc (.cells #[.slice (some ⟨p, 0, none⟩) ss.length cp, .slice (some ⟨q, 0, none⟩) ss.length cq] 25)
  have hC := Whole.fresh w 25 #[.slice (some ⟨p, 0, none⟩) ss.length cp, .slice (some ⟨q, 0, none⟩) ss.length cq]
  have hB0 : Below w.heap.size w (w.alloc (.cells #[.slice (some ⟨p, 0, none⟩) ss.length cp, .slice (some ⟨q, 0, none⟩) ss.length cq] 25)) := (Below.refl _ _).alloc (Nat.le_refl _) _
  generalize ss[i]?.getD 0 = s at *
  generalize ts[i]?.getD 0 = x at *
  obtain ⟨t, ht⟩ : ∃ t, x + n * s = t := ⟨_, rfl⟩
  rw [ht] at hb
  have HT := Lib.hid ht
  have HB := Lib.hid hb
  clear ht hb h
  go_enter Try.func44, Try.ntmps44
  go_wp2_with fail
  go_quiet (fail)
  go_wp2_with fail
  have hB1 := below_drewN hB0 nq
  have hR1 := hR.drewN nq
  have hC1 := hC.drewN nq
  rw [HT.out]
  clear hR hC hB0 h1 h2 HT
  generalize (w.alloc (Obj.cells #[.slice (some ⟨p, 0, none⟩) ss.length cp, .slice (some ⟨q, 0, none⟩) ss.length cq] 25)).drewN nq = W0 at hB1 hR1 hC1 ⊢
  go_loopw [8] (fun sk wr => ∃ k : Nat, k ≤ ss.length ∧ sk = .int .i64 k ∧ wr = W0 ∧ Hid (∀ j, j < k → ¬ Past ts i t j)) (fun sk _ => ss.length - (intOf sk).toNat)
  case atStart => exact ⟨0, Nat.zero_le _, rfl, rfl, Lib.hid (fun j hj => absurd hj (Nat.not_lt_zero j))⟩
  case round =>
    obtain ⟨k, hk, rfl, rfl, hN⟩ := hrel
    have c0 := hC1.cell 0
    have c1 := hC1.cell 1
    simp only [List.getElem?_toArray, List.getElem?_cons_zero, List.getElem?_cons_succ] at c0 c1
    by_cases hlt : k < ss.length
    · have d1 := hR1.tm k hlt
      obtain ⟨z, hz⟩ : ∃ z, ts[k]?.getD 0 = z := ⟨_, rfl⟩
      rw [hz] at d1
      have yes : Past ts i t k → b = true := fun hp => HB.out.2 ⟨k, hlt, hp⟩
      have no : ¬ Past ts i t k → ∀ j, j < k + 1 → ¬ Past ts i t j := fun hp j hj => by
        by_cases e : j = k
        · subst e
          exact hp
        · exact hN.out j (by omega)
      have hP : Past ts i t k ↔ k ≠ i ∧ (z < t ∨ (z = t ∧ k < i)) := by unfold Past; rw [hz]
      rw [hP] at yes no
      have HY := Lib.hid yes
      have HNo := Lib.hid no
      clear yes no hP hz HB hC1
      by_cases e1 : k = i
      · have t1 : ((k : Int) != (i : Int)) = false := by rw [e1]; simp
        have HN2 := Lib.hid (HNo.out (by omega))
        clear e1 HY HNo
        go_wp2_with fail
        go_roundw
        case rel => exact ⟨k + 1, by omega, by go_num, by first | trivial | rfl, HN2⟩
        case measure => simp [intOf]; omega
      · have t1 : ((k : Int) != (i : Int)) = true := by rw [bne_iff_ne]; omega
        by_cases e2 : z < t
        · have t2 : decide (z < t) = true := decide_eq_true e2
          have HE := Lib.hid (HY.out ⟨e1, .inl e2⟩)
          clear e1 e2 HY HNo
          go_wp2_with fail
          go_ret
          exact ⟨congrArg (fun b => Ending.returned (.bool b)) HE.out.symm, hB1⟩
        · have t2 : decide (z < t) = false := decide_eq_false e2
          by_cases e3 : z = t
          · have t3 : (z == t) = true := by rw [beq_iff_eq]; exact e3
            by_cases e4 : k < i
            · have t4 : decide (k < i) = true := decide_eq_true e4
              have HE := Lib.hid (HY.out ⟨e1, .inr ⟨e3, e4⟩⟩)
              clear e1 e2 e3 e4 HY HNo
              go_wp2_with fail
              go_ret
              exact ⟨congrArg (fun b => Ending.returned (.bool b)) HE.out.symm, hB1⟩
            · have t4 : decide (k < i) = false := decide_eq_false e4
              have HN2 := Lib.hid (HNo.out (by omega))
              clear e1 e2 e3 e4 HY HNo
              go_wp2_with fail
              go_roundw
              case rel => exact ⟨k + 1, by omega, by go_num, by first | trivial | rfl, HN2⟩
              case measure => simp [intOf]; omega
          · have t3 : (z == t) = false := by rw [beq_eq_false_iff_ne]; exact e3
            have HN2 := Lib.hid (HNo.out (by omega))
            clear e1 e2 e3 HY HNo
            go_wp2_with fail
            go_roundw
            case rel => exact ⟨k + 1, by omega, by go_num, by first | trivial | rfl, HN2⟩
            case measure => simp [intOf]; omega
    · obtain rfl : k = ss.length := by omega
      have HE := Lib.hid (show b = false from by
        rw [Bool.eq_false_iff]
        intro e
        obtain ⟨j, hj, hp⟩ := HB.out.1 e
        exact hN.out j hj hp)
      clear HB
      go_wp2_with fail
      go_ret
      exact ⟨congrArg (fun b => Ending.returned (.bool b)) HE.out.symm, hB1⟩
end Go.Proofs.Ytijcfpdcijpenaa
