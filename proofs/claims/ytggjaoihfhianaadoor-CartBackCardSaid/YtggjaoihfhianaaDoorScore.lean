/-
  A card's score.
-/
import Derived.Test.YtggjaoihfhianaaDoorLooks
namespace Go.Proofs.YtggjaoihfhianaaDoor
open Go.RowKit Go.Shelf
set_option maxRecDepth 100000
set_option maxHeartbeats 1000000

def modesL (l : Nat) : List Int := if l = 1 then [32, 35] else if l = 2 then [33] else [37]
theorem contains_any (l M : Nat) (m : Int) (w : World) (h : Whole w M 5 (modesOf l)) :
    Calls Tryd.prog 39 #[.slice (some ⟨M, 0, none⟩) (modeLen l) (modeLen l), .int .u8 m] w fun e w' => e = .returned (.bool ((modesL l).any fun y => m == y)) ∧ w' = w := by
  have hlen : (modesL l).length = modeLen l := by unfold modesL modeLen; split <;> (try split) <;> rfl
  have := Tryd.slices_Contains (Value.int .u8) (fun x y => x == y) (EqlAt.int _ _ _) M 0 (modeLen l) (modeLen l) (modesL l) m w (by omega) (by unfold modeLen; split <;> omega) (fun j hj => by
    rw [Nat.zero_add, h.cell j]
    unfold modesL modesOf at *
    by_cases e1 : l = 1
    · rw [if_pos e1] at hj ⊢
      rw [if_pos e1]
      match j, hj with
      | 0, _ => rfl
      | 1, _ => rfl
    · rw [if_neg e1] at hj ⊢
      rw [if_neg e1]
      by_cases e2 : l = 2
      · rw [if_pos e2] at hj ⊢
        rw [if_pos e2]
        match j, hj with
        | 0, _ => rfl
      · rw [if_neg e2] at hj ⊢
        rw [if_neg e2]
        match j, hj with
        | 0, _ => rfl)
  rw [← hlen, List.take_length, hlen] at this
  exact this
def modeF (m : Nat) : Nat := if m / 16 % 2 = 1 then m - 16 else m
theorem andNot16 : ∀ m : Fin 256, bits .andNot .u8 (m.val : Int) 16 = (modeF m.val : Nat) := by decide +kernel
def scoreB (cs cm cp cr : Bool) : Int := (if cs then 4 else 0) + (if cm then 2 else 0) + (if cp then 1 else 0) + (if cr then 2 else -4)
/-- A card's score by a layout. -/
def scoreV (t : ByteArray) (mode check sum reset l : Nat) : Int :=
  if ¬ (1 ≤ l ∧ l ≤ 3) then 0 else scoreB (decide ((check + sum) % 65536 = 65535)) ((modesL l).any fun y => ((modeF mode : Nat) : Int) == y) (seenB t) (decide (32768 ≤ reset))
def cardA (t : ByteArray) (mode kind rs check sum reset : Nat) : Value := .agg #[.string t, .int .u8 mode, .int .u8 kind, .int .u8 rs, .int .u16 check, .int .u16 sum, .int .u16 reset]

theorem pscore_any (t : ByteArray) (mode kind rs check sum reset l M : Nat) (w : World) (hl : 1 ≤ l ∧ l ≤ 3) (ht : t.size ≤ 9223372036854775807) (hm : mode < 256) (h : Whole w M 5 (modesOf l)) :
    Calls Tryd.prog 31 #[planV l M, cardA t mode kind rs check sum reset] w fun e w' => e = .returned (.int .i64 (scoreV t mode check sum reset l)) ∧ Below w.heap.size w w' := by
  have hv : scoreV t mode check sum reset l = scoreB (decide ((check + sum) % 65536 = 65535)) ((modesL l).any fun y => ((modeF mode : Nat) : Int) == y) (seenB t) (decide (32768 ≤ reset)) := by
    unfold scoreV; rw [if_neg (by omega)]
  rw [hv]
  have e1 := andNot16 ⟨mode, hm⟩
  simp only at e1
  have HC := fun W (hW : Whole W M 5 (modesOf l)) => contains_any l M (modeF mode : Nat) W hW
  have HP := fun W => plain_any t W ht
  have e2 : ((IntKind.u16.wrap ((check : Int) + sum)) == 65535) = decide ((check + sum) % 65536 = 65535) := by
    rw [IntKind.wrap_u16, Bool.eq_iff_iff, beq_iff_eq, decide_eq_true_eq]; omega
  have e3 : decide ((32768 : Int) ≤ (reset : Int)) = decide (32768 ≤ reset) := decide_eq_decide.2 (by omega)
  generalize ((modesL l).any fun y => ((modeF mode : Nat) : Int) == y) = cm at *
  generalize seenB t = cp at *
  generalize decide ((check + sum) % 65536 = 65535) = cs at *
  generalize decide (32768 ≤ reset) = cr at *
  replace HC := Lib.hid HC
  replace HP := Lib.hid HP
  have hB0 : Below w.heap.size w ((w.alloc (Obj.cells #[Value.int .u8 l, Value.int .i64 (posOf l), Value.slice (some ⟨M, 0, none⟩) (modeLen l) (modeLen l)] 61)).alloc (Obj.cells #[.string t, .int .u8 mode, .int .u8 kind, .int .u8 rs, .int .u16 check, .int .u16 sum, .int .u16 reset] 39)) :=
    ((Below.refl _ w).alloc (Nat.le_refl _) _).alloc (by simp) _
  have hM := h.below hB0 h.lt
  clear hv h
  generalize (modeF mode : Nat) = mf at *
  unfold planV cardA
  generalize (posOf l : Nat) = P at *
  generalize modeLen l = ml at *
  go_enter Tryd.func31, Tryd.ntmps31
  cases cr <;> cases cs <;>
  · go_wp2_with fail
    refine (HC.out _ hM).mono ?_
    rintro e w' ⟨rfl, rfl⟩
    cases cm <;>
    · go_wp2_with fail
      refine (HP.out _).mono ?_
      rintro e w' ⟨rfl, rfl⟩
      cases cp <;>
      · go_wp2_with fail
        go_ret
        exact ⟨rfl, hB0⟩
end Go.Proofs.YtggjaoihfhianaaDoor
