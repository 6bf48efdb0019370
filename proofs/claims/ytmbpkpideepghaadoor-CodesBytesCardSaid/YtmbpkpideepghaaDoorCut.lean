/-
  A text, cut at its first blank; the number that its digits make.
-/
import Derived.Test.YtmbpkpideepghaaDoorAwk
import Derived.Lib.Bytealg
import Derived.Laws.RangeAny
namespace Go.Proofs.YtmbpkpideepghaaDoor
open Go.RowKit
set_option maxRecDepth 100000
set_option maxHeartbeats 1000000
set_option linter.unusedVariables false

/-- Where the first blank stands. -/
def cutI (s : ByteArray) : Int := Lib.indexByte s.data.toList 32
def cutA (s : ByteArray) : ByteArray := if 0 ≤ cutI s then s.extract 0 (cutI s).toNat else s
def cutB (s : ByteArray) : ByteArray := if 0 ≤ cutI s then s.extract ((cutI s).toNat + 1) s.size else ⟨#[]⟩
theorem index_lt (l : List UInt8) (c : UInt8) : Lib.indexByte l c < l.length := by
  induction l with
  | nil => simp [Lib.indexByte]
  | cons b l ih =>
    unfold Lib.indexByte
    rw [List.length_cons]
    split
    · omega
    · split
      · omega
      · omega
theorem slcut_any (s : ByteArray) (w : World) (hs : s.size ≤ 140737488355328) :
    Calls Tryd.prog 58 #[.string s, .string ⟨#[32]⟩] w fun e w' => (∃ b, e = .returned (.tuple #[.string (cutA s), .string (cutB s), .bool b])) ∧ Below w.heap.size w w' := by
  have HI := Tryd.stringslite_Index_one s 32 w
  rw [show Lib.indexByte s.data.toList 32 = cutI s from rfl] at HI
  have hlt : cutI s < (s.size : Int) := index_lt s.data.toList 32
  have hge : -1 ≤ cutI s := Lib.indexByte_ge _ _
  unfold cutA cutB
  by_cases h : 0 ≤ cutI s
  · obtain ⟨i, hi⟩ : ∃ i : Nat, cutI s = i := ⟨(cutI s).toNat, by omega⟩
    rw [if_pos h, if_pos h]
    rw [hi] at HI hlt h ⊢
    rw [show ((i : Int)).toNat = i by omega]
    clear hge hi
    have his : i < s.size := by omega
    replace HI := Lib.hid HI
    go_enter Tryd.func58, Tryd.ntmps58
    go_wp2_with fail
    refine HI.out.mono ?_
    rintro e W ⟨rfl, rfl⟩
    go_wp2_with fail
    go_quiet (fail)
    go_wp2_with fail
    go_ret3
    exact ⟨⟨_, rfl⟩, below_drewN (Below.refl _ _) nq⟩
  · rw [if_neg h, if_neg h]
    obtain hi : cutI s = -1 := by omega
    rw [hi] at HI
    clear h hge hlt hi
    replace HI := Lib.hid HI
    go_enter Tryd.func58, Tryd.ntmps58
    go_wp2_with fail
    refine HI.out.mono ?_
    rintro e W ⟨rfl, rfl⟩
    go_wp2_with fail
    go_ret3
    exact ⟨⟨_, rfl⟩, Below.refl _ _⟩
theorem cut_any (s : ByteArray) (w : World) (hs : s.size ≤ 140737488355328) :
    Calls Tryd.prog 43 #[.string s, .string ⟨#[32]⟩] w fun e w' => (∃ b, e = .returned (.tuple #[.string (cutA s), .string (cutB s), .bool b])) ∧ Below w.heap.size w w' := by
  have HC := slcut_any s w hs
  generalize cutA s = A at *
  generalize cutB s = B at *
  replace HC := Lib.hid HC
  go_enter Tryd.func43, Tryd.ntmps43
  go_wp2_with fail
  refine HC.out.mono ?_
  rintro e W ⟨⟨b, rfl⟩, hb⟩
  go_wp2_with fail
  go_ret3
  exact ⟨⟨b, rfl⟩, hb⟩
/-- A digit more. -/
def stepD (n r : Nat) : Nat := if 48 ≤ r ∧ r ≤ 57 then n * 16 % 4294967296 + (r - 48) else if 97 ≤ r ∧ r ≤ 102 then n * 16 % 4294967296 + (r - 87) else n
theorem stepD_lt (n r : Nat) (hn : n < 4294967296) : stepD n r < 4294967296 := by
  unfold stepD
  split
  · omega
  · split
    · omega
    · exact hn
/-- The number that the digits from a place on make. -/
def digFrom (s : ByteArray) : Nat → Nat → Nat → Nat
  | 0, _, n => n
  | fuel + 1, pos, n => if pos < s.size then digFrom s fuel (pos + (Utf8.decode s pos).2) (stepD n (Utf8.decode s pos).1) else n
def digF (s : ByteArray) : Nat := digFrom s s.size 0 0
theorem width_pos (s : ByteArray) (pos : Nat) (h : pos < s.size) : 1 ≤ (Utf8.decode s pos).2 := by
  by_cases ha : (s[pos]'h).toNat < 128
  · rw [decode_ascii s pos h ha]
    exact Nat.le_refl _
  · exact (decode_high s pos h (by omega)).2
theorem digFrom_end (s : ByteArray) (fuel pos n : Nat) (h : ¬ pos < s.size) : digFrom s fuel pos n = n := by
  cases fuel with
  | zero => rfl
  | succ f => simp [digFrom, h]
theorem or_16 (y d : Nat) (hy : y < 268435456) (hd : d < 16) : bits BinOp.or IntKind.u32 ((y * 16 : Nat) : Int) (d : Int) = ((y * 16 + d : Nat) : Int) := by
  have h := Nat.two_pow_add_eq_or_of_lt (i := 4) (show d < 2 ^ 4 by omega) y
  have e : y * 16 ||| d = y * 16 + d := by rw [show y * 16 = 2 ^ 4 * y by omega, ← h]
  rw [or_u32 _ _ (by omega) (by omega) (by rw [e]; omega), e]
theorem digitsOf_any (s : ByteArray) (w : World) (hs : s.size ≤ 140737488355328) :
    Calls Tryd.prog 44 #[.string s] w fun e w' => e = .returned (.int .u32 (digF s : Nat)) ∧ Below w.heap.size w w' := by
  go_enter Tryd.func44, Tryd.ntmps44
  go_wp2_with fail
  go_loopw [3] (fun s3 wr => ∃ (pos fuel n : Nat), wr = w.iter s pos ∧ s3 = .int .u32 n ∧ n < 4294967296 ∧ digFrom s fuel pos n = digF s ∧ s.size ≤ pos + fuel) (fun _ wr => s.size - wr.iterPos w.heap.size)
  case atStart => exact ⟨0, s.size, 0, rfl, rfl, by omega, rfl, by omega⟩
  case round =>
    obtain ⟨pos, fuel, n, rfl, rfl, hn, hd, hfu⟩ := hrel
    by_cases hp : pos < s.size
    · have hnx : ∀ ty, (Instr.next (.pointer (some ⟨w.heap.size, 0, none⟩)) true ty).run Tryd.prog (w.iter s pos) = _ := fun ty => run_next_any w s pos ty hp
      have hwd := width_pos s pos hp
      obtain ⟨f, rfl⟩ : ∃ f, fuel = f + 1 := ⟨fuel - 1, by omega⟩
      rw [digFrom, if_pos hp] at hd
      have hlt := stepD_lt n (Utf8.decode s pos).1 hn
      generalize (Utf8.decode s pos).1 = r at *
      generalize (Utf8.decode s pos).2 = wd at *
      have hmul : (((n : Int) * 16) % 4294967296) = ((n % 268435456 * 16 : Nat) : Int) := by omega
      unfold stepD at hd hlt
      by_cases h1 : 48 ≤ r ∧ r ≤ 57
      · rw [if_pos h1] at hd hlt
        have t1 : decide ((48 : Int) ≤ (r : Int)) = true := decide_eq_true (by omega)
        have t2 : decide ((r : Int) ≤ 57) = true := decide_eq_true (by omega)
        have h57 := h1.2
        have h48 := h1.1
        have hor := or_16 (n % 268435456) (r - 48) (by omega) (by omega)
        have hsub : ((r - 48 : Nat) : Int) = (r : Int) - 48 := by omega
        rw [hsub, show ((n % 268435456 * 16 : Nat) : Int) = (n : Int) % 268435456 * 16 by omega] at hor
        clear hmul hsub
        replace hor := Lib.hid hor
        go_wp2_with fail
        go_roundw
        case rel => exact ⟨pos + wd, f, n * 16 % 4294967296 + (r - 48), rfl, by rw [show ((n : Int) * 16 % 4294967296) = (n : Int) % 268435456 * 16 by omega, hor.out]; congr 1; omega, hlt, hd, by omega⟩
        case measure =>
          simp
          omega
      · rw [if_neg h1] at hd hlt
        by_cases h2 : 97 ≤ r ∧ r ≤ 102
        · rw [if_pos h2] at hd hlt
          have t1 : decide ((48 : Int) ≤ (r : Int)) = true := decide_eq_true (by omega)
          have t2 : decide ((r : Int) ≤ 57) = false := decide_eq_false (by omega)
          have t3 : decide ((97 : Int) ≤ (r : Int)) = true := decide_eq_true (by omega)
          have t4 : decide ((r : Int) ≤ 102) = true := decide_eq_true (by omega)
          have h97 := h2.1
          have h102 := h2.2
          have hor := or_16 (n % 268435456) (r - 87) (by omega) (by omega)
          rw [show ((r - 87 : Nat) : Int) = (r : Int) - 97 + 10 by omega, show ((n % 268435456 * 16 : Nat) : Int) = (n : Int) % 268435456 * 16 by omega] at hor
          clear hmul h1
          replace hor := Lib.hid hor
          go_wp2_with fail
          go_roundw
          case rel => exact ⟨pos + wd, f, n * 16 % 4294967296 + (r - 87), rfl, by rw [show ((n : Int) * 16 % 4294967296) = (n : Int) % 268435456 * 16 by omega, hor.out]; congr 1; omega, hlt, hd, by omega⟩
          case measure =>
            simp
            omega
        · rw [if_neg h2] at hd hlt
          have hway : (decide ((48 : Int) ≤ (r : Int)) = false ∧ decide ((97 : Int) ≤ (r : Int)) = false) ∨ (decide ((48 : Int) ≤ (r : Int)) = true ∧ decide ((r : Int) ≤ 57) = false ∧ decide ((97 : Int) ≤ (r : Int)) = false) ∨ (decide ((48 : Int) ≤ (r : Int)) = true ∧ decide ((r : Int) ≤ 57) = false ∧ decide ((97 : Int) ≤ (r : Int)) = true ∧ decide ((r : Int) ≤ 102) = false) := by
            by_cases a1 : 48 ≤ r
            · by_cases a3 : 97 ≤ r
              · exact .inr (.inr ⟨decide_eq_true (by omega), decide_eq_false (by omega), decide_eq_true (by omega), decide_eq_false (by omega)⟩)
              · exact .inr (.inl ⟨decide_eq_true (by omega), decide_eq_false (by omega), decide_eq_false (by omega)⟩)
            · exact .inl ⟨decide_eq_false (by omega), decide_eq_false (by omega)⟩
          clear hmul h1 h2
          rcases hway with ⟨t1, t2⟩ | ⟨t1, t2, t3⟩ | ⟨t1, t2, t3, t4⟩
          all_goals
            go_wp2_with fail
            go_roundw
            case rel => exact ⟨pos + wd, f, n, rfl, rfl, hn, hd, by omega⟩
            case measure =>
              simp
              omega
    · have hnx : ∀ ty, (Instr.next (.pointer (some ⟨w.heap.size, 0, none⟩)) true ty).run Tryd.prog (w.iter s pos) = _ := fun ty => run_next_end w s pos ty hp
      rw [digFrom_end s fuel pos n hp] at hd
      go_wp2_with fail
      go_ret
      exact ⟨by rw [← hd]; rfl, (Below.refl _ w).alloc (Nat.le_refl _) _⟩
end Go.Proofs.YtmbpkpideepghaaDoor
