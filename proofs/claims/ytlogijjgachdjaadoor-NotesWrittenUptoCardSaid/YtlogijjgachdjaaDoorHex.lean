/-
  A number in so many digits, by the code.
-/
import Derived.Test.YtlogijjgachdjaaDoorOf
import Derived.Laws.OwnMore
import Derived.Laws.IdiomStrings
namespace Go.Proofs.YtlogijjgachdjaaDoor
open Go.RowKit
set_option maxRecDepth 100000
set_option maxHeartbeats 1000000
set_option linter.unusedVariables false

def dg (x : Nat) : Nat := if x < 10 then 48 + x else 55 + x
theorem dg_lt (x : Nat) (hx : x < 16) : dg x < 128 := by unfold dg; split <;> omega
/-- The digits of a number, the highest first. -/
def hxL (n s : Nat) : List Nat := (List.range s).map fun i => dg (n / 16 ^ (s - 1 - i) % 16)
theorem hxL_len (n s : Nat) : (hxL n s).length = s := by simp [hxL]
theorem hxL_lt (n s : Nat) : ∀ x ∈ hxL n s, x < 128 := by
  intro x hx
  simp only [hxL, List.mem_map] at hx
  obtain ⟨i, _, rfl⟩ := hx
  exact dg_lt _ (Nat.mod_lt _ (by decide))
theorem and_15 (a : Nat) (ha : a < 65536) : bits BinOp.and IntKind.u16 (a : Int) 15 = ((a % 16 : Nat) : Int) := by
  have e : (BitVec.ofInt 16 (a : Int) &&& BitVec.ofInt 16 (15 : Int)).toNat = a % 16 := by
    rw [BitVec.toNat_and, BitVec.toNat_ofInt, BitVec.toNat_ofInt]
    have a1 : ((a : Int) % ((2 ^ 16 : Nat) : Int)).toNat = a := by omega
    have a2 : ((15 : Int) % ((2 ^ 16 : Nat) : Int)).toNat = 15 := by decide
    rw [a1, a2]
    exact Nat.and_two_pow_sub_one_eq_mod a 4
  show IntKind.u16.wrap ((BitVec.ofInt 16 (a : Int) &&& BitVec.ofInt 16 (15 : Int)).toNat : Nat) = _
  rw [e]
  have : a % 16 < 16 := Nat.mod_lt _ (by decide)
  generalize a % 16 = z at *
  simp only [IntKind.wrap_u16]
  omega
theorem digit_of {S : ByteArray} (hl : S.data.toList.map UInt8.toNat = digN) (x : Nat) (hx : x < 16) (h : x < S.size) : S[x].toNat = dg x := by
  rw [byte_of hl x h]
  exact (show ∀ x : Nat, x < 16 → digN.getD x 0 = dg x by decide +kernel) x hx
theorem info_parts8 : (Tryd.prog.info? 5).map (fun i => (i.zero, i.size, i.bytes)) = some (some (.int .u8 0), 1, 1) := by kernel_rfl
/-- The digits that stand when k of them are written. -/
def hxF (n s k : Nat) : Nat → Nat := fun j => if s - k ≤ j then dg (n / 16 ^ (s - 1 - j) % 16) else 0
theorem hex_any (n s : Nat) (w : World) (hn : n < 65536) (hs : s ≤ 4) (hs1 : 1 ≤ s) :
    Calls Tryd.prog 32 #[.int .u16 n, .int .i64 s] w fun e w' => e = .returned (.string (bsOf (hxL n s))) ∧ Below w.heap.size w w' := by
  generalize hT : bsOf (hxL n s) = T
  replace hT := Lib.hid hT
  have hmk := fun W => run_make_row' (P := Tryd.prog) 33 5 (.int .u8 0) 1 Tryd.underlying33 (by kernel_rfl) rfl .i64 .i64 s (by omega) (by omega) W
  have hZ := holds_of_made (Whole.fresh w 5 (madeCells #[Value.int .u8 0] s))
  have hB := (Below.refl w.heap.size w).alloc (Nat.le_refl _) (.cells (madeCells #[Value.int .u8 0] s) 5)
  go_enter Tryd.func32, Tryd.ntmps32
  go_wp2_with fail
  generalize w.alloc (.cells (madeCells #[Value.int .u8 0] s) 5) = W0 at *
  go_loopw [11] (fun s11 wr => ∃ k : Nat, k ≤ s ∧ s11 = .int .i64 k ∧ Holds wr w.heap.size s (hxF n s k) ∧ Below w.heap.size w wr) (fun s11 _ => s - (intOf s11).toNat)
  case atStart => exact ⟨0, by omega, by go_num, hZ.congr (fun i hi => by unfold hxF; rw [if_neg (by omega)]), hB⟩
  case round =>
    obtain ⟨k, hk, rfl, hH, hB⟩ := hrel
    clear hZ hmk
    by_cases hlt : k < s
    · have t1 : decide ((k : Int) < (s : Int)) = true := decide_eq_true (by omega)
      obtain ⟨i, hi⟩ : ∃ i, s - 1 - k = i := ⟨_, rfl⟩
      have hi2 : (s : Int) - 1 - (k : Int) = (i : Int) := by omega
      have hfr := hH.free i
      have hce := hH.cell i (by omega)
      have hx : n / 16 ^ k % 16 < 16 := Nat.mod_lt _ (by decide)
      have hA : bits BinOp.and IntKind.u16 ((n : Int) / 2 ^ (4 * k)) 15 = ((n / 16 ^ k % 16 : Nat) : Int) := by
        have h1 : ((n : Int) / 2 ^ (4 * k)) = ((n / 16 ^ k : Nat) : Int) := by
          rw [show (16 : Nat) ^ k = 2 ^ (4 * k) by rw [Nat.pow_mul]]
          simp
        rw [h1]
        exact and_15 _ (Nat.lt_of_le_of_lt (Nat.div_le_self _ _) hn)
      have hput := hH.put i (dg (n / 16 ^ k % 16)) (Nat.lt_trans (dg_lt _ hx) (by decide))
      have hB2 := hB.setCell (p := ⟨w.heap.size, i, none⟩) (Nat.le_refl _) (.int .u8 (dg (n / 16 ^ k % 16) : Nat))
      have hH2 : ∀ W, Holds W w.heap.size s (upd (hxF n s k) i (dg (n / 16 ^ k % 16))) → Holds W w.heap.size s (hxF n s (k + 1)) := by
        intro W h
        refine h.congr (fun j hj => ?_)
        unfold upd hxF
        by_cases e : j = i
        · subst e
          rw [if_pos rfl, if_pos (by omega), show s - 1 - j = k by omega]
        · rw [if_neg e]
          by_cases e2 : s - k ≤ j
          · rw [if_pos e2, if_pos (by omega)]
          · rw [if_neg e2, if_neg (by omega)]
      replace hH2 := Lib.hid (hH2 _ hput)
      replace hB2 := Lib.hid hB2
      have hsz : hxF n s k i < 256 := hH.byte i (by omega)
      clear hH hput hB
      generalize hxF n s k i = old at *
      generalize n / 16 ^ k % 16 = x at *
      have hdl := dg_lt x hx
      go_wp2_with fail
      have hD := digit_of (S := ⟨#[48, 49, 50, 51, 52, 53, 54, 55, 56, 57, 65, 66, 67, 68, 69, 70]⟩) (by decide) x hx (by rw [show (⟨#[48, 49, 50, 51, 52, 53, 54, 55, 56, 57, 65, 66, 67, 68, 69, 70]⟩ : ByteArray).size = 16 by decide]; omega)
      go_roundw
      case rel => exact ⟨k + 1, by omega, by go_num, by rw [hD]; exact hH2.out, by rw [hD]; exact hB2.out⟩
      case measure => simp [intOf]; omega
    · obtain rfl : k = s := by omega
      have hcv := run_convert_bytes_back (P := Tryd.prog) wr 33 9 5 ⟨w.heap.size, 0, none⟩ k ((hxL n k).map UInt8.ofNat) Tryd.underlying33 Tryd.underlying5 Tryd.underlying9 (fun j hj => by
        have hj' : j < k := by simpa [hxL_len] using hj
        have h1 := hH.cell j hj'
        have h2 : hxF n k k j = (hxL n k)[j]'(by rw [hxL_len]; exact hj') := by
          unfold hxF hxL
          rw [if_pos (by omega), List.getElem_map, List.getElem_range]
        have h3 : (hxL n k)[j]'(by rw [hxL_len]; exact hj') < 128 := hxL_lt n k _ (List.getElem_mem _)
        rw [Addr.add_lit, Nat.zero_add, h1, h2]
        simp [Nat.mod_eq_of_lt (show (hxL n k)[j]'(by rw [hxL_len]; exact hj') < 256 by omega)])
      rw [List.length_map, hxL_len] at hcv
      have hcv2 : (convert 33 9 (.slice (some ⟨w.heap.size, 0, none⟩) k k)).run Tryd.prog wr = .ok (.string (bsOf (hxL n k))) wr := hcv
      rw [hT.out] at hcv2
      clear hcv
      clear hH hT
      go_wp2_with fail
      go_ret
      exact ⟨rfl, hB⟩
end Go.Proofs.YtlogijjgachdjaaDoor
