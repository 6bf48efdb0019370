/-
  The law's memory: bytes by a rule, then some cells put.
-/
import Derived.Test.YtknlbmjncginnaaGreatDoorPN
import Derived.StillTailTactics
namespace Go.Proofs.YtknlbmjncginnaaGreatDoor
open Go.RowKit Go.Shelf
set_option maxRecDepth 100000
set_option maxHeartbeats 2000000
set_option linter.unusedVariables false

/-- Cells that are read: place and value. -/
def CRow (w : World) (a : Option Addr) (n : Nat) (fA fV : Nat → Nat) : Prop :=
  (∀ i, i < n → fA i < 65536 ∧ fV i < 256) ∧ (n = 0 ∨ ∃ b o, a = some ⟨b, o, none⟩ ∧ b < w.heap.size ∧ ∀ i, i < n → w.cell? ⟨b, o + i * 2, none⟩ = some (.int .u16 (fA i : Nat)) ∧ w.cell? ⟨b, o + i * 2 + 1, none⟩ = some (.int .u8 (fV i : Nat)))
theorem CRow.below {w w' : World} {a : Option Addr} {n : Nat} {fA fV : Nat → Nat} (h : CRow w a n fA fV) (hb : Below w.heap.size w w') : CRow w' a n fA fV := by
  rcases h with ⟨h0, h | ⟨b, o, rfl, hlt, hc⟩⟩
  · exact ⟨h0, .inl h⟩
  · exact ⟨h0, .inr ⟨b, o, rfl, Nat.lt_of_lt_of_le hlt hb.size, fun i hi => ⟨(hb.cell (p := ⟨b, o + i * 2, none⟩) hlt).trans (hc i hi).1, (hb.cell (p := ⟨b, o + i * 2 + 1, none⟩) hlt).trans (hc i hi).2⟩⟩⟩
def mem0 (y i : Nat) : Nat := i % 256 * y % 256
def memC (f fA fV : Nat → Nat) : Nat → Nat → Nat
  | 0 => f
  | k + 1 => upd (memC f fA fV k) (fA k) (fV k)
def firstM (y k i : Nat) : Nat := if i < k then mem0 y i else 0
theorem firstM_step (y k : Nat) : upd (firstM y k) k (mem0 y k) = firstM y (k + 1) := by
  funext j
  unfold upd firstM
  by_cases e : j = k
  · subst e; rw [if_pos rfl, if_pos (by omega)]
  · rw [if_neg e]
    by_cases h : j < k
    · rw [if_pos h, if_pos (by omega)]
    · rw [if_neg h, if_neg (by omega)]
theorem memory_any (a : Option Addr) (n c y : Nat) (fA fV : Nat → Nat) (w : World) (hC : CRow w a n fA fV) (hn : n ≤ 140737488355328) (hy : y < 256) :
    Calls Tryz.prog 19 #[.slice a n c, .int .u8 y] w fun e w' => e = .returned (.slice (some ⟨w.heap.size, 0, none⟩) 65536 65536) ∧ Holds w' w.heap.size 65536 (memC (mem0 y) fA fV n) ∧ Below w.heap.size w w' := by
  have hmk : ∀ W, (Instr.makeSlice 25 (.int .i64 65536) (.int .i64 65536)).run Tryz.prog W = .ok (.slice (some ⟨W.heap.size, 0, none⟩) 65536 65536) (W.alloc (Obj.cells (madeCells #[Value.int .u8 0] 65536) 5)) :=
    fun W => run_make_row' (P := Tryz.prog) 25 5 (.int .u8 0) 1 Tryz.underlying25 (by kernel_rfl) rfl .i64 .i64 65536 (by omega) (by omega) W
  have hZ := holds_of_made (Whole.fresh w 5 (madeCells #[Value.int .u8 0] 65536))
  have hB := (Below.refl w.heap.size w).alloc (Nat.le_refl _) (.cells (madeCells #[Value.int .u8 0] 65536) 5)
  have hCC := Lib.hid hC
  clear hC
  go_enter Tryz.func19, Tryz.ntmps19
  go_wp2_with fail
  generalize w.alloc (.cells (madeCells #[Value.int .u8 0] 65536) 5) = W0 at *
  clear hmk
  obtain ⟨N, hN⟩ : ∃ N : Nat, 65536 = N := ⟨_, rfl⟩
  rw [hN] at hZ ⊢
  have hNb : N ≤ 65536 := by omega
  have hNN := Lib.hid hN
  clear hN
  go_loopw [6] (fun s6 wr => ∃ k : Nat, k ≤ N ∧ s6 = .int .i64 k ∧ Holds wr w.heap.size N (firstM y k) ∧ Below w.heap.size w wr) (fun s6 _ => N - (intOf s6).toNat)
  case atStart => exact ⟨0, by omega, by go_num, hZ.congr (fun i hi => by unfold firstM; rw [if_neg (by omega)]), hB⟩
  case round =>
    obtain ⟨k, hk, rfl, hH, hB⟩ := hrel
    clear hZ
    by_cases hlt : k < N
    · have hfr := hH.free k
      have hce := hH.cell k hlt
      have hx : mem0 y k < 256 := Nat.mod_lt _ (by decide)
      have e1 : ((k : Int) % 256 * (y : Int)) % 256 = (mem0 y k : Nat) := by unfold mem0; push_cast; rfl
      have e2 : ((k : Int) * (y : Int)) % 256 = (mem0 y k : Nat) := by
        have h2 := Int.mul_emod ((k : Int) % 256) y 256
        rw [Int.emod_emod_of_dvd (k : Int) (Int.dvd_refl 256)] at h2
        exact (Int.mul_emod (k : Int) y 256).trans (h2.symm.trans e1)
      have hput := hH.put k (mem0 y k) hx
      rw [firstM_step] at hput
      have hB2 := hB.setCell (p := ⟨w.heap.size, k, none⟩) (Nat.le_refl _) (.int .u8 (mem0 y k : Nat))
      clear hH hB
      generalize firstM y k k = old at *
      generalize mem0 y k = x at *
      replace hput := Lib.hid hput
      replace hB2 := Lib.hid hB2
      go_wp2_with fail
      go_roundw
      case rel => exact ⟨k + 1, by omega, by go_num, hput.out, hB2.out⟩
      case measure => simp [intOf]; omega
    · obtain rfl : N = k := by omega
      have hH2 := hH.congr (f' := mem0 y) (fun i hi => by unfold firstM; rw [if_pos hi])
      clear hH hlt hk
      go_wp2_with fail
      go_loopw [7] (fun s7 wr => ∃ k : Nat, k ≤ n ∧ s7 = .int .i64 k ∧ Holds wr w.heap.size N (memC (mem0 y) fA fV k) ∧ Below w.heap.size w wr) (fun s7 _ => n - (intOf s7).toNat)
      case atStart => exact ⟨0, by omega, by go_num, hH2, hB⟩
      case round =>
        clear hH2 hB
        obtain ⟨k, hk, rfl, hH, hB⟩ := hrel
        by_cases hlt : k < n
        · obtain ⟨hf, h0 | ⟨b, o, rfl, hb, hc⟩⟩ := hCC.out
          · omega
          · have hcA := (hB.cell (p := ⟨b, o + k * 2, none⟩) hb).trans (hc k hlt).1
            have hcV := (hB.cell (p := ⟨b, o + k * 2 + 1, none⟩) hb).trans (hc k hlt).2
            have hA : fA k < N := by have := (hf k hlt).1; have := hNN.out; omega
            have hV := (hf k hlt).2
            have hfr := hH.drew.free (fA k)
            have hce := hH.drew.cell (fA k) hA
            have hput := hH.drew.put (fA k) (fV k) hV
            have hB2 := hB.drew.setCell (p := ⟨w.heap.size, fA k, none⟩) (Nat.le_refl _) (.int .u8 (fV k : Nat))
            have he : upd (memC (mem0 y) fA fV k) (fA k) (fV k) = memC (mem0 y) fA fV (k + 1) := rfl
            rw [he] at hput
            clear hH hB hc hf hCC he
            generalize memC (mem0 y) fA fV k (fA k) = old at *
            generalize fA k = x at *
            generalize fV k = v at *
            replace hput := Lib.hid hput
            replace hB2 := Lib.hid hB2
            go_upto_region 9 with (fail)
            go_still_tail 12, (by kernel_rfl)
            show wpList _ _ _ _ _ wr.drew
            generalize wr.drew = W9 at *
            go_wp2_with fail
            go_roundw
            case rel => exact ⟨k + 1, by omega, by go_num, hput.out, hB2.out⟩
            case measure => simp [intOf]; omega
        · obtain rfl : k = n := by omega
          clear hlt hk
          go_wp2_with fail
          go_ret
          have e := hNN.out
          subst e
          exact ⟨rfl, hH, hB⟩
end Go.Proofs.YtknlbmjncginnaaGreatDoor
