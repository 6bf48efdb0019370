/-
  A song's memory.
-/
import Derived.Test.YtknlbmjncginnaaGreatDoorPPg
import Derived.Test.YtknlbmjncginnaaGreatDoorTMem
import Derived.StillTailTactics
namespace Go.Proofs.YtknlbmjncginnaaGreatDoor
open Go.RowKit Go.Shelf
set_option maxRecDepth 100000
set_option maxHeartbeats 2000000
set_option linter.unusedVariables false
set_option linter.unusedSimpArgs false

def songC (r : Rp) (a : Option Addr) (n c y : Nat) : Array Value := #[.int .u8 (r.A : Nat), .int .u8 (r.X : Nat), .int .u8 (r.Y : Nat), .int .u8 (r.S : Nat), .int .u8 (r.P : Nat), .int .u16 (r.Pc : Nat), .bool r.H, .slice a n c, .int .u8 (y : Nat)]
def songV (r : Rp) (a : Option Addr) (n c y : Nat) : Value := .agg #[.int .u8 (r.A : Nat), .int .u8 (r.X : Nat), .int .u8 (r.Y : Nat), .int .u8 (r.S : Nat), .int .u8 (r.P : Nat), .int .u16 (r.Pc : Nat), .bool r.H, .slice a n c, .int .u8 (y : Nat)]
/-- A song's memory, so many bytes of its program laid. -/
def memS (y pc : Nat) (g : Nat → Nat) : Nat → Nat → Nat
  | 0 => mem0 y
  | k + 1 => upd (memS y pc g k) ((pc + k) % 65536) (g k)
theorem song_any (r : Rp) (a : Option Addr) (n c y : Nat) (g : Nat → Nat) (w : World) (hR : Row w a n g) (hn : n ≤ 140737488355328) (hnc : n ≤ c) (hy : y < 256) (hpc : r.Pc < 65536) :
    Calls Tryz.prog 27 #[songV r a n c y] w fun e w' => ∃ M, w.heap.size ≤ M ∧ e = .returned (.slice (some ⟨M, 0, none⟩) 65536 65536) ∧ Holds w' M 65536 (memS y r.Pc g n) ∧ Below w.heap.size w w' := by
  have hmk : ∀ W, (Instr.makeSlice 25 (.int .i64 65536) (.int .i64 65536)).run Tryz.prog W = .ok (.slice (some ⟨W.heap.size, 0, none⟩) 65536 65536) (W.alloc (Obj.cells (madeCells #[Value.int .u8 0] 65536) 5)) :=
    fun W => run_make_row' (P := Tryz.prog) 25 5 (.int .u8 0) 1 Tryz.underlying25 (by kernel_rfl) rfl .i64 .i64 65536 (by omega) (by omega) W
  have hX := Whole.fresh w 53 (songC r a n c y)
  have hB1 := (Below.refl w.heap.size w).alloc (Nat.le_refl _) (.cells (songC r a n c y) 53)
  have hR1 := hR.below hB1
  have hs1 : (w.alloc (.cells (songC r a n c y) 53)).heap.size = w.heap.size + 1 := World.size_alloc _ _
  unfold songV
  unfold songC at hX hB1 hR1 hs1
  go_enter Tryz.func27, Tryz.ntmps27
  go_upto_region 1 with (fail)
  generalize w.alloc (.cells #[.int .u8 (r.A : Nat), .int .u8 (r.X : Nat), .int .u8 (r.Y : Nat), .int .u8 (r.S : Nat), .int .u8 (r.P : Nat), .int .u16 (r.Pc : Nat), .bool r.H, .slice a n c, .int .u8 (y : Nat)] 53) = V at *
  obtain ⟨T, hTe⟩ : ∃ T, w.heap.size = T := ⟨_, rfl⟩
  have hTle := Lib.hid (Nat.le_of_eq hTe)
  have hB1w := Lib.hid hB1
  rw [hTe] at hX ⊢
  have hZ := holds_of_made (Whole.fresh V 5 (madeCells #[Value.int .u8 0] 65536))
  have hB := (Below.refl V.heap.size V).alloc (Nat.le_refl _) (.cells (madeCells #[Value.int .u8 0] 65536) 5)
  have hXh := Lib.hid hX
  have hRh := Lib.hid hR1
  replace hs1 := Lib.hid hs1
  replace hTe := Lib.hid hTe
  clear hX hR hR1 hB1
  go_wp2_with fail
  generalize V.alloc (.cells (madeCells #[Value.int .u8 0] 65536) 5) = W0 at *
  clear hmk
  obtain ⟨N, hN⟩ : ∃ N : Nat, 65536 = N := ⟨_, rfl⟩
  rw [hN] at hZ ⊢
  have hNb : N ≤ 65536 := by omega
  have hNN := Lib.hid hN
  clear hN
  go_loopw [4] (fun s4 wr => ∃ k : Nat, k ≤ N ∧ s4 = .int .i64 k ∧ Holds wr V.heap.size N (firstM y k) ∧ Below V.heap.size V wr) (fun s4 _ => N - (intOf s4).toNat)
  case atStart => exact ⟨0, by omega, by go_num, hZ.congr (fun i hi => by unfold firstM; rw [if_neg (by omega)]), hB⟩
  case round =>
    obtain ⟨k, hk, rfl, hH, hB⟩ := hrel
    clear hZ
    by_cases hlt : k < N
    · have hfr := hH.free k
      have hce := hH.cell k hlt
      have hx : mem0 y k < 256 := Nat.mod_lt _ (by decide)
      have e1 : ((k : Int) % 256 * (y : Int)) % 256 = (mem0 y k : Nat) := by unfold mem0; push_cast; rfl
      have e2 : ((k : Int) * (y : Int)) % 256 = (mem0 y k : Nat) := by
        have h2 := Int.mul_emod ((k : Int) % 256) y 256
        rw [Int.emod_emod_of_dvd (k : Int) (Int.dvd_refl 256)] at h2
        exact (Int.mul_emod (k : Int) y 256).trans (h2.symm.trans e1)
      have hput := hH.put k (mem0 y k) hx
      rw [firstM_step] at hput
      have hB2 := hB.setCell (p := ⟨V.heap.size, k, none⟩) (Nat.le_refl _) (.int .u8 (mem0 y k : Nat))
      have x8 := (hXh.out.below hB hXh.out.lt).cell 8
      simp only [List.getElem?_toArray, List.getElem?_cons_zero, List.getElem?_cons_succ] at x8
      clear hH hB
      generalize firstM y k k = old at *
      generalize mem0 y k = x at *
      replace hput := Lib.hid hput
      replace hB2 := Lib.hid hB2
      go_wp2_with fail
      go_roundw
      case rel => exact ⟨k + 1, by omega, by go_num, hput.out, hB2.out⟩
      case measure => simp [intOf]; omega
    · obtain rfl : N = k := by omega
      have hH2 := hH.congr (f' := mem0 y) (fun i hi => by unfold firstM; rw [if_pos hi])
      clear hH hlt hk
      go_wp2_with fail
      go_loopw [5] (fun s5 wr => ∃ k : Nat, k ≤ n ∧ s5 = .int .i64 k ∧ Holds wr V.heap.size N (memS y r.Pc g k) ∧ Below V.heap.size V wr) (fun s5 _ => n - (intOf s5).toNat)
      case atStart => exact ⟨0, by omega, by go_num, hH2, hB⟩
      case round =>
        clear hH2 hB
        obtain ⟨k, hk, rfl, hH, hB⟩ := hrel
        have hXr := hXh.out.below hB hXh.out.lt
        have x5 := hXr.cell 5
        have x7 := hXr.cell 7
        simp only [List.getElem?_toArray, List.getElem?_cons_zero, List.getElem?_cons_succ] at x5 x7
        clear hXr
        by_cases hlt : k < n
        · obtain ⟨hf, h0 | ⟨b, o, rfl, hb, hc⟩⟩ := hRh.out
          · omega
          · have hcV := (hB.cell (p := ⟨b, o + k, none⟩) hb).trans (hc k hlt)
            have hA : (r.Pc + k) % 65536 < N := by have := hNN.out; omega
            have hV := hf k hlt
            have hfr := hH.drew.free ((r.Pc + k) % 65536)
            have hce := hH.drew.cell ((r.Pc + k) % 65536) hA
            have hput := hH.drew.put ((r.Pc + k) % 65536) (g k) hV
            have hB2 := hB.drew.setCell (p := ⟨V.heap.size, (r.Pc + k) % 65536, none⟩) (Nat.le_refl _) (.int .u8 (g k : Nat))
            have he : upd (memS y r.Pc g k) ((r.Pc + k) % 65536) (g k) = memS y r.Pc g (k + 1) := rfl
            rw [he] at hput
            have et : IntKind.i64.wrap (((r.Pc : Int) + (k : Int)).tmod 65536) = ((r.Pc + k) % 65536 : Nat) := by
              rw [Int.tmod_eq_emod_of_nonneg (by omega), IntKind.wrap_i64]; omega
            have et2 : ((r.Pc : Int) + (k : Int)).tmod 65536 = ((r.Pc + k) % 65536 : Nat) := by rw [Int.tmod_eq_emod_of_nonneg (by omega)]; omega
            have hw1 : IntKind.i64.wrap (r.Pc : Int) = (r.Pc : Int) := by rw [IntKind.wrap_i64]; omega
            have hw2 : IntKind.i64.wrap ((r.Pc : Int) + (k : Int)) = (r.Pc : Int) + (k : Int) := by rw [IntKind.wrap_i64]; omega
            have hki : (k : Int) < (n : Int) := by omega
            have hAi : (((r.Pc + k) % 65536 : Nat) : Int) < (N : Int) := by omega
            clear hH hB hc hf he
            generalize memS y r.Pc g k ((r.Pc + k) % 65536) = old at *
            generalize (r.Pc + k) % 65536 = x at *
            generalize g k = v at *
            replace hput := Lib.hid hput
            replace hB2 := Lib.hid hB2
            go_upto_region 9 with (fail)
            go_still_tail 14, (by kernel_rfl)
            show wpList _ _ _ _ _ wr.drew
            generalize wr.drew = W9 at *
            go_wp2_with fail
            go_roundw
            case rel => exact ⟨k + 1, by omega, by go_num, hput.out, hB2.out⟩
            case measure => simp [intOf]; omega
        · obtain rfl : k = n := by omega
          have hBw : Below w.heap.size w wr := hB1w.out.trans (hB.mono (by have := hs1.out; omega))
          clear hlt hk
          go_wp2_with fail
          go_ret
          have e := hNN.out
          subst e
          exact ⟨V.heap.size, by have := hs1.out; omega, rfl, hH, hBw⟩
end Go.Proofs.YtknlbmjncginnaaGreatDoor
