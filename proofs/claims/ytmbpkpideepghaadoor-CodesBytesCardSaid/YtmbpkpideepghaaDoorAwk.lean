/-
  awake.
-/
import Derived.Test.YtmbpkpideepghaaDoorTxt
namespace Go.Proofs.YtmbpkpideepghaaDoor
open Go.RowKit
set_option maxRecDepth 100000
set_option maxHeartbeats 1000000
set_option linter.unusedVariables false

theorem toList_data (S : ByteArray) : S.toList = S.data.toList := by
  have h : S = bytesN (S.data.toList.map UInt8.toNat) := text_of rfl
  have h2 := bytesN_list (S.data.toList.map UInt8.toNat)
  rw [← h] at h2
  rw [h2, List.map_map]
  have : (UInt8.ofNat ∘ UInt8.toNat) = id := by funext x; simp
  rw [this, List.map_id]
theorem toList_inj {a b : ByteArray} (h : a.toList = b.toList) : a = b := by
  rw [toList_data, toList_data] at h
  apply ByteArray.ext
  exact Array.toList_inj.1 h
def awG : Nat → Nat := fun i => [169, 52, 18].getD i 0
theorem awake_text : textL (awG 0) (operN (awG 0) 0) (fun i => awG (i + 1)) 0 = [76, 68, 65, 32, 35, 36, 49, 50, 51, 52] := by decide +kernel
theorem awake_oper : 1 + operN (awG 0) 0 = 3 := by decide +kernel
theorem awake_ok : txOk 3 awG 0 = true := by decide +kernel
attribute [local irreducible] bytesN textL operN
theorem awake_any (w : World) : Calls Tryd.prog 16 #[] w fun e w' => e = .returned (.bool true) ∧ Below w.heap.size w w' := by
  have hmk : ∀ w : World, (Instr.makeSlice 32 (.int .i64 3) (.int .i64 3)).run Tryd.prog w = .ok (.slice (some ⟨w.heap.size, 0, none⟩) 3 3) (w.alloc (.cells #[.int .u8 0, .int .u8 0, .int .u8 0] 5)) := fun _ => by kernel_rfl
  have hX3 := Whole.fresh w 5 #[.int .u8 169, .int .u8 52, .int .u8 18]
  have hB := (Below.refl w.heap.size w).alloc (Nat.le_refl _) (.cells #[.int .u8 169, .int .u8 52, .int .u8 18] 5)
  have HT := fun (W : World) (hW : Whole W w.heap.size 5 #[.int .u8 169, .int .u8 52, .int .u8 18]) => text_any (some ⟨w.heap.size, 0, none⟩) 3 3 awG 0 0 W
    ⟨fun i hi => by rcases (show i = 0 ∨ i = 1 ∨ i = 2 by omega) with rfl | rfl | rfl <;> decide, .inr ⟨w.heap.size, 0, rfl, hW.lt, fun i hi => by rcases (show i = 0 ∨ i = 1 ∨ i = 2 by omega) with rfl | rfl | rfl <;> exact hW.cell _⟩⟩ (by decide) (by decide) (by decide) (by decide)
  rw [awake_ok, awake_text, awake_oper, show txtV true [76, 68, 65, 32, 35, 36, 49, 50, 51, 52] 3 = .tuple #[.string (bytesN [76, 68, 65, 32, 35, 36, 49, 50, 51, 52]), .int .i64 3, .bool true] from rfl, show ((0 : Nat) : Int) = 0 from rfl] at HT
  have hval : True := trivial
  have hs : (bytesN [76, 68, 65, 32, 35, 36, 49, 50, 51, 52]).toList = [76, 68, 65, 32, 35, 36, 49, 50, 51, 52] := bytesN_list _
  clear hval
  generalize bytesN [76, 68, 65, 32, 35, 36, 49, 50, 51, 52] = S at *
  replace HT := Lib.hid HT
  replace hB := Lib.hid hB
  replace hX3 := Lib.hid hX3
  go_enter Tryd.func16, Tryd.ntmps16
  go_wp2_with fail
  refine (HT.out _ hX3.out).mono ?_
  rintro e W1 ⟨rfl, hb1⟩
  have hB1 := hB.out.trans (hb1.mono hB.out.size)
  clear HT hB hX3 hb1 hmk
  go_wp2_with fail
  go_ret
  exact ⟨rfl, hB1⟩
end Go.Proofs.YtmbpkpideepghaaDoor
