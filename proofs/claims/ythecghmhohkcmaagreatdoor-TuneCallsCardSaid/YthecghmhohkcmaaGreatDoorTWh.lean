/-
  An instruction that is given up is caught; a runner is made.
-/
import Derived.Test.YthecghmhohkcmaaGreatDoorTSum
import Derived.Defers
import Derived.Recover
import Derived.Deep.RegionHeld2
namespace Go.Proofs.YthecghmhohkcmaaGreatDoor
open Go.RowKit Go.Shelf
set_option maxRecDepth 100000
set_option maxHeartbeats 1000000
set_option linter.unusedVariables false

theorem catch_lack (p : Addr) (x : Bool) (older : List PanicEntry) (w : World) (hc : w.cell? p = some (.bool x)) (hz : w.frozen? p = false) :
    CallsD Tryz.prog 46 #[.pointer (some p)] (.panicking ({ v := lackV, recovered := false } :: older)) w fun e u' w' =>
      e = .returned (.tuple #[]) ∧ u' = .panicking ({ v := lackV, recovered := true } :: older) ∧ w' = (w.alloc (.cells #[] 60)).setCell p (.bool false) := by
  have hc' : ∀ o, (w.alloc o).cell? p = some (.bool x) := fun o => (Below.cell ((Below.refl _ w).alloc (Nat.le_refl _) o) (World.block_lt_of_cell? w p hc)).trans hc
  have hz' : ∀ o, (w.alloc o).frozen? p = false := fun o => (World.frozen?_alloc_old w o p (Nat.ne_of_lt (World.block_lt_of_cell? w p hc))).trans hz
  have hta : ∀ W : World, (Instr.typeAssert (.iface 60 (.agg #[])) 20 60 true).run Tryz.prog W = .ok (.tuple #[.agg #[], .bool true]) W := fun _ => by kernel_rfl
  unfold lackV at *
  refine callsD_of_wpS Tryz.func46 rfl fun c₀ cs hu => ?_
  apply wpS_seq
  apply wpS_region
  simp [wpOpsS, go_sem, recoverD, hu, Tryz.ntmps46, Exit.thenS]
  refine wpS_of_wp ?_
  simp only [Array.replicate_succ, Array.replicate_zero, List.push_toArray, List.append_toArray, List.nil_append, List.cons_append, List.setIfInBounds_toArray, List.set_cons_succ, List.set_cons_zero]
  go_wp2
  exact ⟨rfl, _, rfl, .tuple #[], results_none rfl _ _ _, rfl, rfl, rfl⟩
theorem catch_idle (p : Addr) (w : World) :
    CallsD Tryz.prog 46 #[.pointer (some p)] .returning w fun e u' w' => e = .returned (.tuple #[]) ∧ u' = .returning ∧ w' = w := by
  refine callsD_of_wpS Tryz.func46 rfl fun c₀ cs hu => ?_
  apply wpS_seq
  apply wpS_region
  simp [wpOpsS, go_sem, recoverD, hu, Tryz.ntmps46, Exit.thenS]
  refine wpS_of_wp ?_
  simp only [Array.replicate_succ, Array.replicate_zero, List.push_toArray, List.append_toArray, List.nil_append, List.cons_append, List.setIfInBounds_toArray, List.set_cons_succ, List.set_cons_zero]
  go_wp2
  refine ⟨rfl, .returning, by cases c₀; simp_all, .tuple #[], results_none rfl _ _ _, rfl, rfl, rfl⟩
theorem whole_any {k : Nat} {fs : Array Value} (w : World) (G B : World → Prop) (hen : ∀ (args : Array Value) (W : World), (callFunc k args).run Tryz.prog W = .ok (.enter k args) W)
    (hdo : Calls Tryz.prog k fs (w.alloc (.cells #[.bool false] 4)) fun e w' => Whole w' w.heap.size 4 #[.bool false] ∧ ((e = .returned (.tuple #[]) ∧ G w') ∨ (e = lackE ∧ B w'))) :
    Calls Tryz.prog 25 #[.func (.func k) fs #[]] w fun e w' => (e = .returned (.bool true) ∧ ∃ V, G V ∧ w' = V.setCell ⟨w.heap.size, 0, none⟩ (.bool true)) ∨
      (e = .returned (.bool false) ∧ ∃ V, B V ∧ w' = (V.alloc (.cells #[] 60)).setCell ⟨w.heap.size, 0, none⟩ (.bool false)) := by
  have hmf : ∀ (fn : Fn) (first cap : Array Value) (w : World), (Instr.makeFunc fn first cap).run Tryz.prog w = .ok (.func fn first cap) w := fun _ _ _ _ => rfl
  replace hdo := Lib.hid hdo
  go_enter_defers Tryz.func25, Tryz.ntmps25
  go_wp2_with fail
  refine hdo.out.mono ?_
  rintro e w' ⟨hW, (⟨rfl, hG⟩ | ⟨rfl, hB⟩)⟩
  · have h0 := hW.cell 0
    have h1 := hW.free 0
    simp only [List.getElem?_toArray, List.getElem?_cons_zero] at h0
    clear hdo
    go_wp2_with fail
    refine leaves_cons (f := 46) (args := #[.pointer (some ⟨w.heap.size, 0, none⟩)]) (by simp) (by simp [go_sem]) ?_
    refine (catch_idle ⟨w.heap.size, 0, none⟩ _).mono ?_
    rintro e u' w'' ⟨rfl, rfl, rfl⟩
    have h2 := (hW.put 0 (.bool true)).cell 0
    simp only [List.getElem?_toArray, List.getElem?_cons_zero, List.setIfInBounds_toArray, List.set_cons_zero] at h2
    clear hen hmf h0 h1 hW
    simp [Leaves, settle, results, Tryz.results25, go_sem, h2]
    exact ⟨_, hG, rfl⟩
  · clear hdo
    unfold lackE
    have h0 := hW.cell 0
    have h1 := hW.free 0
    simp only [List.getElem?_toArray, List.getElem?_cons_zero] at h0
    go_wp2_with fail
    refine leaves_cons (f := 46) (args := #[.pointer (some ⟨w.heap.size, 0, none⟩)]) (by simp) (by simp [go_sem]) ?_
    refine (catch_lack ⟨w.heap.size, 0, none⟩ false [] _ h0 h1).mono ?_
    rintro e u' w'' ⟨rfl, rfl, rfl⟩
    have h2 := ((hW.alloc (.cells #[] 60)).put 0 (.bool false)).cell 0
    simp only [List.getElem?_toArray, List.getElem?_cons_zero, List.setIfInBounds_toArray, List.set_cons_zero] at h2
    clear hen hmf h0 h1 hW
    simp [Leaves, settle, results, Tryz.results25, go_sem, h2]
    exact ⟨_, hB, rfl⟩
def pegC (r : Rp) : Array Value := #[.int .u8 r.A, .int .u8 r.X, .int .u8 r.Y, .int .u8 r.S, .int .u8 r.P, .int .u16 r.Pc, .bool r.H]
def pegV (r : Rp) : Value := .agg #[.int .u8 r.A, .int .u8 r.X, .int .u8 r.Y, .int .u8 r.S, .int .u8 r.P, .int .u16 r.Pc, .bool r.H]
def z0 : Zs := ⟨.int .u8 0, .string ⟨#[]⟩, .string ⟨#[]⟩, .int .i64 0, .int .i64 0, .int .u8 0, .int .u16 0, .nilFunc, .nilFunc, .int .u8 0, .int .u16 0, .nilFunc, .nilFunc⟩
def made12 : Array Value := #[.int .u8 0, .int .u32 0, .int .u8 0, .int .u8 0, .int .u32 0, .int .u8 0, .int .u8 0, .int .u32 0, .int .u8 0, .int .u8 0, .int .u32 0, .int .u8 0, .int .u8 0, .int .u32 0, .int .u8 0, .int .u8 0, .int .u32 0, .int .u8 0, .int .u8 0, .int .u32 0, .int .u8 0, .int .u8 0, .int .u32 0, .int .u8 0, .int .u8 0, .int .u32 0, .int .u8 0, .int .u8 0, .int .u32 0, .int .u8 0, .int .u8 0, .int .u32 0, .int .u8 0, .int .u8 0, .int .u32 0, .int .u8 0]
theorem make12 : ∀ w : World, (Instr.makeSlice 26 (.int .i64 0) (.int .i64 12)).run Tryz.prog w = .ok (.slice (some ⟨w.heap.size, 0, none⟩) 0 12) (w.alloc (.cells made12 42)) := fun _ => by kernel_rfl
theorem owns12 (w : World) (B : Nat) (hB : B ≤ w.heap.size) : (w.alloc (.cells made12 42)).ownsRow B 42 3 (.slice (some ⟨w.heap.size, 0, none⟩) 0 12) 0 [] := by
  refine ⟨rfl, .inr ⟨w.heap.size, 12, made12, rfl, hB, Whole.fresh w _ _, by decide, by unfold maxLen; decide, by decide, by rfl⟩⟩
theorem runnerOf_any (r : Rp) (kf : Nat) (x : Nat) (w : World) :
    Calls Tryz.prog 23 #[pegV r, .func (.func kf) #[] #[.pointer (some ⟨x, 0, none⟩)]] w fun e w' => ∃ b lv, e = .returned (.pointer (some ⟨b, 0, none⟩)) ∧ Below w.heap.size w w' ∧ w.heap.size ≤ b ∧
      Whole w' b 68 (rnT r (.func (.func kf) #[] #[.pointer (some ⟨x, 0, none⟩)]) lv z0) ∧ w'.ownsRow w.heap.size 42 3 lv 0 [] := by
  obtain ⟨Q, hQ, F⟩ := post_name (fun (e : Ending) (w' : World) => ∃ b lv, e = .returned (.pointer (some ⟨b, 0, none⟩)) ∧ Below w.heap.size w w' ∧ w.heap.size ≤ b ∧ Whole w' b 68 (rnT r (.func (.func kf) #[] #[.pointer (some ⟨x, 0, none⟩)]) lv z0) ∧ w'.ownsRow w.heap.size 42 3 lv 0 [])
  rw [hQ]
  clear hQ
  replace F := Lib.hid F
  have hX := Whole.fresh w 24 (pegC r)
  unfold pegC at hX
  unfold pegV
  have x0 := hX.cell 0
  have x1 := hX.cell 1
  have x2 := hX.cell 2
  have x3 := hX.cell 3
  have x4 := hX.cell 4
  have x5 := hX.cell 5
  have x6 := hX.cell 6
  simp only [List.getElem?_toArray, List.getElem?_cons_zero, List.getElem?_cons_succ] at x0 x1 x2 x3 x4 x5 x6
  go_enter Tryz.func23, Tryz.ntmps23
  have hmk := make12
  go_upto_region 1 with (fail)
  have hBw := (Below.refl w.heap.size w).alloc (Nat.le_refl _) (.cells #[.int .u8 r.A, .int .u8 r.X, .int .u8 r.Y, .int .u8 r.S, .int .u8 r.P, .int .u16 r.Pc, .bool r.H] 24)
  have hsz : (w.alloc (.cells #[.int .u8 r.A, .int .u8 r.X, .int .u8 r.Y, .int .u8 r.S, .int .u8 r.P, .int .u16 r.Pc, .bool r.H] 24)).heap.size = w.heap.size + 1 := by simp
  generalize w.alloc (.cells #[.int .u8 r.A, .int .u8 r.X, .int .u8 r.Y, .int .u8 r.S, .int .u8 r.P, .int .u16 r.Pc, .bool r.H] 24) = W1 at *
  generalize hX0 : w.heap.size = X at *
  replace hX0 := Lib.hid hX0
  replace hsz := Lib.hid hsz
  replace hBw := Lib.hid hBw
  clear hX
  go_region_held2 (fun W => W.cell? ⟨X, 0, none⟩ = some (.int .u8 (r.A : Nat)) ∧ W.cell? ⟨X, 1, none⟩ = some (.int .u8 (r.X : Nat)) ∧ W.cell? ⟨X, 2, none⟩ = some (.int .u8 (r.Y : Nat)) ∧ W.cell? ⟨X, 3, none⟩ = some (.int .u8 (r.S : Nat)) ∧ W.cell? ⟨X, 4, none⟩ = some (.int .u8 (r.P : Nat)) ∧ W.cell? ⟨X, 5, none⟩ = some (.int .u16 (r.Pc : Nat)) ∧ W.cell? ⟨X, 6, none⟩ = some (.bool r.H)) (go_keep) (fail)
  have hb2 : X ≤ W1.heap.size := by have := hsz.out; omega
  have hF1 := Whole.fresh (W1.alloc (.cells made12 42)) 68 (rnT r (.func (.func kf) #[] #[.pointer (some ⟨x, 0, none⟩)]) (.slice (some ⟨W1.heap.size, 0, none⟩) 0 12) z0)
  rw [show (W1.alloc (.cells made12 42)).heap.size = W1.heap.size + 1 by simp] at hF1
  have hF2 := (owns12 W1 X hb2).alloc (.cells (rnT r (.func (.func kf) #[] #[.pointer (some ⟨x, 0, none⟩)]) (.slice (some ⟨W1.heap.size, 0, none⟩) 0 12) z0) 68)
  have hF3 := ((hBw.out.alloc hb2 (.cells made12 42)).alloc (by simp; omega) (.cells (rnT r (.func (.func kf) #[] #[.pointer (some ⟨x, 0, none⟩)]) (.slice (some ⟨W1.heap.size, 0, none⟩) 0 12) z0) 68)).drew
  have hfin := Lib.hid (F.out (.returned (.pointer (some ⟨W1.heap.size + 1, 0, none⟩))) _ ⟨_, _, rfl, hF3, show X ≤ W1.heap.size + 1 by omega, hF1.drew, hF2.drew⟩)
  unfold rnT z0 at hfin
  clear hF1 hF2 hF3 hmk x0 x1 x2 x3 x4 x5 x6
  clear F
  go_wp2_with fail
  exact hfin.out
end Go.Proofs.YthecghmhohkcmaaGreatDoor
