/-
  What goes wrong: refuse, the deferred function that recovers, attempt.
-/
import Derived.Test.YtacnmnodbmbplaaMem
import Derived.WalkKit
import Derived.WalkLawsBesides
import Derived.WalkSpells
import Derived.Defers
import Derived.Recover
import Derived.Lib.Hide
import Derived.Laws.EntriesVeiled
namespace Go.Proofs.Ytacnmnodbmbplaa
open Go.RowKit
set_option maxRecDepth 100000
set_option maxHeartbeats 1000000

theorem below_only {B g : Nat} {v w W : World} (h : Below B v w) (o : w.grownBy W (some g)) (hB : B ≤ g) (hs : B ≤ w.heap.size) : Below B v W :=
  h.trans ⟨o.os, o.tape, o.output, o.size, fun k hk => o.block k (by omega) (fun e => by injection e with e; omega)⟩

/-- A fault, as a panic's value. -/
def faultV (c : Int) : Value := .iface 101 (.agg #[.int .i64 c])
def fault (c : Int) : Ending := .panicked [{ v := faultV c, recovered := false }]

theorem refuse_no (c : Int) (w : World) : Calls Try.prog 40 #[.bool false, .int .i64 c] w fun e w' => e = .returned (.tuple #[]) ∧ w' = w := by
  go_enter Try.func40, Try.ntmps40
  go_wp2
  go_end0
  exact ⟨rfl, rfl⟩
theorem refuse_yes (c : Int) (w : World) : Calls Try.prog 40 #[.bool true, .int .i64 c] w fun e w' => e = fault c ∧ w' = w := by
  go_enter Try.func40, Try.ntmps40
  go_wp2
  exact ⟨rfl, by rfl, rfl⟩
theorem catch_fault (p : Addr) (x c : Int) (older : List PanicEntry) (w : World) (hc : w.cell? p = some (.int .i64 x)) (hz : w.frozen? p = false) :
    CallsD Try.prog 72 #[.pointer (some p)] (.panicking ({ v := faultV c, recovered := false } :: older)) w fun e u' w' =>
      e = .returned (.tuple #[]) ∧ u' = .panicking ({ v := faultV c, recovered := true } :: older) ∧ w' = (w.alloc (.cells #[.int .i64 c] 101)).setCell p (.int .i64 c) := by
  have hc' : ∀ o, (w.alloc o).cell? p = some (.int .i64 x) := fun o => (Below.cell ((Below.refl _ w).alloc (Nat.le_refl _) o) (World.block_lt_of_cell? w p hc)).trans hc
  have hz' : ∀ o, (w.alloc o).frozen? p = false := fun o => (World.frozen?_alloc_old w o p (Nat.ne_of_lt (World.block_lt_of_cell? w p hc))).trans hz
  have hta : ∀ W : World, (Instr.typeAssert (.iface 101 (.agg #[.int .i64 c])) 20 101 true).run Try.prog W = .ok (.tuple #[.agg #[.int .i64 c], .bool true]) W := fun _ => by kernel_rfl
  unfold faultV at *
  refine callsD_of_wpS Try.func72 rfl fun c₀ cs hu => ?_
  apply wpS_seq
  apply wpS_region
  simp [wpOpsS, go_sem, recoverD, hu, Try.ntmps72, Exit.thenS]
  refine wpS_of_wp ?_
  simp only [Array.replicate_succ, Array.replicate_zero, List.push_toArray, List.append_toArray, List.nil_append, List.cons_append, List.setIfInBounds_toArray, List.set_cons_succ, List.set_cons_zero]
  go_wp2
  exact ⟨rfl, _, rfl, .tuple #[], results_none rfl _ _ _, rfl, rfl, rfl⟩
theorem catch_idle (p : Addr) (w : World) :
    CallsD Try.prog 72 #[.pointer (some p)] .returning w fun e u' w' => e = .returned (.tuple #[]) ∧ u' = .returning ∧ w' = w := by
  refine callsD_of_wpS Try.func72 rfl fun c₀ cs hu => ?_
  apply wpS_seq
  apply wpS_region
  simp [wpOpsS, go_sem, recoverD, hu, Try.ntmps72, Exit.thenS]
  refine wpS_of_wp ?_
  simp only [Array.replicate_succ, Array.replicate_zero, List.push_toArray, List.append_toArray, List.nil_append, List.cons_append, List.setIfInBounds_toArray, List.set_cons_succ, List.set_cons_zero]
  go_wp2
  refine ⟨rfl, .returning, by cases c₀; simp_all, .tuple #[], results_none rfl _ _ _, rfl, rfl, rfl⟩
theorem attempt_any {k : Nat} {caps : Array Value} (w : World) (G : World → Prop) (B : Int → World → Prop) (hen : ∀ (args : Array Value) (W : World), (callFunc k args).run Try.prog W = .ok (.enter k args) W)
    (hdo : Calls Try.prog k caps (w.alloc (.cells #[.int .i64 0] 27)) fun e w' => Whole w' w.heap.size 27 #[.int .i64 0] ∧ ((e = .returned (.tuple #[]) ∧ G w') ∨ ∃ c, e = fault c ∧ B c w')) :
    Calls Try.prog 38 #[.func (.func k) #[] caps] w fun e w' => (e = .returned (.int .i64 0) ∧ ∃ V, G V ∧ w' = V.setCell ⟨w.heap.size, 0, none⟩ (.int .i64 0)) ∨
      ∃ c V, e = .returned (.int .i64 c) ∧ B c V ∧ w' = (V.alloc (.cells #[.int .i64 c] 101)).setCell ⟨w.heap.size, 0, none⟩ (.int .i64 c) := by
  have hmf : ∀ (fn : Fn) (first cap : Array Value) (w : World), (Instr.makeFunc fn first cap).run Try.prog w = .ok (.func fn first cap) w := fun _ _ _ _ => rfl
  replace hdo := Lib.hid hdo
  go_enter_defers Try.func38, Try.ntmps38
  go_wp2_with fail
  refine hdo.out.mono ?_
  rintro e w' ⟨hW, (⟨rfl, hG⟩ | ⟨c, rfl, hB⟩)⟩
  · have h0 := hW.cell 0
    have h1 := hW.free 0
    simp only [List.getElem?_toArray, List.getElem?_cons_zero] at h0
    clear hdo
    go_wp2_with fail
    refine leaves_cons (f := 72) (args := #[.pointer (some ⟨w.heap.size, 0, none⟩)]) (by simp) (by simp [go_sem]) ?_
    refine (catch_idle ⟨w.heap.size, 0, none⟩ _).mono ?_
    rintro e u' w'' ⟨rfl, rfl, rfl⟩
    have h2 := (hW.put 0 (.int .i64 0)).cell 0
    simp only [List.getElem?_toArray, List.getElem?_cons_zero, List.setIfInBounds_toArray, List.set_cons_zero] at h2
    clear hen hmf h0 h1 hW
    simp [Leaves, settle, results, Try.results38, go_sem, h2]
    exact .inl ⟨_, hG, rfl⟩
  · clear hdo
    unfold fault
    have h0 := hW.cell 0
    have h1 := hW.free 0
    simp only [List.getElem?_toArray, List.getElem?_cons_zero] at h0
    go_wp2_with fail
    refine leaves_cons (f := 72) (args := #[.pointer (some ⟨w.heap.size, 0, none⟩)]) (by simp) (by simp [go_sem]) ?_
    refine (catch_fault ⟨w.heap.size, 0, none⟩ 0 c [] _ h0 h1).mono ?_
    rintro e u' w'' ⟨rfl, rfl, rfl⟩
    have h2 := ((hW.alloc (.cells #[.int .i64 c] 101)).put 0 (.int .i64 c)).cell 0
    simp only [List.getElem?_toArray, List.getElem?_cons_zero, List.setIfInBounds_toArray, List.set_cons_zero] at h2
    clear hen hmf h0 h1 hW
    simp [Leaves, settle, results, Try.results38, go_sem, h2]
    exact .inr ⟨_, hB, rfl⟩
end Go.Proofs.Ytacnmnodbmbplaa
