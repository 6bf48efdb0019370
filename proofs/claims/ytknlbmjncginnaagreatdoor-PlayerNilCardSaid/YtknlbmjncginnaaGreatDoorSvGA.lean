/-
  What goes wrong: refuse, the deferred function that recovers, attempt.
-/
import Derived.Test.YtknlbmjncginnaaGreatDoorMem
import Derived.WalkKit
import Derived.WalkLawsBesides
import Derived.WalkSpells
import Derived.Defers
import Derived.Recover
import Derived.Lib.Hide
import Derived.Laws.EntriesVeiled
import Derived.Laws.OwnMore
namespace Go.Proofs.YtknlbmjncginnaaGreatDoor
open Go.RowKit
set_option maxRecDepth 100000
set_option maxHeartbeats 1000000

theorem below_only {B g : Nat} {v w W : World} (h : Below B v w) (o : w.grownBy W (some g)) (hB : B ≤ g) (hs : B ≤ w.heap.size) : Below B v W :=
  h.trans ⟨o.os, o.tape, o.output, o.size, fun k hk => o.block k (by omega) (fun e => by injection e with e; omega)⟩

/-- A fault, as a panic's value. -/
def faultV (c : Int) : Value := .iface 139 (.agg #[.int .i64 c])
def fault (c : Int) : Ending := .panicked [{ v := faultV c, recovered := false }]

theorem refuse_no (c : Int) (w : World) : Calls Tryz.prog 59 #[.bool false, .int .i64 c] w fun e w' => e = .returned (.tuple #[]) ∧ w' = w := by
  go_enter Tryz.func59, Tryz.ntmps59
  go_wp2
  go_end0
  exact ⟨rfl, rfl⟩
theorem refuse_yes (c : Int) (w : World) : Calls Tryz.prog 59 #[.bool true, .int .i64 c] w fun e w' => e = fault c ∧ w' = w := by
  go_enter Tryz.func59, Tryz.ntmps59
  go_wp2
  exact ⟨rfl, by rfl, rfl⟩
theorem catch_fault (p : Addr) (x c : Int) (older : List PanicEntry) (w : World) (hc : w.cell? p = some (.int .i64 x)) (hz : w.frozen? p = false) :
    CallsD Tryz.prog 104 #[.pointer (some p)] (.panicking ({ v := faultV c, recovered := false } :: older)) w fun e u' w' =>
      e = .returned (.tuple #[]) ∧ u' = .panicking ({ v := faultV c, recovered := true } :: older) ∧ w' = (w.alloc (.cells #[.int .i64 c] 139)).setCell p (.int .i64 c) := by
  have hc' : ∀ o, (w.alloc o).cell? p = some (.int .i64 x) := fun o => (Below.cell ((Below.refl _ w).alloc (Nat.le_refl _) o) (World.block_lt_of_cell? w p hc)).trans hc
  have hz' : ∀ o, (w.alloc o).frozen? p = false := fun o => (World.frozen?_alloc_old w o p (Nat.ne_of_lt (World.block_lt_of_cell? w p hc))).trans hz
  have hta : ∀ W : World, (Instr.typeAssert (.iface 139 (.agg #[.int .i64 c])) 20 139 true).run Tryz.prog W = .ok (.tuple #[.agg #[.int .i64 c], .bool true]) W := fun _ => by kernel_rfl
  unfold faultV at *
  refine callsD_of_wpS Tryz.func104 rfl fun c₀ cs hu => ?_
  apply wpS_seq
  apply wpS_region
  simp [wpOpsS, go_sem, recoverD, hu, Tryz.ntmps104, Exit.thenS]
  refine wpS_of_wp ?_
  simp only [Array.replicate_succ, Array.replicate_zero, List.push_toArray, List.append_toArray, List.nil_append, List.cons_append, List.setIfInBounds_toArray, List.set_cons_succ, List.set_cons_zero]
  go_wp2
  exact ⟨rfl, _, rfl, .tuple #[], results_none rfl _ _ _, rfl, rfl, rfl⟩
theorem catch_idle (p : Addr) (w : World) :
    CallsD Tryz.prog 104 #[.pointer (some p)] .returning w fun e u' w' => e = .returned (.tuple #[]) ∧ u' = .returning ∧ w' = w := by
  refine callsD_of_wpS Tryz.func104 rfl fun c₀ cs hu => ?_
  apply wpS_seq
  apply wpS_region
  simp [wpOpsS, go_sem, recoverD, hu, Tryz.ntmps104, Exit.thenS]
  refine wpS_of_wp ?_
  simp only [Array.replicate_succ, Array.replicate_zero, List.push_toArray, List.append_toArray, List.nil_append, List.cons_append, List.setIfInBounds_toArray, List.set_cons_succ, List.set_cons_zero]
  go_wp2
  refine ⟨rfl, .returning, by cases c₀; simp_all, .tuple #[], results_none rfl _ _ _, rfl, rfl, rfl⟩
theorem attempt_any {k : Nat} {caps : Array Value} (w : World) (G : World → Prop) (B : Int → World → Prop) (hen : ∀ (args : Array Value) (W : World), (callFunc k args).run Tryz.prog W = .ok (.enter k args) W)
    (hdo : Calls Tryz.prog k caps (w.alloc (.cells #[.int .i64 0] 35)) fun e w' => Whole w' w.heap.size 35 #[.int .i64 0] ∧ ((e = .returned (.tuple #[]) ∧ G w') ∨ ∃ c, e = fault c ∧ B c w')) :
    Calls Tryz.prog 57 #[.func (.func k) #[] caps] w fun e w' => (e = .returned (.int .i64 0) ∧ ∃ V, G V ∧ w' = V.setCell ⟨w.heap.size, 0, none⟩ (.int .i64 0)) ∨
      ∃ c V, e = .returned (.int .i64 c) ∧ B c V ∧ w' = (V.alloc (.cells #[.int .i64 c] 139)).setCell ⟨w.heap.size, 0, none⟩ (.int .i64 c) := by
  have hmf : ∀ (fn : Fn) (first cap : Array Value) (w : World), (Instr.makeFunc fn first cap).run Tryz.prog w = .ok (.func fn first cap) w := fun _ _ _ _ => rfl
  replace hdo := Lib.hid hdo
  go_enter_defers Tryz.func57, Tryz.ntmps57
  go_wp2_with fail
  refine hdo.out.mono ?_
  rintro e w' ⟨hW, (⟨rfl, hG⟩ | ⟨c, rfl, hB⟩)⟩
  · have h0 := hW.cell 0
    have h1 := hW.free 0
    simp only [List.getElem?_toArray, List.getElem?_cons_zero] at h0
    clear hdo
    go_wp2_with fail
    refine leaves_cons (f := 104) (args := #[.pointer (some ⟨w.heap.size, 0, none⟩)]) (by simp) (by simp [go_sem]) ?_
    refine (catch_idle ⟨w.heap.size, 0, none⟩ _).mono ?_
    rintro e u' w'' ⟨rfl, rfl, rfl⟩
    have h2 := (hW.put 0 (.int .i64 0)).cell 0
    simp only [List.getElem?_toArray, List.getElem?_cons_zero, List.setIfInBounds_toArray, List.set_cons_zero] at h2
    clear hen hmf h0 h1 hW
    simp [Leaves, settle, results, Tryz.results57, go_sem, h2]
    exact .inl ⟨_, hG, rfl⟩
  · clear hdo
    unfold fault
    have h0 := hW.cell 0
    have h1 := hW.free 0
    simp only [List.getElem?_toArray, List.getElem?_cons_zero] at h0
    go_wp2_with fail
    refine leaves_cons (f := 104) (args := #[.pointer (some ⟨w.heap.size, 0, none⟩)]) (by simp) (by simp [go_sem]) ?_
    refine (catch_fault ⟨w.heap.size, 0, none⟩ 0 c [] _ h0 h1).mono ?_
    rintro e u' w'' ⟨rfl, rfl, rfl⟩
    have h2 := ((hW.alloc (.cells #[.int .i64 c] 139)).put 0 (.int .i64 c)).cell 0
    simp only [List.getElem?_toArray, List.getElem?_cons_zero, List.setIfInBounds_toArray, List.set_cons_zero] at h2
    clear hen hmf h0 h1 hW
    simp [Leaves, settle, results, Tryz.results57, go_sem, h2]
    exact .inr ⟨_, hB, rfl⟩
end Go.Proofs.YtknlbmjncginnaaGreatDoor
namespace Go.Proofs.YtknlbmjncginnaaGreatDoor
open Go.RowKit Go.Shelf
set_option maxRecDepth 100000
set_option maxHeartbeats 1000000

/-- The first k bytes, then noughts. -/
def first (f : Nat → Nat) (k : Nat) : Nat → Nat := fun j => if j < k then f j else 0
theorem first_step (f : Nat → Nat) (k : Nat) : upd (first f k) k (f k) = first f (k + 1) := by
  funext j
  unfold upd first
  by_cases e : j = k
  · subst e; simp
  · rw [if_neg e]
    by_cases h : j < k
    · rw [if_pos h, if_pos (by omega)]
    · rw [if_neg h, if_neg (by omega)]
theorem copy_any (a : Option Addr) (n cap : Nat) (f : Nat → Nat) (w : World) (h : Row w a n f) (hn : n ≤ 140737488355328) :
    Calls Tryz.prog 15 #[.slice a n cap] w fun e w' => ∃ G, e = .returned (.slice (some ⟨G, 0, none⟩) n n) ∧ Holds w' G n f ∧ w.heap.size ≤ G ∧ Below w.heap.size w w' := by
  have hmk := fun W => run_make_row' (P := Tryz.prog) 25 5 (.int .u8 0) 1 Tryz.underlying25 (by kernel_rfl) rfl .i64 .i64 n (by omega) (by omega) W
  go_enter Tryz.func15, Tryz.ntmps15
  go_wp2_with fail
  have hB0 : Below w.heap.size w (w.alloc (Obj.cells (madeCells #[Value.int .u8 0] n) 5)) := (Below.refl _ w).alloc (Nat.le_refl _) _
  have hH0 := holds_of_made (Whole.fresh w 5 (madeCells #[Value.int .u8 0] n))
  generalize (w.alloc (Obj.cells (madeCells #[Value.int .u8 0] n) 5)) = W0 at hB0 hH0 ⊢
  clear hmk
  obtain ⟨G, hG⟩ : ∃ G, w.heap.size = G := ⟨_, rfl⟩
  have hle : w.heap.size ≤ G := by omega
  rw [hG] at hH0 hB0 ⊢
  go_loopw [4] (fun i wr => ∃ k : Nat, k ≤ n ∧ i = .int .i64 k ∧ Holds wr G n (first f k) ∧ Below G w wr) (fun i _ => n - (intOf i).toNat)
  case atStart => exact ⟨0, Nat.zero_le _, rfl, hH0.congr (fun i _ => by simp [first]), hB0⟩
  case round =>
    obtain ⟨k, hk, rfl, hH, hB⟩ := hrel
    clear hB0 hH0
    by_cases hlt : k < n
    · rcases h with ⟨hb, h0 | ⟨b, o, rfl, hbl, hc⟩⟩
      · omega
      have hck := (hB.cell (p := ⟨b, o + k, none⟩) (show b < G by omega)).trans (hc k hlt)
      have hfk := hH.free k
      have hwk := hH.cell k hlt
      have hx := hb k hlt
      have hP := hH.put k (f k) hx
      rw [first_step] at hP
      have hB2 := hB.setCell (p := ⟨G, k, none⟩) (Nat.le_refl _) (.int .u8 (f k : Nat))
      clear hc hH
      generalize f k = x at *
      go_wp2_with fail
      refine ⟨⟨k + 1, by omega, by congr 1, hP, hB2⟩, ?_⟩
      simp only [intOf]
      omega
    · obtain rfl : k = n := by omega
      go_wp2_with fail
      go_ret
      exact ⟨G, rfl, hH.congr (fun i hi => by simp [first, hi]), hle, hG ▸ hB⟩
theorem same_any (a b : Option Addr) (n c d : Nat) (f : Nat → Nat) (w : World) (h1 : Row w a n f) (h2 : Row w b n f) (hn : n ≤ 140737488355328) :
    Calls Tryz.prog 18 #[.slice a n c, .slice b n d] w fun e w' => e = .returned (.bool true) ∧ ∃ q, w' = w.drewN q := by
  have H1 := Lib.hid h1
  have H2 := Lib.hid h2
  clear h1 h2
  go_enter Tryz.func18, Tryz.ntmps18
  go_wp2_with fail
  go_loopw [5] (fun si wr => ∃ k : Nat, k ≤ n ∧ si = .int .i64 k ∧ Hid (∃ q, wr = w.drewN q)) (fun si _ => n - (intOf si).toNat)
  case atStart => exact ⟨0, Nat.zero_le _, rfl, Lib.hid ⟨0, rfl⟩⟩
  case round =>
    obtain ⟨k, hk, rfl, hq⟩ := hrel
    by_cases hlt : k < n
    · rcases H1.out with ⟨hx, h0 | ⟨b, o, rfl, hb, hcell⟩⟩
      · omega
      rcases H2.out with ⟨_, h0 | ⟨b', o', rfl, hb', hcell'⟩⟩
      · omega
      have d1 : wr.cell? ⟨b, o + k, none⟩ = some (.int .u8 (f k : Nat)) := by
        obtain ⟨q, e⟩ := hq.out
        rw [e]
        exact hcell k hlt
      have d2 : wr.cell? ⟨b', o' + k, none⟩ = some (.int .u8 (f k : Nat)) := by
        obtain ⟨q, e⟩ := hq.out
        rw [e]
        exact hcell' k hlt
      clear hx hcell hcell'
      generalize f k = z at d1 d2
      go_wp2_with fail
      go_quiet (fail)
      go_wp2_with fail
      go_roundw
      case rel => exact ⟨k + 1, by omega, by go_num, Lib.hid (by obtain ⟨q, e⟩ := hq.out; exact ⟨q + nq, by rw [e]; simp [World.drewN, Nat.add_assoc]⟩)⟩
      case measure => simp [intOf]; omega
    · obtain rfl : k = n := by omega
      go_wp2_with fail
      go_ret
      exact ⟨rfl, hq.out⟩
end Go.Proofs.YtknlbmjncginnaaGreatDoor
namespace Go.Proofs.YtknlbmjncginnaaGreatDoor
open Go.RowKit
set_option maxRecDepth 100000
set_option maxHeartbeats 1000000

theorem makeF : ∀ (fn : Fn) (first cap : Array Value) (w : World), (Instr.makeFunc fn first cap).run Tryz.prog w = .ok (.func fn first cap) w := fun _ _ _ _ => rfl
theorem wattempt_nil (f : Value) (w : World) : Calls Tryz.prog 159 #[.pointer none, f] w fun e w' => e = .returned (.tuple #[]) ∧ w' = w := by
  go_enter Tryz.func159, Tryz.ntmps159
  go_wp2
  go_end0
  exact ⟨rfl, rfl⟩
theorem rattempt_nil (f : Value) (w : World) : Calls Tryz.prog 67 #[.pointer none, f] w fun e w' => e = .returned (.int .i64 1) ∧ w' = w := by
  go_enter Tryz.func67, Tryz.ntmps67
  go_wp2
  go_ret
  exact ⟨rfl, rfl⟩
theorem wbyte_nil (v : Int) (w : World) : Calls Tryz.prog 99 #[.pointer none, .int .u8 v] w fun e w' => e = .returned (.tuple #[]) ∧ Below w.heap.size w w' := by
  have hmf := makeF
  go_enter Tryz.func99, Tryz.ntmps99
  go_wp2_with (go_at_call 159; refine (wattempt_nil _ _).mono ?_; rintro e w' ⟨rfl, rfl⟩)
  go_end0
  exact ⟨rfl, by repeat' (first | exact Below.refl _ _ | (refine Below.alloc ?_ ?_ _) | exact Nat.le_refl _ | (simp; done) | (simp; omega))⟩
theorem wword_nil (v : Int) (w : World) : Calls Tryz.prog 100 #[.pointer none, .int .u16 v] w fun e w' => e = .returned (.tuple #[]) ∧ Below w.heap.size w w' := by
  have hmf := makeF
  go_enter Tryz.func100, Tryz.ntmps100
  go_wp2_with (go_at_call 159; refine (wattempt_nil _ _).mono ?_; rintro e w' ⟨rfl, rfl⟩)
  go_end0
  exact ⟨rfl, by repeat' (first | exact Below.refl _ _ | (refine Below.alloc ?_ ?_ _) | exact Nat.le_refl _ | (simp; done) | (simp; omega))⟩
theorem wbytes_nil (a : Option Addr) (n c : Nat) (w : World) : Calls Tryz.prog 102 #[.pointer none, .slice a n c] w fun e w' => e = .returned (.tuple #[]) ∧ Below w.heap.size w w' := by
  have hmf := makeF
  go_enter Tryz.func102, Tryz.ntmps102
  go_wp2_with (go_at_call 159; refine (wattempt_nil _ _).mono ?_; rintro e w' ⟨rfl, rfl⟩)
  go_end0
  exact ⟨rfl, by repeat' (first | exact Below.refl _ _ | (refine Below.alloc ?_ ?_ _) | exact Nat.le_refl _ | (simp; done) | (simp; omega))⟩
theorem wopen_nil (v : Int) (w : World) : Calls Tryz.prog 97 #[.pointer none, .int .u8 v] w fun e w' => e = .returned (.tuple #[]) ∧ Below w.heap.size w w' := by
  have hmf := makeF
  go_enter Tryz.func97, Tryz.ntmps97
  go_wp2_with (go_at_call 159; refine (wattempt_nil _ _).mono ?_; rintro e w' ⟨rfl, rfl⟩)
  go_end0
  exact ⟨rfl, by repeat' (first | exact Below.refl _ _ | (refine Below.alloc ?_ ?_ _) | exact Nat.le_refl _ | (simp; done) | (simp; omega))⟩
theorem wclose_nil (w : World) : Calls Tryz.prog 103 #[.pointer none] w fun e w' => e = .returned (.tuple #[]) ∧ Below w.heap.size w w' := by
  have hmf := makeF
  go_enter Tryz.func103, Tryz.ntmps103
  go_wp2_with (go_at_call 159; refine (wattempt_nil _ _).mono ?_; rintro e w' ⟨rfl, rfl⟩)
  go_end0
  exact ⟨rfl, by repeat' (first | exact Below.refl _ _ | (refine Below.alloc ?_ ?_ _) | exact Nat.le_refl _ | (simp; done) | (simp; omega))⟩
theorem wflag_nil (b : Bool) (w : World) : Calls Tryz.prog 101 #[.pointer none, .bool b] w fun e w' => e = .returned (.tuple #[]) ∧ Below w.heap.size w w' := by
  cases b
  all_goals
    go_enter Tryz.func101, Tryz.ntmps101
    go_wp2_with (go_at_call 99; refine (wbyte_nil _ _).mono ?_; rintro e w' ⟨rfl, hB⟩)
    go_end0
    exact ⟨rfl, hB⟩
theorem takeuint8_nil (w : World) : Calls Tryz.prog 173 #[.pointer none] w fun e w' => e = .returned (.tuple #[.int .u8 0, .int .i64 1]) ∧ Below w.heap.size w w' := by
  have hmf := makeF
  go_enter Tryz.func173, Tryz.ntmps173
  go_wp2_with (go_at_call 67; refine (rattempt_nil _ _).mono ?_; rintro e w' ⟨rfl, rfl⟩)
  go_ret2
  exact ⟨rfl, by repeat' (first | exact Below.refl _ _ | (refine Below.alloc ?_ ?_ _) | exact Nat.le_refl _ | (simp; done) | (simp; omega))⟩
theorem rbyte_nil (w : World) : Calls Tryz.prog 109 #[.pointer none] w fun e w' => e = .returned (.tuple #[.int .u8 0, .int .i64 1]) ∧ Below w.heap.size w w' := by
  go_enter Tryz.func109, Tryz.ntmps109
  go_wp2_with (go_at_call 173; refine (takeuint8_nil _).mono ?_; rintro e w' ⟨rfl, hB⟩)
  go_ret2
  exact ⟨rfl, hB⟩
theorem takeuint16_nil (w : World) : Calls Tryz.prog 174 #[.pointer none] w fun e w' => e = .returned (.tuple #[.int .u16 0, .int .i64 1]) ∧ Below w.heap.size w w' := by
  have hmf := makeF
  go_enter Tryz.func174, Tryz.ntmps174
  go_wp2_with (go_at_call 67; refine (rattempt_nil _ _).mono ?_; rintro e w' ⟨rfl, rfl⟩)
  go_ret2
  exact ⟨rfl, by repeat' (first | exact Below.refl _ _ | (refine Below.alloc ?_ ?_ _) | exact Nat.le_refl _ | (simp; done) | (simp; omega))⟩
theorem rword_nil (w : World) : Calls Tryz.prog 110 #[.pointer none] w fun e w' => e = .returned (.tuple #[.int .u16 0, .int .i64 1]) ∧ Below w.heap.size w w' := by
  go_enter Tryz.func110, Tryz.ntmps110
  go_wp2_with (go_at_call 174; refine (takeuint16_nil _).mono ?_; rintro e w' ⟨rfl, hB⟩)
  go_ret2
  exact ⟨rfl, hB⟩
theorem rflag_nil (w : World) : Calls Tryz.prog 111 #[.pointer none] w fun e w' => e = .returned (.tuple #[.bool false, .int .i64 1]) ∧ Below w.heap.size w w' := by
  have hmf := makeF
  go_enter Tryz.func111, Tryz.ntmps111
  go_wp2_with (go_at_call 67; refine (rattempt_nil _ _).mono ?_; rintro e w' ⟨rfl, rfl⟩)
  go_ret2
  exact ⟨rfl, by repeat' (first | exact Below.refl _ _ | (refine Below.alloc ?_ ?_ _) | exact Nat.le_refl _ | (simp; done) | (simp; omega))⟩
theorem rbytes_nil (v : Int) (w : World) : Calls Tryz.prog 112 #[.pointer none, .int .i64 v] w fun e w' => e = .returned (.tuple #[.slice none 0 0, .int .i64 1]) ∧ Below w.heap.size w w' := by
  have hmf := makeF
  go_enter Tryz.func112, Tryz.ntmps112
  go_wp2_with (go_at_call 67; refine (rattempt_nil _ _).mono ?_; rintro e w' ⟨rfl, rfl⟩)
  go_ret2
  exact ⟨rfl, by repeat' (first | exact Below.refl _ _ | (refine Below.alloc ?_ ?_ _) | exact Nat.le_refl _ | (simp; done) | (simp; omega))⟩
theorem ropen_nil (v : Int) (w : World) : Calls Tryz.prog 108 #[.pointer none, .int .u8 v] w fun e w' => e = .returned (.int .i64 1) ∧ Below w.heap.size w w' := by
  have hmf := makeF
  go_enter Tryz.func108, Tryz.ntmps108
  go_wp2_with (go_at_call 67; refine (rattempt_nil _ _).mono ?_; rintro e w' ⟨rfl, rfl⟩)
  go_ret
  exact ⟨rfl, by repeat' (first | exact Below.refl _ _ | (refine Below.alloc ?_ ?_ _) | exact Nat.le_refl _ | (simp; done) | (simp; omega))⟩
theorem rclose_nil (w : World) : Calls Tryz.prog 113 #[.pointer none] w fun e w' => e = .returned (.int .i64 1) ∧ Below w.heap.size w w' := by
  have hmf := makeF
  go_enter Tryz.func113, Tryz.ntmps113
  go_wp2_with (go_at_call 67; refine (rattempt_nil _ _).mono ?_; rintro e w' ⟨rfl, rfl⟩)
  go_ret
  exact ⟨rfl, by repeat' (first | exact Below.refl _ _ | (refine Below.alloc ?_ ?_ _) | exact Nat.le_refl _ | (simp; done) | (simp; omega))⟩
theorem rdone_nil (w : World) : Calls Tryz.prog 40 #[.pointer none] w fun e w' => e = .returned (.int .i64 1) ∧ Below w.heap.size w w' := by
  have hmf := makeF
  go_enter Tryz.func40, Tryz.ntmps40
  go_wp2_with (go_at_call 67; refine (rattempt_nil _ _).mono ?_; rintro e w' ⟨rfl, rfl⟩)
  go_ret
  exact ⟨rfl, by repeat' (first | exact Below.refl _ _ | (refine Below.alloc ?_ ?_ _) | exact Nat.le_refl _ | (simp; done) | (simp; omega))⟩
theorem wdone1_nil (p1 p2 : Addr) (w : World) (h : w.cell? p1 = some (.pointer none)) : Calls Tryz.prog 58 #[.pointer (some p1), .pointer (some p2)] w fun e w' => e = fault 1 ∧ w' = w := by
  go_enter Tryz.func58, Tryz.ntmps58
  unfold fault faultV
  go_wp2_with (go_at_call 59; refine (refuse_yes _ _).mono ?_; rintro e w' ⟨rfl, rfl⟩; unfold fault faultV)
  exact ⟨rfl, by rfl, rfl⟩
theorem wdone_nil (w : World) : Calls Tryz.prog 37 #[.pointer none] w fun e w' => e = .returned (.tuple #[.slice none 0 0, .int .i64 1]) ∧ Below w.heap.size w w' := by
  have hmf := makeF
  have hP := (Whole.fresh w 67 #[.pointer none]).alloc (.cells #[.slice none 0 0] 25)
  have hS := Whole.fresh (w.alloc (.cells #[.pointer none] 67)) 25 #[.slice none 0 0]
  have hB := ((Below.refl w.heap.size w).alloc (Nat.le_refl _) (.cells #[.pointer none] 67)).alloc (by simp) (.cells #[.slice none 0 0] 25)
  go_enter Tryz.func37, Tryz.ntmps37
  go_wp2_with fail
  generalize (w.alloc (.cells #[.pointer none] 67)).alloc (.cells #[.slice none 0 0] 25) = W at *
  have hs1 : (w.alloc (.cells #[.pointer none] 67)).heap.size = w.heap.size + 1 := by simp
  rw [hs1] at hS
  have hPl := hP.lt
  refine (attempt_any (k := 58) W (fun _ => False) (fun c V => c = 1 ∧ V = W.alloc (.cells #[.int .i64 0] 35)) (enters_of Tryz.func58 (by kernel_rfl) rfl)
    ((wdone1_nil _ _ _ (by rw [(hP.alloc _).cell 0]; rfl)).mono ?_)).mono ?_
  · rintro e w' ⟨rfl, rfl⟩
    exact ⟨Whole.fresh W _ _, .inr ⟨1, rfl, rfl, rfl⟩⟩
  rintro e w' (⟨_, V, hF, _⟩ | ⟨c, V, rfl, ⟨rfl, rfl⟩, rfl⟩)
  · exact hF.elim
  have hS2 := ((hS.alloc (.cells #[.int .i64 0] 35)).alloc (.cells #[.int .i64 1] 139)).away (p := ⟨W.heap.size, 0, none⟩) (by have := hS.lt; simp; omega) (.int .i64 1)
  have hB2 := ((hB.alloc (by omega) (.cells #[.int .i64 0] 35)).alloc (by simp; omega) (.cells #[.int .i64 1] 139)).setCell (p := ⟨W.heap.size, 0, none⟩) (by simp; omega) (.int .i64 1)
  have h0 := hS2.cell 0
  simp only [List.getElem?_toArray, List.getElem?_cons_zero] at h0
  generalize ((W.alloc (.cells #[.int .i64 0] 35)).alloc (.cells #[.int .i64 1] 139)).setCell ⟨W.heap.size, 0, none⟩ (.int .i64 1) = W2 at *
  clear hmf hP hS hB hs1 hS2
  go_wp2_with fail
  go_ret2
  exact ⟨rfl, hB2⟩
end Go.Proofs.YtknlbmjncginnaaGreatDoor
namespace Go.Proofs.YtknlbmjncginnaaGreatDoor
open Go.RowKit
set_option maxRecDepth 100000
set_option maxHeartbeats 1000000

/-- A call's value. -/
def putV (what n : Int) (a : Option Addr) (len cap : Nat) : Value := .agg #[.int .i64 what, .int .i64 n, .slice a len cap]
theorem what_ways (what : Int) : what = 0 ∨ what = 1 ∨ what = 2 ∨ what = 3 ∨ what = 4 ∨ what = 5 ∨ what = 6 ∨
    ((what == 0) = false ∧ (what == 1) = false ∧ (what == 2) = false ∧ (what == 3) = false ∧ (what == 4) = false ∧ (what == 5) = false ∧ (what == 6) = false) := by
  by_cases h : what = 0 ∨ what = 1 ∨ what = 2 ∨ what = 3 ∨ what = 4 ∨ what = 5 ∨ what = 6
  · omega
  · refine .inr (.inr (.inr (.inr (.inr (.inr (.inr ⟨?_, ?_, ?_, ?_, ?_, ?_, ?_⟩))))))
    all_goals rw [beq_eq_false_iff_ne]; omega
/-- What takes answers where there is none. -/
def tookNil : Value := .agg #[.int .i64 0, .slice none 0 0, .int .i64 1]
end Go.Proofs.YtknlbmjncginnaaGreatDoor
namespace Go.Proofs.YtknlbmjncginnaaGreatDoor
open Go.RowKit
set_option maxRecDepth 100000
set_option maxHeartbeats 1000000

/-- v is a slice of n bytes f, the first ones of a block of its own (or none at all). -/
def Owns (w : World) (v : Value) (n : Nat) (f : Nat → Nat) : Prop :=
  (∀ i, i < n → f i < 256) ∧ ((v = .slice none 0 0 ∧ n = 0) ∨
    ∃ g cap cs, v = .slice (some ⟨g, 0, none⟩) n cap ∧ Whole w g 5 cs ∧ n ≤ cap ∧ cap ≤ maxLen ∧ cs.size = cap ∧ ∀ i, i < n → cs[i]? = some (.int .u8 (f i : Nat)))
theorem Owns.none (w : World) (f : Nat → Nat) : Owns w (.slice none 0 0) 0 f := ⟨fun _ h => by omega, .inl ⟨rfl, rfl⟩⟩
theorem Owns.lt {w : World} {v : Value} {n : Nat} {f : Nat → Nat} (h : Owns w v n f) (g : Nat) (hg : v.ownBlock = some g) : g < w.heap.size := by
  rcases h.2 with ⟨rfl, _⟩ | ⟨g', cap, cs, rfl, hw, _⟩
  · cases hg
  · injection hg with hg; subst hg; exact hw.lt
theorem Owns.kept {w w' : World} {v : Value} {n : Nat} {f : Nat → Nat} {row : Option Nat} (h : Owns w v n f) (hg : w.grownBy w' row) (hne : v.ownBlock = Option.none ∨ v.ownBlock ≠ row) : Owns w' v n f := by
  refine ⟨h.1, ?_⟩
  rcases h.2 with h2 | ⟨g, cap, cs, rfl, hw, h3⟩
  · exact .inl h2
  · exact .inr ⟨g, cap, cs, rfl, (hg.block g hw.lt (by rcases hne with hne | hne; cases hne; exact hne)).trans hw, h3⟩
theorem Owns.below {w w' : World} {v : Value} {n : Nat} {f : Nat → Nat} (h : Owns w v n f) (hb : Below w.heap.size w w') : Owns w' v n f := by
  refine ⟨h.1, ?_⟩
  rcases h.2 with h2 | ⟨g, cap, cs, rfl, hw, h3⟩
  · exact .inl h2
  · exact .inr ⟨g, cap, cs, rfl, hw.below hb hw.lt, h3⟩
theorem Owns.congr {w : World} {v : Value} {n : Nat} {f f' : Nat → Nat} (h : Owns w v n f) (he : ∀ i, i < n → f' i = f i) : Owns w v n f' := by
  refine ⟨fun i hi => he i hi ▸ h.1 i hi, ?_⟩
  rcases h.2 with h2 | ⟨g, cap, cs, rfl, hw, h1, h2, h3, h4⟩
  · exact .inl h2
  · exact .inr ⟨g, cap, cs, rfl, hw, h1, h2, h3, fun i hi => by rw [he i hi]; exact h4 i hi⟩
/-- As a row that is read. -/
theorem Owns.row {w : World} {v : Value} {n : Nat} {f : Nat → Nat} (h : Owns w v n f) : ∃ a c, v = .slice a n c ∧ Row w a n f := by
  rcases h.2 with ⟨rfl, rfl⟩ | ⟨g, cap, cs, rfl, hw, h1, h2, h3, h4⟩
  · exact ⟨Option.none, 0, rfl, h.1, .inl rfl⟩
  · exact ⟨_, cap, rfl, h.1, .inr ⟨g, 0, rfl, hw.lt, fun i hi => by rw [Nat.zero_add, hw.cell]; exact h4 i hi⟩⟩
/-- f, then noughts from n on. -/
def zeroed (f : Nat → Nat) (n : Nat) : Nat → Nat := fun i => if i < n then f i else 0

theorem zeroCells_u8 (m : Nat) : Builtin.zeroCells #[Value.int .u8 0] m = (List.replicate m (Value.int .u8 0)).toArray := by
  apply Array.ext'
  simp only [Builtin.zeroCells, Array.toList_map, Array.toList_range]
  apply List.ext_getElem
  · simp
  · intro i h1 h2
    simp [Nat.mod_one]
theorem info5 : ∃ i, Tryz.prog.info? 5 = some i ∧ i.size = 1 ∧ i.bytes = 1 ∧ i.zero = some (.int .u8 0) := by
  obtain ⟨i, hi⟩ : ∃ i, Tryz.prog.info? 5 = some i := Option.isSome_iff_exists.1 (by kernel_rfl)
  have h1 : (Tryz.prog.info? 5).map (·.size) = some 1 := by kernel_rfl
  have h2 : (Tryz.prog.info? 5).map (·.bytes) = some 1 := by kernel_rfl
  have h3 : (Tryz.prog.info? 5).map (·.zero) = some (some (.int .u8 0)) := by kernel_rfl
  rw [hi] at h1 h2 h3
  exact ⟨i, hi, by simpa using h1, by simpa using h2, by simpa using h3⟩
theorem run_append_zeros (w : World) (ty : TypeId) (v : Value) (n m : Nat) (f : Nat → Nat) (h : Owns w v n f) (hm : n + m ≤ 281474976) :
    ∃ v' w', (Builtin.append_ #[25, 3] ty #[v, .int .i64 m]).run Tryz.prog w = .ok v' w' ∧ Owns w' v' (n + m) (zeroed f n) ∧ w.grownBy w' v.ownBlock ∧ (v'.ownBlock = v.ownBlock ∨ v'.ownBlock = some w.heap.size) := by
  have ht := Tryz.underlying25
  have h3 := Tryz.underlying3
  obtain ⟨i, hi, hs, hb, hz⟩ := info5
  have hw64 : IntKind.i64.wrap (m : Int) = (m : Int) := by simp only [IntKind.wrap_i64]; omega
  rcases h.2 with ⟨rfl, rfl⟩ | ⟨g, cap, cs, rfl, hw, h1, h2, h4, h5⟩
  · by_cases h0 : m = 0
    · subst h0
      refine ⟨.slice Option.none 0 0, w, ?_, Owns.none w _, ⟨rfl, rfl, rfl, Nat.le_refl _, fun _ _ _ => rfl⟩, .inl rfl⟩
      have h0 : IntKind.i64.wrap 0 = 0 := hw64
      simp [Builtin.append_, run_underlying ht, run_underlying h3, sizeOf, typeInfo, zeroValue, hi, hz, hb, asInt, asIntOf, h0]
    · have hnc : Builtin.nextslicecap m 0 * 1 ≤ 281474976710656 := growslice_fits (by omega) (by omega)
      have a1 : ¬ ((m : Int) < 0) := by omega
      have a2 : ¬ (281474976710656 < (m : Int)) := by omega
      have a4 : ¬ (9223372036854775807 < (m : Int)) := by omega
      have a5 : ¬ (281474976710656 < Builtin.nextslicecap m 0) := by omega
      have hr : (Builtin.append_ #[25, 3] ty #[.slice Option.none 0 0, .int .i64 m]).run Tryz.prog w = .ok (.slice (some ⟨w.heap.size, 0, none⟩) m (grownCap w m 0 5)) (w.drew.alloc (.cells (Builtin.zeroCells #[Value.int .u8 0] m ++ Builtin.zeroCells #[Value.int .u8 0] (grownCap w m 0 5 - m)) 5)) := by
        simp [Builtin.append_, run_underlying ht, run_underlying h3, sizeOf, typeInfo, zeroValue, hi, hz, hs, hb, asInt, asIntOf, hw64, a1, a2, a4, a5, h0, Question.forced, run_firstCells_none, newRow, grownCap, Value.cells]
      have hge := grownCap_ge w m 0 5
      refine ⟨_, _, hr, ⟨fun i _ => by unfold zeroed; split <;> simp_all, .inr ⟨w.heap.size, _, _, by rw [Nat.zero_add], Whole.fresh w.drew 5 _, by omega, grownCap_le_maxLen w m 0 5 (by unfold maxLen; omega), ?_, fun i hi => ?_⟩⟩, ⟨rfl, rfl, rfl, by simp, fun k hk _ => Below.heap_alloc _ _ k hk⟩, .inr rfl⟩
      · simp only [Array.size_append, size_zeroCells]
        simp
        omega
      · rw [zeroCells_u8, zeroCells_u8]
        simp only [List.append_toArray, List.getElem?_toArray, List.replicate_append_replicate]
        rw [List.getElem?_replicate, if_pos (by omega)]
        simp [zeroed]
  · have a1 : ¬ ((m : Int) < 0) := by omega
    have a2 : ¬ (281474976710656 < (m : Int)) := by omega
    by_cases h0 : m = 0
    · subst h0
      have h0 : IntKind.i64.wrap 0 = 0 := hw64
      refine ⟨_, w, ?_, h.congr (fun i hi => if_pos (by omega)), ⟨rfl, rfl, rfl, Nat.le_refl _, fun _ _ _ => rfl⟩, .inl rfl⟩
      simp [Builtin.append_, run_underlying ht, run_underlying h3, sizeOf, typeInfo, zeroValue, hi, hz, hb, asInt, asIntOf, h0, h1, storeCells]
    by_cases hroom : n + m ≤ cap
    · have hst := run_storeCells_at Tryz.prog g n 5 (List.replicate m (Value.int .u8 0)) 0 cs w hw (by simp; omega) (fun u hu => by rw [(List.mem_replicate.1 hu).2]; rfl)
      simp only [Nat.add_zero] at hst
      have hr : (Builtin.append_ #[25, 3] ty #[.slice (some ⟨g, 0, Option.none⟩) n cap, .int .i64 m]).run Tryz.prog w = .ok (.slice (some ⟨g, 0, Option.none⟩) (n + m) cap) (w.setRow g (cs.toList.take n ++ List.replicate m (Value.int .u8 0) ++ cs.toList.drop (n + (List.replicate m (Value.int .u8 0)).length)).toArray) := by
        simp [Builtin.append_, run_underlying ht, run_underlying h3, sizeOf, typeInfo, zeroValue, hi, hz, hs, hb, asInt, asIntOf, hw64, a1, a2, hroom, h0, Addr.add_lit, Value.cells, zeroCells_u8, hst]
      refine ⟨_, _, hr, ⟨fun i hi => by unfold zeroed; split; exact h.1 i (by assumption); omega, .inr ⟨g, cap, _, rfl, setRow_heap w g cs _ 5 _ hw, hroom, h2, ?_, fun i hi => ?_⟩⟩, ⟨rfl, rfl, rfl, by simp, fun k _ hk => setRow_other w g k _ (fun e => hk (by simp [Value.ownBlock, e]))⟩, .inl rfl⟩
      · simp
        omega
      · simp only [List.getElem?_toArray, List.append_assoc]
        by_cases hin : i < n
        · rw [List.getElem?_append_left (by simp; omega), List.getElem?_take, if_pos hin]
          simpa [zeroed, hin] using h5 i hin
        · rw [List.getElem?_append_right (by simp; omega), List.getElem?_append_left (by simp; omega), List.getElem?_replicate, if_pos (by simp; omega)]
          simp [zeroed, hin]
    · have hnc : Builtin.nextslicecap (n + m) cap * 1 ≤ 281474976710656 := growslice_fits (by omega) (by omega)
      have a4 : ¬ (9223372036854775807 < (n : Int) + (m : Int)) := by omega
      have a5 : ¬ (281474976710656 < Builtin.nextslicecap (n + m) cap) := by omega
      have hfo := run_firstCells_some (P := Tryz.prog) w.drew 1 n ⟨g, 0, Option.none⟩ n cap ((List.range n).map fun i => Value.int .u8 (f i : Nat)) (by simp) (fun j u hu => by
        have hj : j < n := by have := (List.getElem?_eq_some_iff.1 hu).1; simpa using this
        rw [Addr.add_lit, Nat.zero_add]
        have := hw.drew.cell j
        rw [this, h5 j hj]
        simpa [List.getElem?_map, List.getElem?_range hj] using hu)
      have hr : (Builtin.append_ #[25, 3] ty #[.slice (some ⟨g, 0, Option.none⟩) n cap, .int .i64 m]).run Tryz.prog w = .ok (.slice (some ⟨w.heap.size, 0, Option.none⟩) (n + m) (grownCap w (n + m) cap 5))
          (w.drew.alloc (.cells (((List.range n).map fun i => Value.int .u8 (f i : Nat)).toArray ++ Builtin.zeroCells #[Value.int .u8 0] m ++ Builtin.zeroCells #[Value.int .u8 0] (grownCap w (n + m) cap 5 - (n + m))) 5)) := by
        simp [Builtin.append_, run_underlying ht, run_underlying h3, sizeOf, typeInfo, zeroValue, hi, hz, hs, hb, asInt, asIntOf, hw64, a1, a2, a4, a5, h0, hroom, Question.forced, hfo, newRow, grownCap, Value.cells]
      have hge := grownCap_ge w (n + m) cap 5
      refine ⟨_, _, hr, ⟨fun i hi => by unfold zeroed; split; exact h.1 i (by assumption); omega, .inr ⟨w.heap.size, _, _, rfl, Whole.fresh w.drew 5 _, hge, grownCap_le_maxLen w (n + m) cap 5 (by unfold maxLen; omega), ?_, fun i hi => ?_⟩⟩, ⟨rfl, rfl, rfl, by simp, fun k hk _ => Below.heap_alloc _ _ k hk⟩, .inr rfl⟩
      · simp only [Array.size_append, size_zeroCells]
        simp
        omega
      · rw [zeroCells_u8, zeroCells_u8]
        simp only [List.append_toArray, List.getElem?_toArray, List.append_assoc, List.replicate_append_replicate]
        by_cases hin : i < n
        · rw [List.getElem?_append_left (by simp; omega)]
          simp [zeroed, hin]
        · rw [List.getElem?_append_right (by simp; omega), List.getElem?_replicate, if_pos (by simp; omega)]
          simp [zeroed, hin]
end Go.Proofs.YtknlbmjncginnaaGreatDoor
