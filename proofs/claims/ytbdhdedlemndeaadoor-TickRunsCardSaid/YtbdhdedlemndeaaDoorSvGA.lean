/-
  What goes wrong: refuse, the deferred function that recovers, attempt.
-/
import Derived.Test.YtbdhdedlemndeaaDoorMem
import Derived.WalkKit
import Derived.WalkLawsBesides
import Derived.WalkSpells
import Derived.Defers
import Derived.Recover
import Derived.Lib.Hide
import Derived.Laws.EntriesVeiled
import Derived.Laws.OwnMore
namespace Go.Proofs.YtbdhdedlemndeaaDoor
open Go.RowKit
set_option maxRecDepth 100000
set_option maxHeartbeats 1000000

theorem below_only {B g : Nat} {v w W : World} (h : Below B v w) (o : w.grownBy W (some g)) (hB : B ≤ g) (hs : B ≤ w.heap.size) : Below B v W :=
  h.trans ⟨o.os, o.tape, o.output, o.size, fun k hk => o.block k (by omega) (fun e => by injection e with e; omega)⟩

/-- A fault, as a panic's value. -/
def faultV (c : Int) : Value := .iface 96 (.agg #[.int .i64 c])
def fault (c : Int) : Ending := .panicked [{ v := faultV c, recovered := false }]

theorem refuse_no (c : Int) (w : World) : Calls Tryd.prog 48 #[.bool false, .int .i64 c] w fun e w' => e = .returned (.tuple #[]) ∧ w' = w := by
  go_enter Tryd.func48, Tryd.ntmps48
  go_wp2
  go_end0
  exact ⟨rfl, rfl⟩
theorem refuse_yes (c : Int) (w : World) : Calls Tryd.prog 48 #[.bool true, .int .i64 c] w fun e w' => e = fault c ∧ w' = w := by
  go_enter Tryd.func48, Tryd.ntmps48
  go_wp2
  exact ⟨rfl, by rfl, rfl⟩
theorem catch_fault (p : Addr) (x c : Int) (older : List PanicEntry) (w : World) (hc : w.cell? p = some (.int .i64 x)) (hz : w.frozen? p = false) :
    CallsD Tryd.prog 56 #[.pointer (some p)] (.panicking ({ v := faultV c, recovered := false } :: older)) w fun e u' w' =>
      e = .returned (.tuple #[]) ∧ u' = .panicking ({ v := faultV c, recovered := true } :: older) ∧ w' = (w.alloc (.cells #[.int .i64 c] 96)).setCell p (.int .i64 c) := by
  have hc' : ∀ o, (w.alloc o).cell? p = some (.int .i64 x) := fun o => (Below.cell ((Below.refl _ w).alloc (Nat.le_refl _) o) (World.block_lt_of_cell? w p hc)).trans hc
  have hz' : ∀ o, (w.alloc o).frozen? p = false := fun o => (World.frozen?_alloc_old w o p (Nat.ne_of_lt (World.block_lt_of_cell? w p hc))).trans hz
  have hta : ∀ W : World, (Instr.typeAssert (.iface 96 (.agg #[.int .i64 c])) 20 96 true).run Tryd.prog W = .ok (.tuple #[.agg #[.int .i64 c], .bool true]) W := fun _ => by kernel_rfl
  unfold faultV at *
  refine callsD_of_wpS Tryd.func56 rfl fun c₀ cs hu => ?_
  apply wpS_seq
  apply wpS_region
  simp [wpOpsS, go_sem, recoverD, hu, Tryd.ntmps56, Exit.thenS]
  refine wpS_of_wp ?_
  simp only [Array.replicate_succ, Array.replicate_zero, List.push_toArray, List.append_toArray, List.nil_append, List.cons_append, List.setIfInBounds_toArray, List.set_cons_succ, List.set_cons_zero]
  go_wp2
  exact ⟨rfl, _, rfl, .tuple #[], results_none rfl _ _ _, rfl, rfl, rfl⟩
theorem catch_idle (p : Addr) (w : World) :
    CallsD Tryd.prog 56 #[.pointer (some p)] .returning w fun e u' w' => e = .returned (.tuple #[]) ∧ u' = .returning ∧ w' = w := by
  refine callsD_of_wpS Tryd.func56 rfl fun c₀ cs hu => ?_
  apply wpS_seq
  apply wpS_region
  simp [wpOpsS, go_sem, recoverD, hu, Tryd.ntmps56, Exit.thenS]
  refine wpS_of_wp ?_
  simp only [Array.replicate_succ, Array.replicate_zero, List.push_toArray, List.append_toArray, List.nil_append, List.cons_append, List.setIfInBounds_toArray, List.set_cons_succ, List.set_cons_zero]
  go_wp2
  refine ⟨rfl, .returning, by cases c₀; simp_all, .tuple #[], results_none rfl _ _ _, rfl, rfl, rfl⟩
theorem attempt_any {k : Nat} {caps : Array Value} (w : World) (G : World → Prop) (B : Int → World → Prop) (hen : ∀ (args : Array Value) (W : World), (callFunc k args).run Tryd.prog W = .ok (.enter k args) W)
    (hdo : Calls Tryd.prog k caps (w.alloc (.cells #[.int .i64 0] 40)) fun e w' => Whole w' w.heap.size 40 #[.int .i64 0] ∧ ((e = .returned (.tuple #[]) ∧ G w') ∨ ∃ c, e = fault c ∧ B c w')) :
    Calls Tryd.prog 40 #[.func (.func k) #[] caps] w fun e w' => (e = .returned (.int .i64 0) ∧ ∃ V, G V ∧ w' = V.setCell ⟨w.heap.size, 0, none⟩ (.int .i64 0)) ∨
      ∃ c V, e = .returned (.int .i64 c) ∧ B c V ∧ w' = (V.alloc (.cells #[.int .i64 c] 96)).setCell ⟨w.heap.size, 0, none⟩ (.int .i64 c) := by
  have hmf : ∀ (fn : Fn) (first cap : Array Value) (w : World), (Instr.makeFunc fn first cap).run Tryd.prog w = .ok (.func fn first cap) w := fun _ _ _ _ => rfl
  replace hdo := Lib.hid hdo
  go_enter_defers Tryd.func40, Tryd.ntmps40
  go_wp2_with fail
  refine hdo.out.mono ?_
  rintro e w' ⟨hW, (⟨rfl, hG⟩ | ⟨c, rfl, hB⟩)⟩
  · have h0 := hW.cell 0
    have h1 := hW.free 0
    simp only [List.getElem?_toArray, List.getElem?_cons_zero] at h0
    clear hdo
    go_wp2_with fail
    refine leaves_cons (f := 56) (args := #[.pointer (some ⟨w.heap.size, 0, none⟩)]) (by simp) (by simp [go_sem]) ?_
    refine (catch_idle ⟨w.heap.size, 0, none⟩ _).mono ?_
    rintro e u' w'' ⟨rfl, rfl, rfl⟩
    have h2 := (hW.put 0 (.int .i64 0)).cell 0
    simp only [List.getElem?_toArray, List.getElem?_cons_zero, List.setIfInBounds_toArray, List.set_cons_zero] at h2
    clear hen hmf h0 h1 hW
    simp [Leaves, settle, results, Tryd.results40, go_sem, h2]
    exact .inl ⟨_, hG, rfl⟩
  · clear hdo
    unfold fault
    have h0 := hW.cell 0
    have h1 := hW.free 0
    simp only [List.getElem?_toArray, List.getElem?_cons_zero] at h0
    go_wp2_with fail
    refine leaves_cons (f := 56) (args := #[.pointer (some ⟨w.heap.size, 0, none⟩)]) (by simp) (by simp [go_sem]) ?_
    refine (catch_fault ⟨w.heap.size, 0, none⟩ 0 c [] _ h0 h1).mono ?_
    rintro e u' w'' ⟨rfl, rfl, rfl⟩
    have h2 := ((hW.alloc (.cells #[.int .i64 c] 96)).put 0 (.int .i64 c)).cell 0
    simp only [List.getElem?_toArray, List.getElem?_cons_zero, List.setIfInBounds_toArray, List.set_cons_zero] at h2
    clear hen hmf h0 h1 hW
    simp [Leaves, settle, results, Tryd.results40, go_sem, h2]
    exact .inr ⟨_, hB, rfl⟩
end Go.Proofs.YtbdhdedlemndeaaDoor
namespace Go.Proofs.YtbdhdedlemndeaaDoor
open Go.RowKit Go.Shelf
set_option maxRecDepth 100000
set_option maxHeartbeats 1000000

/-- The first k bytes, then noughts. -/
def first (f : Nat → Nat) (k : Nat) : Nat → Nat := fun j => if j < k then f j else 0
theorem first_step (f : Nat → Nat) (k : Nat) : upd (first f k) k (f k) = first f (k + 1) := by
  funext j
  unfold upd first
  by_cases e : j = k
  · subst e; simp
  · rw [if_neg e]
    by_cases h : j < k
    · rw [if_pos h, if_pos (by omega)]
    · rw [if_neg h, if_neg (by omega)]
theorem same_any (a b : Option Addr) (n c d : Nat) (f : Nat → Nat) (w : World) (h1 : Row w a n f) (h2 : Row w b n f) (hn : n ≤ 140737488355328) :
    Calls Tryd.prog 19 #[.slice a n c, .slice b n d] w fun e w' => e = .returned (.bool true) ∧ ∃ q, w' = w.drewN q := by
  have H1 := Lib.hid h1
  have H2 := Lib.hid h2
  clear h1 h2
  go_enter Tryd.func19, Tryd.ntmps19
  go_wp2_with fail
  go_loopw [5] (fun si wr => ∃ k : Nat, k ≤ n ∧ si = .int .i64 k ∧ Hid (∃ q, wr = w.drewN q)) (fun si _ => n - (intOf si).toNat)
  case atStart => exact ⟨0, Nat.zero_le _, rfl, Lib.hid ⟨0, rfl⟩⟩
  case round =>
    obtain ⟨k, hk, rfl, hq⟩ := hrel
    by_cases hlt : k < n
    · rcases H1.out with ⟨hx, h0 | ⟨b, o, rfl, hb, hcell⟩⟩
      · omega
      rcases H2.out with ⟨_, h0 | ⟨b', o', rfl, hb', hcell'⟩⟩
      · omega
      have d1 : wr.cell? ⟨b, o + k, none⟩ = some (.int .u8 (f k : Nat)) := by
        obtain ⟨q, e⟩ := hq.out
        rw [e]
        exact hcell k hlt
      have d2 : wr.cell? ⟨b', o' + k, none⟩ = some (.int .u8 (f k : Nat)) := by
        obtain ⟨q, e⟩ := hq.out
        rw [e]
        exact hcell' k hlt
      clear hx hcell hcell'
      generalize f k = z at d1 d2
      go_wp2_with fail
      go_quiet (fail)
      go_wp2_with fail
      go_roundw
      case rel => exact ⟨k + 1, by omega, by go_num, Lib.hid (by obtain ⟨q, e⟩ := hq.out; exact ⟨q + nq, by rw [e]; simp [World.drewN, Nat.add_assoc]⟩)⟩
      case measure => simp [intOf]; omega
    · obtain rfl : k = n := by omega
      go_wp2_with fail
      go_ret
      exact ⟨rfl, hq.out⟩
end Go.Proofs.YtbdhdedlemndeaaDoor
namespace Go.Proofs.YtbdhdedlemndeaaDoor
open Go.RowKit
set_option maxRecDepth 100000
set_option maxHeartbeats 1000000

theorem makeF : ∀ (fn : Fn) (first cap : Array Value) (w : World), (Instr.makeFunc fn first cap).run Tryd.prog w = .ok (.func fn first cap) w := fun _ _ _ _ => rfl
theorem wattempt_nil (f : Value) (w : World) : Calls Tryd.prog 78 #[.pointer none, f] w fun e w' => e = .returned (.tuple #[]) ∧ w' = w := by
  go_enter Tryd.func78, Tryd.ntmps78
  go_wp2
  go_end0
  exact ⟨rfl, rfl⟩
theorem rattempt_nil (f : Value) (w : World) : Calls Tryd.prog 46 #[.pointer none, f] w fun e w' => e = .returned (.int .i64 1) ∧ w' = w := by
  go_enter Tryd.func46, Tryd.ntmps46
  go_wp2
  go_ret
  exact ⟨rfl, rfl⟩
theorem wbyte_nil (v : Int) (w : World) : Calls Tryd.prog 68 #[.pointer none, .int .u8 v] w fun e w' => e = .returned (.tuple #[]) ∧ Below w.heap.size w w' := by
  have hmf := makeF
  go_enter Tryd.func68, Tryd.ntmps68
  go_wp2_with (go_at_call 78; refine (wattempt_nil _ _).mono ?_; rintro e w' ⟨rfl, rfl⟩)
  go_end0
  exact ⟨rfl, by repeat' (first | exact Below.refl _ _ | (refine Below.alloc ?_ ?_ _) | exact Nat.le_refl _ | (simp; done) | (simp; omega))⟩
theorem wopen_nil (v : Int) (w : World) : Calls Tryd.prog 67 #[.pointer none, .int .u8 v] w fun e w' => e = .returned (.tuple #[]) ∧ Below w.heap.size w w' := by
  have hmf := makeF
  go_enter Tryd.func67, Tryd.ntmps67
  go_wp2_with (go_at_call 78; refine (wattempt_nil _ _).mono ?_; rintro e w' ⟨rfl, rfl⟩)
  go_end0
  exact ⟨rfl, by repeat' (first | exact Below.refl _ _ | (refine Below.alloc ?_ ?_ _) | exact Nat.le_refl _ | (simp; done) | (simp; omega))⟩
theorem wclose_nil (w : World) : Calls Tryd.prog 69 #[.pointer none] w fun e w' => e = .returned (.tuple #[]) ∧ Below w.heap.size w w' := by
  have hmf := makeF
  go_enter Tryd.func69, Tryd.ntmps69
  go_wp2_with (go_at_call 78; refine (wattempt_nil _ _).mono ?_; rintro e w' ⟨rfl, rfl⟩)
  go_end0
  exact ⟨rfl, by repeat' (first | exact Below.refl _ _ | (refine Below.alloc ?_ ?_ _) | exact Nat.le_refl _ | (simp; done) | (simp; omega))⟩
theorem takeuint8_nil (w : World) : Calls Tryd.prog 76 #[.pointer none] w fun e w' => e = .returned (.tuple #[.int .u8 0, .int .i64 1]) ∧ Below w.heap.size w w' := by
  have hmf := makeF
  go_enter Tryd.func76, Tryd.ntmps76
  go_wp2_with (go_at_call 46; refine (rattempt_nil _ _).mono ?_; rintro e w' ⟨rfl, rfl⟩)
  go_ret2
  exact ⟨rfl, by repeat' (first | exact Below.refl _ _ | (refine Below.alloc ?_ ?_ _) | exact Nat.le_refl _ | (simp; done) | (simp; omega))⟩
theorem rbyte_nil (w : World) : Calls Tryd.prog 64 #[.pointer none] w fun e w' => e = .returned (.tuple #[.int .u8 0, .int .i64 1]) ∧ Below w.heap.size w w' := by
  go_enter Tryd.func64, Tryd.ntmps64
  go_wp2_with (go_at_call 76; refine (takeuint8_nil _).mono ?_; rintro e w' ⟨rfl, hB⟩)
  go_ret2
  exact ⟨rfl, hB⟩
theorem ropen_nil (v : Int) (w : World) : Calls Tryd.prog 61 #[.pointer none, .int .u8 v] w fun e w' => e = .returned (.int .i64 1) ∧ Below w.heap.size w w' := by
  have hmf := makeF
  go_enter Tryd.func61, Tryd.ntmps61
  go_wp2_with (go_at_call 46; refine (rattempt_nil _ _).mono ?_; rintro e w' ⟨rfl, rfl⟩)
  go_ret
  exact ⟨rfl, by repeat' (first | exact Below.refl _ _ | (refine Below.alloc ?_ ?_ _) | exact Nat.le_refl _ | (simp; done) | (simp; omega))⟩
theorem rclose_nil (w : World) : Calls Tryd.prog 65 #[.pointer none] w fun e w' => e = .returned (.int .i64 1) ∧ Below w.heap.size w w' := by
  have hmf := makeF
  go_enter Tryd.func65, Tryd.ntmps65
  go_wp2_with (go_at_call 46; refine (rattempt_nil _ _).mono ?_; rintro e w' ⟨rfl, rfl⟩)
  go_ret
  exact ⟨rfl, by repeat' (first | exact Below.refl _ _ | (refine Below.alloc ?_ ?_ _) | exact Nat.le_refl _ | (simp; done) | (simp; omega))⟩
theorem rdone_nil (w : World) : Calls Tryd.prog 26 #[.pointer none] w fun e w' => e = .returned (.int .i64 1) ∧ Below w.heap.size w w' := by
  have hmf := makeF
  go_enter Tryd.func26, Tryd.ntmps26
  go_wp2_with (go_at_call 46; refine (rattempt_nil _ _).mono ?_; rintro e w' ⟨rfl, rfl⟩)
  go_ret
  exact ⟨rfl, by repeat' (first | exact Below.refl _ _ | (refine Below.alloc ?_ ?_ _) | exact Nat.le_refl _ | (simp; done) | (simp; omega))⟩
theorem wdone1_nil (p1 p2 : Addr) (w : World) (h : w.cell? p1 = some (.pointer none)) : Calls Tryd.prog 53 #[.pointer (some p1), .pointer (some p2)] w fun e w' => e = fault 1 ∧ w' = w := by
  go_enter Tryd.func53, Tryd.ntmps53
  unfold fault faultV
  go_wp2_with (go_at_call 48; refine (refuse_yes _ _).mono ?_; rintro e w' ⟨rfl, rfl⟩; unfold fault faultV)
  exact ⟨rfl, by rfl, rfl⟩
theorem wdone_nil (w : World) : Calls Tryd.prog 37 #[.pointer none] w fun e w' => e = .returned (.tuple #[.slice none 0 0, .int .i64 1]) ∧ Below w.heap.size w w' := by
  have hmf := makeF
  have hP := (Whole.fresh w 76 #[.pointer none]).alloc (.cells #[.slice none 0 0] 46)
  have hS := Whole.fresh (w.alloc (.cells #[.pointer none] 76)) 46 #[.slice none 0 0]
  have hB := ((Below.refl w.heap.size w).alloc (Nat.le_refl _) (.cells #[.pointer none] 76)).alloc (by simp) (.cells #[.slice none 0 0] 46)
  go_enter Tryd.func37, Tryd.ntmps37
  go_wp2_with fail
  generalize (w.alloc (.cells #[.pointer none] 76)).alloc (.cells #[.slice none 0 0] 46) = W at *
  have hs1 : (w.alloc (.cells #[.pointer none] 76)).heap.size = w.heap.size + 1 := by simp
  rw [hs1] at hS
  have hPl := hP.lt
  refine (attempt_any (k := 53) W (fun _ => False) (fun c V => c = 1 ∧ V = W.alloc (.cells #[.int .i64 0] 40)) (enters_of Tryd.func53 (by kernel_rfl) rfl)
    ((wdone1_nil _ _ _ (by rw [(hP.alloc _).cell 0]; rfl)).mono ?_)).mono ?_
  · rintro e w' ⟨rfl, rfl⟩
    exact ⟨Whole.fresh W _ _, .inr ⟨1, rfl, rfl, rfl⟩⟩
  rintro e w' (⟨_, V, hF, _⟩ | ⟨c, V, rfl, ⟨rfl, rfl⟩, rfl⟩)
  · exact hF.elim
  have hS2 := ((hS.alloc (.cells #[.int .i64 0] 40)).alloc (.cells #[.int .i64 1] 96)).away (p := ⟨W.heap.size, 0, none⟩) (by have := hS.lt; simp; omega) (.int .i64 1)
  have hB2 := ((hB.alloc (by omega) (.cells #[.int .i64 0] 40)).alloc (by simp; omega) (.cells #[.int .i64 1] 96)).setCell (p := ⟨W.heap.size, 0, none⟩) (by simp; omega) (.int .i64 1)
  have h0 := hS2.cell 0
  simp only [List.getElem?_toArray, List.getElem?_cons_zero] at h0
  generalize ((W.alloc (.cells #[.int .i64 0] 40)).alloc (.cells #[.int .i64 1] 96)).setCell ⟨W.heap.size, 0, none⟩ (.int .i64 1) = W2 at *
  clear hmf hP hS hB hs1 hS2
  go_wp2_with fail
  go_ret2
  exact ⟨rfl, hB2⟩
end Go.Proofs.YtbdhdedlemndeaaDoor
namespace Go.Proofs.YtbdhdedlemndeaaDoor
open Go.RowKit
set_option maxRecDepth 100000
set_option maxHeartbeats 1000000

/-- A call's value. -/
def putV (what n : Int) (a : Option Addr) (len cap : Nat) : Value := .agg #[.int .i64 what, .int .i64 n, .slice a len cap]
theorem what_ways (what : Int) : what = 0 ∨ what = 1 ∨ what = 2 ∨ what = 3 ∨ what = 4 ∨ what = 5 ∨ what = 6 ∨
    ((what == 0) = false ∧ (what == 1) = false ∧ (what == 2) = false ∧ (what == 3) = false ∧ (what == 4) = false ∧ (what == 5) = false ∧ (what == 6) = false) := by
  by_cases h : what = 0 ∨ what = 1 ∨ what = 2 ∨ what = 3 ∨ what = 4 ∨ what = 5 ∨ what = 6
  · omega
  · refine .inr (.inr (.inr (.inr (.inr (.inr (.inr ⟨?_, ?_, ?_, ?_, ?_, ?_, ?_⟩))))))
    all_goals rw [beq_eq_false_iff_ne]; omega
/-- What takes answers where there is none. -/
def tookNil : Value := .agg #[.int .i64 0, .slice none 0 0, .int .i64 1]
end Go.Proofs.YtbdhdedlemndeaaDoor
namespace Go.Proofs.YtbdhdedlemndeaaDoor
open Go.RowKit
set_option maxRecDepth 100000
set_option maxHeartbeats 1000000

/-- v is a slice of n bytes f, the first ones of a block of its own (or none at all). -/
def Owns (w : World) (v : Value) (n : Nat) (f : Nat → Nat) : Prop :=
  (∀ i, i < n → f i < 256) ∧ ((v = .slice none 0 0 ∧ n = 0) ∨
    ∃ g cap cs, v = .slice (some ⟨g, 0, none⟩) n cap ∧ Whole w g 5 cs ∧ n ≤ cap ∧ cap ≤ maxLen ∧ cs.size = cap ∧ ∀ i, i < n → cs[i]? = some (.int .u8 (f i : Nat)))
theorem Owns.none (w : World) (f : Nat → Nat) : Owns w (.slice none 0 0) 0 f := ⟨fun _ h => by omega, .inl ⟨rfl, rfl⟩⟩
theorem Owns.lt {w : World} {v : Value} {n : Nat} {f : Nat → Nat} (h : Owns w v n f) (g : Nat) (hg : v.ownBlock = some g) : g < w.heap.size := by
  rcases h.2 with ⟨rfl, _⟩ | ⟨g', cap, cs, rfl, hw, _⟩
  · cases hg
  · injection hg with hg; subst hg; exact hw.lt
theorem Owns.kept {w w' : World} {v : Value} {n : Nat} {f : Nat → Nat} {row : Option Nat} (h : Owns w v n f) (hg : w.grownBy w' row) (hne : v.ownBlock = Option.none ∨ v.ownBlock ≠ row) : Owns w' v n f := by
  refine ⟨h.1, ?_⟩
  rcases h.2 with h2 | ⟨g, cap, cs, rfl, hw, h3⟩
  · exact .inl h2
  · exact .inr ⟨g, cap, cs, rfl, (hg.block g hw.lt (by rcases hne with hne | hne; cases hne; exact hne)).trans hw, h3⟩
theorem Owns.below {w w' : World} {v : Value} {n : Nat} {f : Nat → Nat} (h : Owns w v n f) (hb : Below w.heap.size w w') : Owns w' v n f := by
  refine ⟨h.1, ?_⟩
  rcases h.2 with h2 | ⟨g, cap, cs, rfl, hw, h3⟩
  · exact .inl h2
  · exact .inr ⟨g, cap, cs, rfl, hw.below hb hw.lt, h3⟩
theorem Owns.congr {w : World} {v : Value} {n : Nat} {f f' : Nat → Nat} (h : Owns w v n f) (he : ∀ i, i < n → f' i = f i) : Owns w v n f' := by
  refine ⟨fun i hi => he i hi ▸ h.1 i hi, ?_⟩
  rcases h.2 with h2 | ⟨g, cap, cs, rfl, hw, h1, h2, h3, h4⟩
  · exact .inl h2
  · exact .inr ⟨g, cap, cs, rfl, hw, h1, h2, h3, fun i hi => by rw [he i hi]; exact h4 i hi⟩
/-- As a row that is read. -/
theorem Owns.row {w : World} {v : Value} {n : Nat} {f : Nat → Nat} (h : Owns w v n f) : ∃ a c, v = .slice a n c ∧ Row w a n f := by
  rcases h.2 with ⟨rfl, rfl⟩ | ⟨g, cap, cs, rfl, hw, h1, h2, h3, h4⟩
  · exact ⟨Option.none, 0, rfl, h.1, .inl rfl⟩
  · exact ⟨_, cap, rfl, h.1, .inr ⟨g, 0, rfl, hw.lt, fun i hi => by rw [Nat.zero_add, hw.cell]; exact h4 i hi⟩⟩
/-- f, then noughts from n on. -/
def zeroed (f : Nat → Nat) (n : Nat) : Nat → Nat := fun i => if i < n then f i else 0

theorem zeroCells_u8 (m : Nat) : Builtin.zeroCells #[Value.int .u8 0] m = (List.replicate m (Value.int .u8 0)).toArray := by
  apply Array.ext'
  simp only [Builtin.zeroCells, Array.toList_map, Array.toList_range]
  apply List.ext_getElem
  · simp
  · intro i h1 h2
    simp [Nat.mod_one]
theorem info5 : ∃ i, Tryd.prog.info? 5 = some i ∧ i.size = 1 ∧ i.bytes = 1 ∧ i.zero = some (.int .u8 0) := by
  obtain ⟨i, hi⟩ : ∃ i, Tryd.prog.info? 5 = some i := Option.isSome_iff_exists.1 (by kernel_rfl)
  have h1 : (Tryd.prog.info? 5).map (·.size) = some 1 := by kernel_rfl
  have h2 : (Tryd.prog.info? 5).map (·.bytes) = some 1 := by kernel_rfl
  have h3 : (Tryd.prog.info? 5).map (·.zero) = some (some (.int .u8 0)) := by kernel_rfl
  rw [hi] at h1 h2 h3
  exact ⟨i, hi, by simpa using h1, by simpa using h2, by simpa using h3⟩
theorem run_append_zeros (w : World) (ty : TypeId) (v : Value) (n m : Nat) (f : Nat → Nat) (h : Owns w v n f) (hm : n + m ≤ 281474976) :
    ∃ v' w', (Builtin.append_ #[46, 3] ty #[v, .int .i64 m]).run Tryd.prog w = .ok v' w' ∧ Owns w' v' (n + m) (zeroed f n) ∧ w.grownBy w' v.ownBlock ∧ (v'.ownBlock = v.ownBlock ∨ v'.ownBlock = some w.heap.size) := by
  have ht := Tryd.underlying46
  have h3 := Tryd.underlying3
  obtain ⟨i, hi, hs, hb, hz⟩ := info5
  have hw64 : IntKind.i64.wrap (m : Int) = (m : Int) := by simp only [IntKind.wrap_i64]; omega
  rcases h.2 with ⟨rfl, rfl⟩ | ⟨g, cap, cs, rfl, hw, h1, h2, h4, h5⟩
  · by_cases h0 : m = 0
    · subst h0
      refine ⟨.slice Option.none 0 0, w, ?_, Owns.none w _, ⟨rfl, rfl, rfl, Nat.le_refl _, fun _ _ _ => rfl⟩, .inl rfl⟩
      have h0 : IntKind.i64.wrap 0 = 0 := hw64
      simp [Builtin.append_, run_underlying ht, run_underlying h3, sizeOf, typeInfo, zeroValue, hi, hz, hb, asInt, asIntOf, h0]
    · have hnc : Builtin.nextslicecap m 0 * 1 ≤ 281474976710656 := growslice_fits (by omega) (by omega)
      have a1 : ¬ ((m : Int) < 0) := by omega
      have a2 : ¬ (281474976710656 < (m : Int)) := by omega
      have a4 : ¬ (9223372036854775807 < (m : Int)) := by omega
      have a5 : ¬ (281474976710656 < Builtin.nextslicecap m 0) := by omega
      have hr : (Builtin.append_ #[46, 3] ty #[.slice Option.none 0 0, .int .i64 m]).run Tryd.prog w = .ok (.slice (some ⟨w.heap.size, 0, none⟩) m (grownCap w m 0 5)) (w.drew.alloc (.cells (Builtin.zeroCells #[Value.int .u8 0] m ++ Builtin.zeroCells #[Value.int .u8 0] (grownCap w m 0 5 - m)) 5)) := by
        simp [Builtin.append_, run_underlying ht, run_underlying h3, sizeOf, typeInfo, zeroValue, hi, hz, hs, hb, asInt, asIntOf, hw64, a1, a2, a4, a5, h0, Question.forced, run_firstCells_none, newRow, grownCap, Value.cells]
      have hge := grownCap_ge w m 0 5
      refine ⟨_, _, hr, ⟨fun i _ => by unfold zeroed; split <;> simp_all, .inr ⟨w.heap.size, _, _, by rw [Nat.zero_add], Whole.fresh w.drew 5 _, by omega, grownCap_le_maxLen w m 0 5 (by unfold maxLen; omega), ?_, fun i hi => ?_⟩⟩, ⟨rfl, rfl, rfl, by simp, fun k hk _ => Below.heap_alloc _ _ k hk⟩, .inr rfl⟩
      · simp only [Array.size_append, size_zeroCells]
        simp
        omega
      · rw [zeroCells_u8, zeroCells_u8]
        simp only [List.append_toArray, List.getElem?_toArray, List.replicate_append_replicate]
        rw [List.getElem?_replicate, if_pos (by omega)]
        simp [zeroed]
  · have a1 : ¬ ((m : Int) < 0) := by omega
    have a2 : ¬ (281474976710656 < (m : Int)) := by omega
    by_cases h0 : m = 0
    · subst h0
      have h0 : IntKind.i64.wrap 0 = 0 := hw64
      refine ⟨_, w, ?_, h.congr (fun i hi => if_pos (by omega)), ⟨rfl, rfl, rfl, Nat.le_refl _, fun _ _ _ => rfl⟩, .inl rfl⟩
      simp [Builtin.append_, run_underlying ht, run_underlying h3, sizeOf, typeInfo, zeroValue, hi, hz, hb, asInt, asIntOf, h0, h1, storeCells]
    by_cases hroom : n + m ≤ cap
    · have hst := run_storeCells_at Tryd.prog g n 5 (List.replicate m (Value.int .u8 0)) 0 cs w hw (by simp; omega) (fun u hu => by rw [(List.mem_replicate.1 hu).2]; rfl)
      simp only [Nat.add_zero] at hst
      have hr : (Builtin.append_ #[46, 3] ty #[.slice (some ⟨g, 0, Option.none⟩) n cap, .int .i64 m]).run Tryd.prog w = .ok (.slice (some ⟨g, 0, Option.none⟩) (n + m) cap) (w.setRow g (cs.toList.take n ++ List.replicate m (Value.int .u8 0) ++ cs.toList.drop (n + (List.replicate m (Value.int .u8 0)).length)).toArray) := by
        simp [Builtin.append_, run_underlying ht, run_underlying h3, sizeOf, typeInfo, zeroValue, hi, hz, hs, hb, asInt, asIntOf, hw64, a1, a2, hroom, h0, Addr.add_lit, Value.cells, zeroCells_u8, hst]
      refine ⟨_, _, hr, ⟨fun i hi => by unfold zeroed; split; exact h.1 i (by assumption); omega, .inr ⟨g, cap, _, rfl, setRow_heap w g cs _ 5 _ hw, hroom, h2, ?_, fun i hi => ?_⟩⟩, ⟨rfl, rfl, rfl, by simp, fun k _ hk => setRow_other w g k _ (fun e => hk (by simp [Value.ownBlock, e]))⟩, .inl rfl⟩
      · simp
        omega
      · simp only [List.getElem?_toArray, List.append_assoc]
        by_cases hin : i < n
        · rw [List.getElem?_append_left (by simp; omega), List.getElem?_take, if_pos hin]
          simpa [zeroed, hin] using h5 i hin
        · rw [List.getElem?_append_right (by simp; omega), List.getElem?_append_left (by simp; omega), List.getElem?_replicate, if_pos (by simp; omega)]
          simp [zeroed, hin]
    · have hnc : Builtin.nextslicecap (n + m) cap * 1 ≤ 281474976710656 := growslice_fits (by omega) (by omega)
      have a4 : ¬ (9223372036854775807 < (n : Int) + (m : Int)) := by omega
      have a5 : ¬ (281474976710656 < Builtin.nextslicecap (n + m) cap) := by omega
      have hfo := run_firstCells_some (P := Tryd.prog) w.drew 1 n ⟨g, 0, Option.none⟩ n cap ((List.range n).map fun i => Value.int .u8 (f i : Nat)) (by simp) (fun j u hu => by
        have hj : j < n := by have := (List.getElem?_eq_some_iff.1 hu).1; simpa using this
        rw [Addr.add_lit, Nat.zero_add]
        have := hw.drew.cell j
        rw [this, h5 j hj]
        simpa [List.getElem?_map, List.getElem?_range hj] using hu)
      have hr : (Builtin.append_ #[46, 3] ty #[.slice (some ⟨g, 0, Option.none⟩) n cap, .int .i64 m]).run Tryd.prog w = .ok (.slice (some ⟨w.heap.size, 0, Option.none⟩) (n + m) (grownCap w (n + m) cap 5))
          (w.drew.alloc (.cells (((List.range n).map fun i => Value.int .u8 (f i : Nat)).toArray ++ Builtin.zeroCells #[Value.int .u8 0] m ++ Builtin.zeroCells #[Value.int .u8 0] (grownCap w (n + m) cap 5 - (n + m))) 5)) := by
        simp [Builtin.append_, run_underlying ht, run_underlying h3, sizeOf, typeInfo, zeroValue, hi, hz, hs, hb, asInt, asIntOf, hw64, a1, a2, a4, a5, h0, hroom, Question.forced, hfo, newRow, grownCap, Value.cells]
      have hge := grownCap_ge w (n + m) cap 5
      refine ⟨_, _, hr, ⟨fun i hi => by unfold zeroed; split; exact h.1 i (by assumption); omega, .inr ⟨w.heap.size, _, _, rfl, Whole.fresh w.drew 5 _, hge, grownCap_le_maxLen w (n + m) cap 5 (by unfold maxLen; omega), ?_, fun i hi => ?_⟩⟩, ⟨rfl, rfl, rfl, by simp, fun k hk _ => Below.heap_alloc _ _ k hk⟩, .inr rfl⟩
      · simp only [Array.size_append, size_zeroCells]
        simp
        omega
      · rw [zeroCells_u8, zeroCells_u8]
        simp only [List.append_toArray, List.getElem?_toArray, List.append_assoc, List.replicate_append_replicate]
        by_cases hin : i < n
        · rw [List.getElem?_append_left (by simp; omega)]
          simp [zeroed, hin]
        · rw [List.getElem?_append_right (by simp; omega), List.getElem?_replicate, if_pos (by simp; omega)]
          simp [zeroed, hin]
end Go.Proofs.YtbdhdedlemndeaaDoor
