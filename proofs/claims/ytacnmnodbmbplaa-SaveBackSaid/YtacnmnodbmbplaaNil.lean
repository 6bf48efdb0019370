/-
  Writers and readers that are none.
-/
import Derived.Test.YtacnmnodbmbplaaFault
import Derived.Test.YtacnmnodbmbplaaKit
namespace Go.Proofs.Ytacnmnodbmbplaa
open Go.RowKit
set_option maxRecDepth 100000
set_option maxHeartbeats 1000000

theorem makeF : ∀ (fn : Fn) (first cap : Array Value) (w : World), (Instr.makeFunc fn first cap).run Try.prog w = .ok (.func fn first cap) w := fun _ _ _ _ => rfl
theorem wattempt_nil (f : Value) (w : World) : Calls Try.prog 56 #[.pointer none, f] w fun e w' => e = .returned (.tuple #[]) ∧ w' = w := by
  go_enter Try.func56, Try.ntmps56
  go_wp2
  go_end0
  exact ⟨rfl, rfl⟩
theorem rattempt_nil (f : Value) (w : World) : Calls Try.prog 54 #[.pointer none, f] w fun e w' => e = .returned (.int .i64 1) ∧ w' = w := by
  go_enter Try.func54, Try.ntmps54
  go_wp2
  go_ret
  exact ⟨rfl, rfl⟩
theorem wbyte_nil (v : Int) (w : World) : Calls Try.prog 29 #[.pointer none, .int .u8 v] w fun e w' => e = .returned (.tuple #[]) ∧ Below w.heap.size w w' := by
  have hmf := makeF
  go_enter Try.func29, Try.ntmps29
  go_wp2_with (go_at_call 56; refine (wattempt_nil _ _).mono ?_; rintro e w' ⟨rfl, rfl⟩)
  go_end0
  exact ⟨rfl, by repeat' (first | exact Below.refl _ _ | (refine Below.alloc ?_ ?_ _) | exact Nat.le_refl _ | (simp; done) | (simp; omega))⟩
theorem wword_nil (v : Int) (w : World) : Calls Try.prog 30 #[.pointer none, .int .u16 v] w fun e w' => e = .returned (.tuple #[]) ∧ Below w.heap.size w w' := by
  have hmf := makeF
  go_enter Try.func30, Try.ntmps30
  go_wp2_with (go_at_call 56; refine (wattempt_nil _ _).mono ?_; rintro e w' ⟨rfl, rfl⟩)
  go_end0
  exact ⟨rfl, by repeat' (first | exact Below.refl _ _ | (refine Below.alloc ?_ ?_ _) | exact Nat.le_refl _ | (simp; done) | (simp; omega))⟩
theorem wlong_nil (v : Int) (w : World) : Calls Try.prog 31 #[.pointer none, .int .u32 v] w fun e w' => e = .returned (.tuple #[]) ∧ Below w.heap.size w w' := by
  have hmf := makeF
  go_enter Try.func31, Try.ntmps31
  go_wp2_with (go_at_call 56; refine (wattempt_nil _ _).mono ?_; rintro e w' ⟨rfl, rfl⟩)
  go_end0
  exact ⟨rfl, by repeat' (first | exact Below.refl _ _ | (refine Below.alloc ?_ ?_ _) | exact Nat.le_refl _ | (simp; done) | (simp; omega))⟩
theorem wnumber_nil (v : Int) (w : World) : Calls Try.prog 32 #[.pointer none, .int .i64 v] w fun e w' => e = .returned (.tuple #[]) ∧ Below w.heap.size w w' := by
  have hmf := makeF
  go_enter Try.func32, Try.ntmps32
  go_wp2_with (go_at_call 56; refine (wattempt_nil _ _).mono ?_; rintro e w' ⟨rfl, rfl⟩)
  go_end0
  exact ⟨rfl, by repeat' (first | exact Below.refl _ _ | (refine Below.alloc ?_ ?_ _) | exact Nat.le_refl _ | (simp; done) | (simp; omega))⟩
theorem wbytes_nil (a : Option Addr) (n c : Nat) (w : World) : Calls Try.prog 34 #[.pointer none, .slice a n c] w fun e w' => e = .returned (.tuple #[]) ∧ Below w.heap.size w w' := by
  have hmf := makeF
  go_enter Try.func34, Try.ntmps34
  go_wp2_with (go_at_call 56; refine (wattempt_nil _ _).mono ?_; rintro e w' ⟨rfl, rfl⟩)
  go_end0
  exact ⟨rfl, by repeat' (first | exact Below.refl _ _ | (refine Below.alloc ?_ ?_ _) | exact Nat.le_refl _ | (simp; done) | (simp; omega))⟩
theorem wopen_nil (v : Int) (w : World) : Calls Try.prog 35 #[.pointer none, .int .u8 v] w fun e w' => e = .returned (.tuple #[]) ∧ Below w.heap.size w w' := by
  have hmf := makeF
  go_enter Try.func35, Try.ntmps35
  go_wp2_with (go_at_call 56; refine (wattempt_nil _ _).mono ?_; rintro e w' ⟨rfl, rfl⟩)
  go_end0
  exact ⟨rfl, by repeat' (first | exact Below.refl _ _ | (refine Below.alloc ?_ ?_ _) | exact Nat.le_refl _ | (simp; done) | (simp; omega))⟩
theorem wclose_nil (w : World) : Calls Try.prog 27 #[.pointer none] w fun e w' => e = .returned (.tuple #[]) ∧ Below w.heap.size w w' := by
  have hmf := makeF
  go_enter Try.func27, Try.ntmps27
  go_wp2_with (go_at_call 56; refine (wattempt_nil _ _).mono ?_; rintro e w' ⟨rfl, rfl⟩)
  go_end0
  exact ⟨rfl, by repeat' (first | exact Below.refl _ _ | (refine Below.alloc ?_ ?_ _) | exact Nat.le_refl _ | (simp; done) | (simp; omega))⟩
theorem wflag_nil (b : Bool) (w : World) : Calls Try.prog 33 #[.pointer none, .bool b] w fun e w' => e = .returned (.tuple #[]) ∧ Below w.heap.size w w' := by
  cases b
  all_goals
    go_enter Try.func33, Try.ntmps33
    go_wp2_with (go_at_call 29; refine (wbyte_nil _ _).mono ?_; rintro e w' ⟨rfl, hB⟩)
    go_end0
    exact ⟨rfl, hB⟩
theorem takeuint8_nil (w : World) : Calls Try.prog 74 #[.pointer none] w fun e w' => e = .returned (.tuple #[.int .u8 0, .int .i64 1]) ∧ Below w.heap.size w w' := by
  have hmf := makeF
  go_enter Try.func74, Try.ntmps74
  go_wp2_with (go_at_call 54; refine (rattempt_nil _ _).mono ?_; rintro e w' ⟨rfl, rfl⟩)
  go_ret2
  exact ⟨rfl, by repeat' (first | exact Below.refl _ _ | (refine Below.alloc ?_ ?_ _) | exact Nat.le_refl _ | (simp; done) | (simp; omega))⟩
theorem rbyte_nil (w : World) : Calls Try.prog 46 #[.pointer none] w fun e w' => e = .returned (.tuple #[.int .u8 0, .int .i64 1]) ∧ Below w.heap.size w w' := by
  go_enter Try.func46, Try.ntmps46
  go_wp2_with (go_at_call 74; refine (takeuint8_nil _).mono ?_; rintro e w' ⟨rfl, hB⟩)
  go_ret2
  exact ⟨rfl, hB⟩
theorem takeuint16_nil (w : World) : Calls Try.prog 75 #[.pointer none] w fun e w' => e = .returned (.tuple #[.int .u16 0, .int .i64 1]) ∧ Below w.heap.size w w' := by
  have hmf := makeF
  go_enter Try.func75, Try.ntmps75
  go_wp2_with (go_at_call 54; refine (rattempt_nil _ _).mono ?_; rintro e w' ⟨rfl, rfl⟩)
  go_ret2
  exact ⟨rfl, by repeat' (first | exact Below.refl _ _ | (refine Below.alloc ?_ ?_ _) | exact Nat.le_refl _ | (simp; done) | (simp; omega))⟩
theorem rword_nil (w : World) : Calls Try.prog 47 #[.pointer none] w fun e w' => e = .returned (.tuple #[.int .u16 0, .int .i64 1]) ∧ Below w.heap.size w w' := by
  go_enter Try.func47, Try.ntmps47
  go_wp2_with (go_at_call 75; refine (takeuint16_nil _).mono ?_; rintro e w' ⟨rfl, hB⟩)
  go_ret2
  exact ⟨rfl, hB⟩
theorem takeuint32_nil (w : World) : Calls Try.prog 76 #[.pointer none] w fun e w' => e = .returned (.tuple #[.int .u32 0, .int .i64 1]) ∧ Below w.heap.size w w' := by
  have hmf := makeF
  go_enter Try.func76, Try.ntmps76
  go_wp2_with (go_at_call 54; refine (rattempt_nil _ _).mono ?_; rintro e w' ⟨rfl, rfl⟩)
  go_ret2
  exact ⟨rfl, by repeat' (first | exact Below.refl _ _ | (refine Below.alloc ?_ ?_ _) | exact Nat.le_refl _ | (simp; done) | (simp; omega))⟩
theorem rlong_nil (w : World) : Calls Try.prog 48 #[.pointer none] w fun e w' => e = .returned (.tuple #[.int .u32 0, .int .i64 1]) ∧ Below w.heap.size w w' := by
  go_enter Try.func48, Try.ntmps48
  go_wp2_with (go_at_call 76; refine (takeuint32_nil _).mono ?_; rintro e w' ⟨rfl, hB⟩)
  go_ret2
  exact ⟨rfl, hB⟩
theorem takeuint64_nil (w : World) : Calls Try.prog 77 #[.pointer none] w fun e w' => e = .returned (.tuple #[.int .u64 0, .int .i64 1]) ∧ Below w.heap.size w w' := by
  have hmf := makeF
  go_enter Try.func77, Try.ntmps77
  go_wp2_with (go_at_call 54; refine (rattempt_nil _ _).mono ?_; rintro e w' ⟨rfl, rfl⟩)
  go_ret2
  exact ⟨rfl, by repeat' (first | exact Below.refl _ _ | (refine Below.alloc ?_ ?_ _) | exact Nat.le_refl _ | (simp; done) | (simp; omega))⟩
theorem rnumber_nil (w : World) : Calls Try.prog 49 #[.pointer none] w fun e w' => e = .returned (.tuple #[.int .i64 0, .int .i64 1]) ∧ Below w.heap.size w w' := by
  go_enter Try.func49, Try.ntmps49
  go_wp2_with (go_at_call 77; refine (takeuint64_nil _).mono ?_; rintro e w' ⟨rfl, hB⟩)
  go_ret2
  exact ⟨rfl, hB⟩
theorem rflag_nil (w : World) : Calls Try.prog 50 #[.pointer none] w fun e w' => e = .returned (.tuple #[.bool false, .int .i64 1]) ∧ Below w.heap.size w w' := by
  have hmf := makeF
  go_enter Try.func50, Try.ntmps50
  go_wp2_with (go_at_call 54; refine (rattempt_nil _ _).mono ?_; rintro e w' ⟨rfl, rfl⟩)
  go_ret2
  exact ⟨rfl, by repeat' (first | exact Below.refl _ _ | (refine Below.alloc ?_ ?_ _) | exact Nat.le_refl _ | (simp; done) | (simp; omega))⟩
theorem rbytes_nil (v : Int) (w : World) : Calls Try.prog 51 #[.pointer none, .int .i64 v] w fun e w' => e = .returned (.tuple #[.slice none 0 0, .int .i64 1]) ∧ Below w.heap.size w w' := by
  have hmf := makeF
  go_enter Try.func51, Try.ntmps51
  go_wp2_with (go_at_call 54; refine (rattempt_nil _ _).mono ?_; rintro e w' ⟨rfl, rfl⟩)
  go_ret2
  exact ⟨rfl, by repeat' (first | exact Below.refl _ _ | (refine Below.alloc ?_ ?_ _) | exact Nat.le_refl _ | (simp; done) | (simp; omega))⟩
theorem ropen_nil (v : Int) (w : World) : Calls Try.prog 52 #[.pointer none, .int .u8 v] w fun e w' => e = .returned (.int .i64 1) ∧ Below w.heap.size w w' := by
  have hmf := makeF
  go_enter Try.func52, Try.ntmps52
  go_wp2_with (go_at_call 54; refine (rattempt_nil _ _).mono ?_; rintro e w' ⟨rfl, rfl⟩)
  go_ret
  exact ⟨rfl, by repeat' (first | exact Below.refl _ _ | (refine Below.alloc ?_ ?_ _) | exact Nat.le_refl _ | (simp; done) | (simp; omega))⟩
theorem rclose_nil (w : World) : Calls Try.prog 28 #[.pointer none] w fun e w' => e = .returned (.int .i64 1) ∧ Below w.heap.size w w' := by
  have hmf := makeF
  go_enter Try.func28, Try.ntmps28
  go_wp2_with (go_at_call 54; refine (rattempt_nil _ _).mono ?_; rintro e w' ⟨rfl, rfl⟩)
  go_ret
  exact ⟨rfl, by repeat' (first | exact Below.refl _ _ | (refine Below.alloc ?_ ?_ _) | exact Nat.le_refl _ | (simp; done) | (simp; omega))⟩
theorem rdone_nil (w : World) : Calls Try.prog 24 #[.pointer none] w fun e w' => e = .returned (.int .i64 1) ∧ Below w.heap.size w w' := by
  have hmf := makeF
  go_enter Try.func24, Try.ntmps24
  go_wp2_with (go_at_call 54; refine (rattempt_nil _ _).mono ?_; rintro e w' ⟨rfl, rfl⟩)
  go_ret
  exact ⟨rfl, by repeat' (first | exact Below.refl _ _ | (refine Below.alloc ?_ ?_ _) | exact Nat.le_refl _ | (simp; done) | (simp; omega))⟩
theorem rleft_nil (w : World) : Calls Try.prog 22 #[.pointer none] w fun e w' => e = .returned (.int .i64 0) ∧ w' = w := by
  go_enter Try.func22, Try.ntmps22
  go_wp2
  go_ret
  exact ⟨rfl, rfl⟩
theorem wdone1_nil (p1 p2 : Addr) (w : World) (h : w.cell? p1 = some (.pointer none)) : Calls Try.prog 39 #[.pointer (some p1), .pointer (some p2)] w fun e w' => e = fault 1 ∧ w' = w := by
  go_enter Try.func39, Try.ntmps39
  unfold fault faultV
  go_wp2_with (go_at_call 40; refine (refuse_yes _ _).mono ?_; rintro e w' ⟨rfl, rfl⟩; unfold fault faultV)
  exact ⟨rfl, by rfl, rfl⟩
theorem wdone_nil (w : World) : Calls Try.prog 12 #[.pointer none] w fun e w' => e = .returned (.tuple #[.slice none 0 0, .int .i64 1]) ∧ Below w.heap.size w w' := by
  have hmf := makeF
  have hP := (Whole.fresh w 23 #[.pointer none]).alloc (.cells #[.slice none 0 0] 25)
  have hS := Whole.fresh (w.alloc (.cells #[.pointer none] 23)) 25 #[.slice none 0 0]
  have hB := ((Below.refl w.heap.size w).alloc (Nat.le_refl _) (.cells #[.pointer none] 23)).alloc (by simp) (.cells #[.slice none 0 0] 25)
  go_enter Try.func12, Try.ntmps12
  go_wp2_with fail
  generalize (w.alloc (.cells #[.pointer none] 23)).alloc (.cells #[.slice none 0 0] 25) = W at *
  have hs1 : (w.alloc (.cells #[.pointer none] 23)).heap.size = w.heap.size + 1 := by simp
  rw [hs1] at hS
  have hPl := hP.lt
  refine (attempt_any (k := 39) W (fun _ => False) (fun c V => c = 1 ∧ V = W.alloc (.cells #[.int .i64 0] 27)) (enters_of Try.func39 (by kernel_rfl) rfl)
    ((wdone1_nil _ _ _ (by rw [(hP.alloc _).cell 0]; rfl)).mono ?_)).mono ?_
  · rintro e w' ⟨rfl, rfl⟩
    exact ⟨Whole.fresh W _ _, .inr ⟨1, rfl, rfl, rfl⟩⟩
  rintro e w' (⟨_, V, hF, _⟩ | ⟨c, V, rfl, ⟨rfl, rfl⟩, rfl⟩)
  · exact hF.elim
  have hS2 := ((hS.alloc (.cells #[.int .i64 0] 27)).alloc (.cells #[.int .i64 1] 101)).away (p := ⟨W.heap.size, 0, none⟩) (by have := hS.lt; simp; omega) (.int .i64 1)
  have hB2 := ((hB.alloc (by omega) (.cells #[.int .i64 0] 27)).alloc (by simp; omega) (.cells #[.int .i64 1] 101)).setCell (p := ⟨W.heap.size, 0, none⟩) (by simp; omega) (.int .i64 1)
  have h0 := hS2.cell 0
  simp only [List.getElem?_toArray, List.getElem?_cons_zero] at h0
  generalize ((W.alloc (.cells #[.int .i64 0] 27)).alloc (.cells #[.int .i64 1] 101)).setCell ⟨W.heap.size, 0, none⟩ (.int .i64 1) = W2 at *
  clear hmf hP hS hB hs1 hS2
  go_wp2_with fail
  go_ret2
  exact ⟨rfl, hB2⟩
end Go.Proofs.Ytacnmnodbmbplaa
