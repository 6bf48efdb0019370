/-
  board.New.
-/
import Derived.Test.YthhahhmdpjchkaaAcc
import Derived.Laws.EntriesVeiled
namespace Go.Proofs.Ythhahhmdpjchkaa
open Go.RowKit Go.Shelf
set_option maxRecDepth 100000
set_option maxHeartbeats 1000000

theorem lo_any (w : World) : Calls Try.prog 35 #[] w fun e w' => e = .returned (.agg (rowsOf 1 0)) ∧ Below w.heap.size w w' := by
  go_enter Try.func35, Try.ntmps35
  go_wp2_with fail
  exact bodyPost_ret (results_cell_row (fn := Try.f35) (p := 0) (ty := 72) rfl _ _ _ _ _ (0, 0) _ rfl (Whole.fresh w 72 _) Try.underlying72 rfl (by kernel_rfl)) rfl ⟨rfl, (Below.refl _ w).alloc (Nat.le_refl _) _⟩
theorem hi_any (o : Nat) (w : World) : Calls Try.prog 36 #[.int .i64 o] w fun e w' => ∃ X, e = .returned (.agg (rowsOf 2 X)) ∧ Whole w' X 3 #[.int .i64 o] ∧ w.heap.size ≤ X ∧ Below w.heap.size w w' := by
  have hW := Whole.fresh (w.alloc (.cells #[.int .i64 o] 3)) 72 #[.func (.func 43) #[] #[], .func (.func 44) #[] #[], .func (.func 45) #[] #[], .func (.func 46) #[] #[.pointer (some ⟨w.heap.size, 0, none⟩)]]
  rw [World.size_alloc] at hW
  have hX := (Whole.fresh w 3 #[.int .i64 o]).alloc (.cells #[.func (.func 43) #[] #[], .func (.func 44) #[] #[], .func (.func 45) #[] #[], .func (.func 46) #[] #[.pointer (some ⟨w.heap.size, 0, none⟩)]] 72)
  have hB : Below w.heap.size w ((w.alloc (.cells #[.int .i64 o] 3)).alloc (.cells #[.func (.func 43) #[] #[], .func (.func 44) #[] #[], .func (.func 45) #[] #[], .func (.func 46) #[] #[.pointer (some ⟨w.heap.size, 0, none⟩)]] 72)) := ((Below.refl _ w).alloc (Nat.le_refl _) _).alloc (by simp) _
  go_enter Try.func36, Try.ntmps36
  go_wp2_with fail
  exact bodyPost_ret (results_cell_row (fn := Try.f36) (p := 2) (ty := 72) rfl _ _ _ _ _ (0, 0) _ rfl hW Try.underlying72 rfl (by kernel_rfl)) rfl ⟨_, rfl, hX, Nat.le_refl _, hB⟩
theorem results_pair {P : Program} {fn : Func} {p u : Tmp} {ty : TypeId} (h : fn.results = #[.cell p ty, .tmp u]) (tmps : Array Value) (w : World) (g : Nat) (t : TypeId) (cs : Array Value) (d : TypeDesc)
    (hp : tmps.getD p undef = .pointer (some ⟨g, 0, none⟩)) (hg : Whole w g t cs) (hu : P.underlying ty = some d) (hd : (match d with | .struct _ | .array _ _ => true | _ => false) = true) (hi : (P.info? ty).map (·.size) = some cs.size) :
    (results fn tmps).run P w = .ok (.tuple #[.agg cs, tmps.getD u undef]) w := by
  rw [results_cell_tmp h, hp]
  simp [asAddr, run_loadVar_row w g t ty cs (0, 0) d hg hu hd hi]
theorem tableOf_lo (w : World) :
    Calls Try.prog 32 #[.int .u8 1] w fun e w' => e = .returned (.tuple #[.agg (rowsOf 1 0), .bool true]) ∧ Below w.heap.size w w' := by
  have hX := Whole.fresh w 72 #[.nilFunc, .nilFunc, .nilFunc, .nilFunc]
  have hB0 : Below w.heap.size w (w.alloc (.cells #[.nilFunc, .nilFunc, .nilFunc, .nilFunc] 72)) := (Below.refl _ w).alloc (Nat.le_refl _) _
  have HL := Lib.hid lo_any
  go_enter Try.func32, Try.ntmps32
  go_wp2_with fail
  refine (HL.out _).mono ?_
  rintro e w1 ⟨rfl, hB1⟩
  have hX1 := hX.below hB1 hX.lt
  have hB2 := hB0.trans (hB1.mono (Nat.le_of_lt hX.lt))
  clear hX hB0 hB1 HL
  obtain ⟨G, hG⟩ : ∃ G, w.heap.size = G := ⟨_, rfl⟩
  have hr : rowsOf 1 0 = #[.func (.func 39) #[] #[], .func (.func 40) #[] #[], .func (.func 41) #[] #[], .func (.func 42) #[] #[]] := rfl
  rw [hr]
  rw [hG] at hX1 hB2 ⊢
  have x0 := hX1.cell 0
  have x1 := hX1.cell 1
  have x2 := hX1.cell 2
  have x3 := hX1.cell 3
  have fz := hX1.free
  simp only [List.getElem?_toArray, List.getElem?_cons_zero, List.getElem?_cons_succ] at x0 x1 x2 x3
  go_wp2_with fail
  exact bodyPost_ret (results_pair (fn := Try.f32) (p := 2) (u := 3) (ty := 72) rfl _ _ G _ _ _ rfl ((((hX1.put 0 _).put 1 _).put 2 _).put 3 _) Try.underlying72 rfl (by kernel_rfl)) rfl ⟨rfl, by rw [hG]; exact (((hB2.setCell (p := ⟨G, 0, none⟩) (Nat.le_refl _) _).setCell (p := ⟨G, 1, none⟩) (Nat.le_refl _) _).setCell (p := ⟨G, 2, none⟩) (Nat.le_refl _) _).setCell (p := ⟨G, 3, none⟩) (Nat.le_refl _) _⟩
theorem tableOf_hi (l : Nat) (w : World) (hl : l = 2 ∨ l = 3) :
    Calls Try.prog 32 #[.int .u8 l] w fun e w' => ∃ X, e = .returned (.tuple #[.agg (rowsOf 2 X), .bool true]) ∧ Whole w' X 3 #[.int .i64 (moreOf l : Nat)] ∧ w.heap.size ≤ X ∧ Below w.heap.size w w' := by
  have hX := Whole.fresh w 72 #[.nilFunc, .nilFunc, .nilFunc, .nilFunc]
  have hB0 : Below w.heap.size w (w.alloc (.cells #[.nilFunc, .nilFunc, .nilFunc, .nilFunc] 72)) := (Below.refl _ w).alloc (Nat.le_refl _) _
  have HL := Lib.hid (fun W => hi_any (moreOf l) W)
  have hs1 : (w.alloc (.cells #[.nilFunc, .nilFunc, .nilFunc, .nilFunc] 72)).heap.size = w.heap.size + 1 := by simp
  rcases hl with rfl | rfl
  all_goals
    go_enter Try.func32, Try.ntmps32
    go_wp2_with fail
    refine (HL.out _).mono ?_
    rintro e w1 ⟨X, rfl, hM, hXl, hB1⟩
    have hX1 := hX.below hB1 hX.lt
    have hB2 := hB0.trans (hB1.mono (Nat.le_of_lt hX.lt))
    rw [hs1] at hXl
    clear hX hB0 hB1 HL hs1
    obtain ⟨G, hG⟩ : ∃ G, w.heap.size = G := ⟨_, rfl⟩
    have hr : rowsOf 2 X = #[.func (.func 43) #[] #[], .func (.func 44) #[] #[], .func (.func 45) #[] #[], .func (.func 46) #[] #[.pointer (some ⟨X, 0, none⟩)]] := rfl
    rw [hr]
    rw [hG] at hX1 hB2 hXl ⊢
    have x0 := hX1.cell 0
    have x1 := hX1.cell 1
    have x2 := hX1.cell 2
    have x3 := hX1.cell 3
    have fz := hX1.free
    simp only [List.getElem?_toArray, List.getElem?_cons_zero, List.getElem?_cons_succ] at x0 x1 x2 x3
    have hne : X ≠ G := by omega
    go_wp2_with fail
    exact bodyPost_ret (results_pair (fn := Try.f32) (p := 2) (u := 3) (ty := 72) rfl _ _ G _ _ _ rfl ((((hX1.put 0 _).put 1 _).put 2 _).put 3 _) Try.underlying72 rfl (by kernel_rfl)) rfl ⟨X, rfl, (((hM.away hne _).away hne _).away hne _).away hne _, by omega, by rw [hG]; exact (((hB2.setCell (p := ⟨G, 0, none⟩) (Nat.le_refl _) _).setCell (p := ⟨G, 1, none⟩) (Nat.le_refl _) _).setCell (p := ⟨G, 2, none⟩) (Nat.le_refl _) _).setCell (p := ⟨G, 3, none⟩) (Nat.le_refl _) _⟩
theorem tableOf_no (l : Nat) (w : World) (hl : ¬ (1 ≤ l ∧ l ≤ 3)) :
    Calls Try.prog 32 #[.int .u8 l] w fun e w' => e = .returned (.tuple #[.agg #[.nilFunc, .nilFunc, .nilFunc, .nilFunc], .bool false]) ∧ Below w.heap.size w w' := by
  have hX := Whole.fresh w 72 #[.nilFunc, .nilFunc, .nilFunc, .nilFunc]
  have hB0 : Below w.heap.size w (w.alloc (.cells #[.nilFunc, .nilFunc, .nilFunc, .nilFunc] 72)) := (Below.refl _ w).alloc (Nat.le_refl _) _
  have t1 : ((l : Int) == 1) = false := by rw [beq_eq_false_iff_ne]; omega
  have t2 : ((l : Int) == 2) = false := by rw [beq_eq_false_iff_ne]; omega
  have t3 : ((l : Int) == 3) = false := by rw [beq_eq_false_iff_ne]; omega
  clear hl
  go_enter Try.func32, Try.ntmps32
  go_wp2_with fail
  exact bodyPost_ret (results_pair (fn := Try.f32) (p := 2) (u := 3) (ty := 72) rfl _ _ _ _ _ _ rfl hX Try.underlying72 rfl (by kernel_rfl)) rfl ⟨rfl, hB0⟩
end Go.Proofs.Ythhahhmdpjchkaa
