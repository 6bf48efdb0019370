/-
  The layouts' plans; small tables.
-/
import Derived.Test.YtggjaoihfhianaaKit
import Derived.Laws.ResultCell
import Derived.Laws.Rows
namespace Go.Proofs.Ytggjaoihfhianaa
open Go.RowKit Go.Shelf
set_option maxRecDepth 100000
set_option maxHeartbeats 1000000

theorem results_pair {P : Program} {fn : Func} {p u : Tmp} {ty : TypeId} (h : fn.results = #[.cell p ty, .tmp u]) (tmps : Array Value) (w : World) (g : Nat) (t : TypeId) (cs : Array Value) (d : TypeDesc)
    (hp : tmps.getD p undef = .pointer (some ⟨g, 0, none⟩)) (hg : Whole w g t cs) (hu : P.underlying ty = some d) (hd : (match d with | .struct _ | .array _ _ => true | _ => false) = true) (hi : (P.info? ty).map (·.size) = some cs.size) :
    (results fn tmps).run P w = .ok (.tuple #[.agg cs, tmps.getD u undef]) w := by
  rw [results_cell_tmp h, hp]
  simp [asAddr, run_loadVar_row w g t ty cs (0, 0) d hg hu hd hi]

/-- Where a layout's card stands; its modes. -/
def posOf (l : Nat) : Nat := if l = 1 then 32704 else if l = 2 then 65472 else 4259776
def modesOf (l : Nat) : Array Value := if l = 1 then #[.int .u8 32, .int .u8 35] else if l = 2 then #[.int .u8 33] else #[.int .u8 37]
def modeLen (l : Nat) : Nat := if l = 1 then 2 else 1
/-- A plan, its modes in block M. -/
def planV (l M : Nat) : Value := .agg #[.int .u8 (l : Nat), .int .i64 (posOf l : Nat), .slice (some ⟨M, 0, none⟩) (modeLen l) (modeLen l)]

theorem plans_any (w : World) : Calls Try.prog 32 #[] w fun e w' => ∃ M1 M2 M3, e = .returned (.agg #[.int .u8 1, .int .i64 32704, .slice (some ⟨M1, 0, none⟩) 2 2, .int .u8 2, .int .i64 65472, .slice (some ⟨M2, 0, none⟩) 1 1, .int .u8 3, .int .i64 4259776, .slice (some ⟨M3, 0, none⟩) 1 1]) ∧
    Whole w' M1 5 #[.int .u8 32, .int .u8 35] ∧ Whole w' M2 5 #[.int .u8 33] ∧ Whole w' M3 5 #[.int .u8 37] ∧ w.heap.size ≤ M1 ∧ w.heap.size ≤ M2 ∧ w.heap.size ≤ M3 ∧ Below w.heap.size w w' := by
  go_enter Try.func32, Try.ntmps32
  go_wp2_with fail
  have h1 := ((((Whole.fresh w 61 #[Value.int IntKind.u8 1, Value.int IntKind.i64 32704, Value.slice (some { block := w.heap.size + 1, off := 0 }) 2 2, Value.int IntKind.u8 2, Value.int IntKind.i64 65472, Value.slice (some { block := w.heap.size + 1 + 1, off := 0 }) 1 1, Value.int IntKind.u8 3, Value.int IntKind.i64 4259776, Value.slice (some { block := w.heap.size + 1 + 1 + 1, off := 0 }) 1 1]).alloc (Obj.cells #[Value.int IntKind.u8 32, Value.int IntKind.u8 35] 5)).alloc (Obj.cells #[Value.int IntKind.u8 33] 5)).alloc (Obj.cells #[Value.int IntKind.u8 37] 5))
  refine bodyPost_ret (results_cell_row (fn := Try.f32) (p := 0) (ty := 61) rfl _ _ _ _ _ (0, 0) _ rfl h1 Try.underlying61 rfl (by kernel_rfl)) rfl ?_
  refine ⟨w.heap.size + 1, w.heap.size + 1 + 1, w.heap.size + 1 + 1 + 1, rfl, ?_, ?_, ?_, by omega, by omega, by omega, ?_⟩
  · have := Whole.fresh (w.alloc (Obj.cells #[Value.int IntKind.u8 1, Value.int IntKind.i64 32704, Value.slice (some { block := w.heap.size + 1, off := 0 }) 2 2, Value.int IntKind.u8 2, Value.int IntKind.i64 65472, Value.slice (some { block := w.heap.size + 1 + 1, off := 0 }) 1 1, Value.int IntKind.u8 3, Value.int IntKind.i64 4259776, Value.slice (some { block := w.heap.size + 1 + 1 + 1, off := 0 }) 1 1] 61)) 5 #[Value.int IntKind.u8 32, Value.int IntKind.u8 35]
    simpa using (this.alloc (Obj.cells #[Value.int IntKind.u8 33] 5)).alloc (Obj.cells #[Value.int IntKind.u8 37] 5)
  · have := Whole.fresh ((w.alloc (Obj.cells #[Value.int IntKind.u8 1, Value.int IntKind.i64 32704, Value.slice (some { block := w.heap.size + 1, off := 0 }) 2 2, Value.int IntKind.u8 2, Value.int IntKind.i64 65472, Value.slice (some { block := w.heap.size + 1 + 1, off := 0 }) 1 1, Value.int IntKind.u8 3, Value.int IntKind.i64 4259776, Value.slice (some { block := w.heap.size + 1 + 1 + 1, off := 0 }) 1 1] 61)).alloc (Obj.cells #[Value.int IntKind.u8 32, Value.int IntKind.u8 35] 5)) 5 #[Value.int IntKind.u8 33]
    simpa using this.alloc (Obj.cells #[Value.int IntKind.u8 37] 5)
  · have := Whole.fresh (((w.alloc (Obj.cells #[Value.int IntKind.u8 1, Value.int IntKind.i64 32704, Value.slice (some { block := w.heap.size + 1, off := 0 }) 2 2, Value.int IntKind.u8 2, Value.int IntKind.i64 65472, Value.slice (some { block := w.heap.size + 1 + 1, off := 0 }) 1 1, Value.int IntKind.u8 3, Value.int IntKind.i64 4259776, Value.slice (some { block := w.heap.size + 1 + 1 + 1, off := 0 }) 1 1] 61)).alloc (Obj.cells #[Value.int IntKind.u8 32, Value.int IntKind.u8 35] 5)).alloc (Obj.cells #[Value.int IntKind.u8 33] 5)) 5 #[Value.int IntKind.u8 37]
    simpa using this
  · exact ((((Below.refl _ w).alloc (Nat.le_refl _) _).alloc (by simp) _).alloc (by simp; omega) _).alloc (by simp; omega) _

theorem index_plan0 (x0 x1 x2 x3 x4 x5 x6 x7 x8 : Value) (W : World) : Sem.run Try.prog (Instr.index 61 (.agg #[x0, x1, x2, x3, x4, x5, x6, x7, x8]) (.int .i64 0)) W = .ok (.agg #[x0, x1, x2]) W := by kernel_rfl
theorem index_plan1 (x0 x1 x2 x3 x4 x5 x6 x7 x8 : Value) (W : World) : Sem.run Try.prog (Instr.index 61 (.agg #[x0, x1, x2, x3, x4, x5, x6, x7, x8]) (.int .i64 1)) W = .ok (.agg #[x3, x4, x5]) W := by kernel_rfl
theorem index_plan2 (x0 x1 x2 x3 x4 x5 x6 x7 x8 : Value) (W : World) : Sem.run Try.prog (Instr.index 61 (.agg #[x0, x1, x2, x3, x4, x5, x6, x7, x8]) (.int .i64 2)) W = .ok (.agg #[x6, x7, x8]) W := by kernel_rfl

theorem World.alloc_heap_size (w : World) (o : Obj) : (w.alloc o).heap.size = w.heap.size + 1 := by simp
theorem planOf_any (l : Nat) (w : World) (hl : l < 256) : Calls Try.prog 18 #[.int .u8 l] w fun e w' => (1 ≤ l ∧ l ≤ 3 ∧ ∃ M, e = .returned (.tuple #[planV l M, .bool true]) ∧ Whole w' M 5 (modesOf l) ∧ w.heap.size ≤ M ∧ Below w.heap.size w w') ∨
    (¬ (1 ≤ l ∧ l ≤ 3) ∧ e = .returned (.tuple #[.agg #[.int .u8 0, .int .i64 0, .slice none 0 0], .bool false]) ∧ Below w.heap.size w w') := by
  go_enter Try.func18, Try.ntmps18
  go_wp2_with fail
  refine (plans_any _).mono ?_
  rintro e w1 ⟨M1, M2, M3, rfl, h1, h2, h3, b1, b2, b3, hB⟩
  have hP := (Whole.fresh w 47 #[Value.int IntKind.u8 0, Value.int IntKind.i64 0, Value.slice none 0 0]).below hB (by simp)
  have hB0 : Below w.heap.size w w1 := ((Below.refl _ w).alloc (Nat.le_refl _) _).trans (hB.mono (by simp))
  have b0 : (w.alloc (Obj.cells #[Value.int IntKind.u8 0, Value.int IntKind.i64 0, Value.slice none 0 0] 47)).heap.size = w.heap.size + 1 := by simp
  rw [b0] at b1 b2 b3
  clear hB
  obtain ⟨G, hG⟩ : ∃ G, w.heap.size = G := ⟨_, rfl⟩
  rw [hG] at hP hB0 b1 b2 b3 ⊢
  go_wp2_with fail
  have ix0 := index_plan0 (.int .u8 1) (.int .i64 32704) (.slice (some ⟨M1, 0, none⟩) 2 2) (.int .u8 2) (.int .i64 65472) (.slice (some ⟨M2, 0, none⟩) 1 1) (.int .u8 3) (.int .i64 4259776) (.slice (some ⟨M3, 0, none⟩) 1 1)
  have ix1 := index_plan1 (.int .u8 1) (.int .i64 32704) (.slice (some ⟨M1, 0, none⟩) 2 2) (.int .u8 2) (.int .i64 65472) (.slice (some ⟨M2, 0, none⟩) 1 1) (.int .u8 3) (.int .i64 4259776) (.slice (some ⟨M3, 0, none⟩) 1 1)
  have ix2 := index_plan2 (.int .u8 1) (.int .i64 32704) (.slice (some ⟨M1, 0, none⟩) 2 2) (.int .u8 2) (.int .i64 65472) (.slice (some ⟨M2, 0, none⟩) 1 1) (.int .u8 3) (.int .i64 4259776) (.slice (some ⟨M3, 0, none⟩) 1 1)
  by_cases e1 : l = 1
  · subst e1
    have fz : ∀ (o0 : Obj) (i : Nat), (w1.alloc o0).frozen? ⟨G, i, none⟩ = false := fun o0 i => (hP.alloc o0).free i
    have cz0 : ∀ (o0 : Obj), (w1.alloc o0).cell? ⟨G, 0, none⟩ = some (.int .u8 0) := fun o0 => (hP.alloc o0).cell 0
    have cz1 : ∀ (o0 : Obj), (w1.alloc o0).cell? ⟨G, 1, none⟩ = some (.int .i64 0) := fun o0 => (hP.alloc o0).cell 1
    have cz2 : ∀ (o0 : Obj), (w1.alloc o0).cell? ⟨G, 2, none⟩ = some (.slice none 0 0) := fun o0 => (hP.alloc o0).cell 2
    refine wp_loop_rounds 1 ?_
    iterate 1
      rw [rounds_succ]
      go_wp2_with fail
    have hs1 := hP.lt
    refine bodyPost_ret (results_pair (fn := Try.f18) (p := 2) (u := 3) (ty := 47) rfl _ _ G _ _ _ ?_ ((((hP.alloc _).put 0 _).put 1 _).put 2 _) Try.underlying47 rfl ?_) ?_ ?_
    · rfl
    · kernel_rfl
    · rfl
    · exact .inl ⟨by decide, by decide, M1, rfl, ((((h1.alloc _).away (p := ⟨G, 0, none⟩) (show M1 ≠ G by omega) _).away (p := ⟨G, 1, none⟩) (show M1 ≠ G by omega) _).away (p := ⟨G, 2, none⟩) (show M1 ≠ G by omega) _), by omega, by rw [hG]; exact ((((hB0.alloc (by first | omega | (simp only [World.alloc_heap_size]; omega)) _).setCell (p := ⟨G, 0, none⟩) (Nat.le_refl _) _).setCell (p := ⟨G, 1, none⟩) (Nat.le_refl _) _).setCell (p := ⟨G, 2, none⟩) (Nat.le_refl _) _)⟩
  by_cases e2 : l = 2
  · subst e2
    have fz : ∀ (o0 o1 : Obj) (i : Nat), ((w1.alloc o0).alloc o1).frozen? ⟨G, i, none⟩ = false := fun o0 o1 i => ((hP.alloc o0).alloc o1).free i
    have cz0 : ∀ (o0 o1 : Obj), ((w1.alloc o0).alloc o1).cell? ⟨G, 0, none⟩ = some (.int .u8 0) := fun o0 o1 => ((hP.alloc o0).alloc o1).cell 0
    have cz1 : ∀ (o0 o1 : Obj), ((w1.alloc o0).alloc o1).cell? ⟨G, 1, none⟩ = some (.int .i64 0) := fun o0 o1 => ((hP.alloc o0).alloc o1).cell 1
    have cz2 : ∀ (o0 o1 : Obj), ((w1.alloc o0).alloc o1).cell? ⟨G, 2, none⟩ = some (.slice none 0 0) := fun o0 o1 => ((hP.alloc o0).alloc o1).cell 2
    refine wp_loop_rounds 2 ?_
    iterate 2
      rw [rounds_succ]
      go_wp2_with fail
    have hs1 := hP.lt
    refine bodyPost_ret (results_pair (fn := Try.f18) (p := 2) (u := 3) (ty := 47) rfl _ _ G _ _ _ ?_ (((((hP.alloc _).alloc _).put 0 _).put 1 _).put 2 _) Try.underlying47 rfl ?_) ?_ ?_
    · rfl
    · kernel_rfl
    · rfl
    · exact .inl ⟨by decide, by decide, M2, rfl, (((((h2.alloc _).alloc _).away (p := ⟨G, 0, none⟩) (show M2 ≠ G by omega) _).away (p := ⟨G, 1, none⟩) (show M2 ≠ G by omega) _).away (p := ⟨G, 2, none⟩) (show M2 ≠ G by omega) _), by omega, by rw [hG]; exact (((((hB0.alloc (by first | omega | (simp only [World.alloc_heap_size]; omega)) _).alloc (by first | omega | (simp only [World.alloc_heap_size]; omega)) _).setCell (p := ⟨G, 0, none⟩) (Nat.le_refl _) _).setCell (p := ⟨G, 1, none⟩) (Nat.le_refl _) _).setCell (p := ⟨G, 2, none⟩) (Nat.le_refl _) _)⟩
  by_cases e3 : l = 3
  · subst e3
    have fz : ∀ (o0 o1 o2 : Obj) (i : Nat), (((w1.alloc o0).alloc o1).alloc o2).frozen? ⟨G, i, none⟩ = false := fun o0 o1 o2 i => (((hP.alloc o0).alloc o1).alloc o2).free i
    have cz0 : ∀ (o0 o1 o2 : Obj), (((w1.alloc o0).alloc o1).alloc o2).cell? ⟨G, 0, none⟩ = some (.int .u8 0) := fun o0 o1 o2 => (((hP.alloc o0).alloc o1).alloc o2).cell 0
    have cz1 : ∀ (o0 o1 o2 : Obj), (((w1.alloc o0).alloc o1).alloc o2).cell? ⟨G, 1, none⟩ = some (.int .i64 0) := fun o0 o1 o2 => (((hP.alloc o0).alloc o1).alloc o2).cell 1
    have cz2 : ∀ (o0 o1 o2 : Obj), (((w1.alloc o0).alloc o1).alloc o2).cell? ⟨G, 2, none⟩ = some (.slice none 0 0) := fun o0 o1 o2 => (((hP.alloc o0).alloc o1).alloc o2).cell 2
    refine wp_loop_rounds 3 ?_
    iterate 3
      rw [rounds_succ]
      go_wp2_with fail
    have hs1 := hP.lt
    refine bodyPost_ret (results_pair (fn := Try.f18) (p := 2) (u := 3) (ty := 47) rfl _ _ G _ _ _ ?_ ((((((hP.alloc _).alloc _).alloc _).put 0 _).put 1 _).put 2 _) Try.underlying47 rfl ?_) ?_ ?_
    · rfl
    · kernel_rfl
    · rfl
    · exact .inl ⟨by decide, by decide, M3, rfl, ((((((h3.alloc _).alloc _).alloc _).away (p := ⟨G, 0, none⟩) (show M3 ≠ G by omega) _).away (p := ⟨G, 1, none⟩) (show M3 ≠ G by omega) _).away (p := ⟨G, 2, none⟩) (show M3 ≠ G by omega) _), by omega, by rw [hG]; exact ((((((hB0.alloc (by first | omega | (simp only [World.alloc_heap_size]; omega)) _).alloc (by first | omega | (simp only [World.alloc_heap_size]; omega)) _).alloc (by first | omega | (simp only [World.alloc_heap_size]; omega)) _).setCell (p := ⟨G, 0, none⟩) (Nat.le_refl _) _).setCell (p := ⟨G, 1, none⟩) (Nat.le_refl _) _).setCell (p := ⟨G, 2, none⟩) (Nat.le_refl _) _)⟩
  have fz : ∀ (o0 o1 o2 : Obj) (i : Nat), (((w1.alloc o0).alloc o1).alloc o2).frozen? ⟨G, i, none⟩ = false := fun o0 o1 o2 i => (((hP.alloc o0).alloc o1).alloc o2).free i
  have cz0 : ∀ (o0 o1 o2 : Obj), (((w1.alloc o0).alloc o1).alloc o2).cell? ⟨G, 0, none⟩ = some (.int .u8 0) := fun o0 o1 o2 => (((hP.alloc o0).alloc o1).alloc o2).cell 0
  have cz1 : ∀ (o0 o1 o2 : Obj), (((w1.alloc o0).alloc o1).alloc o2).cell? ⟨G, 1, none⟩ = some (.int .i64 0) := fun o0 o1 o2 => (((hP.alloc o0).alloc o1).alloc o2).cell 1
  have cz2 : ∀ (o0 o1 o2 : Obj), (((w1.alloc o0).alloc o1).alloc o2).cell? ⟨G, 2, none⟩ = some (.slice none 0 0) := fun o0 o1 o2 => (((hP.alloc o0).alloc o1).alloc o2).cell 2
  have n1 : ((1 : Int) == (l : Int)) = false := beq_eq_false_iff_ne.2 (by omega)
  have n2 : ((2 : Int) == (l : Int)) = false := beq_eq_false_iff_ne.2 (by omega)
  have n3 : ((3 : Int) == (l : Int)) = false := beq_eq_false_iff_ne.2 (by omega)
  refine wp_loop_rounds 4 ?_
  iterate 4
    rw [rounds_succ]
    go_wp2_with fail
  have hs1 := hP.lt
  refine bodyPost_ret (results_pair (fn := Try.f18) (p := 2) (u := 3) (ty := 47) rfl _ _ G _ _ _ ?_ ((((((hP.alloc _).alloc _).alloc _).put 0 _).put 1 _).put 2 _) Try.underlying47 rfl ?_) ?_ ?_
  · rfl
  · kernel_rfl
  · rfl
  · exact .inr ⟨by omega, rfl, by rw [hG]; exact ((((((hB0.alloc (by first | omega | (simp only [World.alloc_heap_size]; omega)) _).alloc (by first | omega | (simp only [World.alloc_heap_size]; omega)) _).alloc (by first | omega | (simp only [World.alloc_heap_size]; omega)) _).setCell (p := ⟨G, 0, none⟩) (Nat.le_refl _) _).setCell (p := ⟨G, 1, none⟩) (Nat.le_refl _) _).setCell (p := ⟨G, 2, none⟩) (Nat.le_refl _) _)⟩

theorem at_any (l : Nat) (w : World) (hl : l < 256) : Calls Try.prog 15 #[.int .u8 l] w fun e w' => e = .returned (.int .i64 (if 1 ≤ l ∧ l ≤ 3 then (posOf l : Nat) else (-1 : Int))) ∧ w' = w := by
  by_cases e1 : l = 1
  · subst e1
    go_enter Try.func15, Try.ntmps15
    go_wp2
    go_ret
    exact ⟨rfl, rfl⟩
  by_cases e2 : l = 2
  · subst e2
    go_enter Try.func15, Try.ntmps15
    go_wp2
    go_ret
    exact ⟨rfl, rfl⟩
  by_cases e3 : l = 3
  · subst e3
    go_enter Try.func15, Try.ntmps15
    go_wp2
    go_ret
    exact ⟨rfl, rfl⟩
  rw [if_neg (by omega)]
  have n1 : ((l : Int) == 1) = false := beq_eq_false_iff_ne.2 (by omega)
  have n2 : ((l : Int) == 2) = false := beq_eq_false_iff_ne.2 (by omega)
  have n3 : ((l : Int) == 3) = false := beq_eq_false_iff_ne.2 (by omega)
  go_enter Try.func15, Try.ntmps15
  go_wp2
  go_ret
  exact ⟨rfl, rfl⟩
theorem within_any (l pos n : Nat) (a : Option Addr) (s c : Nat) (w : World) (hp : pos ≤ 4259776) : Calls Try.prog 28 #[.agg #[.int .u8 l, .int .i64 pos, .slice a s c], .int .i64 n] w fun e w' =>
    e = .returned (.bool (decide (pos + 64 ≤ n))) ∧ Below w.heap.size w w' := by
  have hd : decide ((pos : Int) + 64 ≤ (n : Int)) = decide (pos + 64 ≤ n) := decide_eq_decide.2 (by omega)
  go_enter Try.func28, Try.ntmps28
  go_wp2
  go_ret
  exact ⟨by rw [← hd]; rfl, (Below.refl _ _).alloc (Nat.le_refl _) _⟩
/-- Whether all of a title can be printed, from its k-th byte on. -/
def seenFrom (s : ByteArray) (k : Nat) : Bool := (s.data.toList.drop k).all fun b => decide (32 ≤ b.toNat) && decide (b.toNat ≤ 126)
def seenB (s : ByteArray) : Bool := seenFrom s 0
theorem seen_step (s : ByteArray) (k : Nat) (h : k < s.size) : seenFrom s k = (decide (32 ≤ (s[k]'h).toNat) && decide ((s[k]'h).toNat ≤ 126) && seenFrom s (k + 1)) := by
  unfold seenFrom
  rw [List.drop_eq_getElem_cons (by simpa using h), List.all_cons]
  rfl
theorem seen_end (s : ByteArray) (k : Nat) (h : s.size ≤ k) : seenFrom s k = true := by
  unfold seenFrom
  rw [List.drop_eq_nil_of_le (by simpa using h)]
  rfl
theorem seen_any (s : ByteArray) (w : World) (hs : s.size ≤ 9223372036854775807) : Calls Try.prog 23 #[.string s] w fun e w' => e = .returned (.bool (seenB s)) ∧ w' = w := by
  go_enter Try.func23, Try.ntmps23
  go_wp2
  go_loop [3] (fun i => ∃ k : Nat, k ≤ s.size ∧ i = .int .i64 k ∧ Hid (seenFrom s k = seenB s)) (fun i => s.size - (intOf i).toNat)
  case atStart => exact ⟨0, Nat.zero_le _, rfl, Lib.hid rfl⟩
  case round =>
    obtain ⟨k, hk, rfl, hn⟩ := hrel
    by_cases hlt : k < s.size
    · have e := hn.out
      rw [seen_step s k hlt] at e
      obtain ⟨x, hx⟩ : ∃ x, (s[k]'hlt).toNat = x := ⟨_, rfl⟩
      rw [hx] at e
      by_cases h1 : x < 32
      · rw [decide_eq_false (by omega), Bool.false_and, Bool.false_and] at e
        replace e := Lib.hid e
        go_wp2_with fail
        go_ret
        exact ⟨by rw [← e.out]; rfl, rfl⟩
      by_cases h2 : 126 < x
      · rw [decide_eq_false (show ¬ x ≤ 126 by omega), Bool.and_false, Bool.false_and] at e
        replace e := Lib.hid e
        go_wp2_with fail
        go_ret
        exact ⟨by rw [← e.out]; rfl, rfl⟩
      · rw [decide_eq_true (show 32 ≤ x by omega), decide_eq_true (show x ≤ 126 by omega), Bool.true_and, Bool.true_and] at e
        replace e := Lib.hid e
        clear hn
        go_wp2_with fail
        refine ⟨⟨k + 1, by omega, by congr 1, e⟩, ?_⟩
        simp only [intOf]
        omega
    · have e := hn.out
      rw [seen_end s k (by omega)] at e
      clear hn
      replace e := Lib.hid e
      go_wp2_with fail
      go_ret
      exact ⟨by rw [← e.out]; rfl, rfl⟩
theorem plain_any (s : ByteArray) (w : World) (hs : s.size ≤ 9223372036854775807) : Calls Try.prog 30 #[.string s] w fun e w' => e = .returned (.bool (seenB s)) ∧ w' = w := by
  go_enter Try.func30, Try.ntmps30
  go_wp2
  go_loop [6] (fun i => ∃ k : Nat, k ≤ s.size ∧ i = .int .i64 k ∧ Hid (seenFrom s k = seenB s)) (fun i => s.size - (intOf i).toNat)
  case atStart => exact ⟨0, Nat.zero_le _, rfl, Lib.hid rfl⟩
  case round =>
    obtain ⟨k, hk, rfl, hn⟩ := hrel
    by_cases hlt : k < s.size
    · have e := hn.out
      rw [seen_step s k hlt] at e
      obtain ⟨x, hx⟩ : ∃ x, (s[k]'hlt).toNat = x := ⟨_, rfl⟩
      rw [hx] at e
      by_cases h1 : x < 32
      · rw [decide_eq_false (by omega), Bool.false_and, Bool.false_and] at e
        replace e := Lib.hid e
        go_wp2_with fail
        go_ret
        exact ⟨by rw [← e.out]; rfl, rfl⟩
      by_cases h2 : 126 < x
      · rw [decide_eq_false (show ¬ x ≤ 126 by omega), Bool.and_false, Bool.false_and] at e
        replace e := Lib.hid e
        go_wp2_with fail
        go_ret
        exact ⟨by rw [← e.out]; rfl, rfl⟩
      · rw [decide_eq_true (show 32 ≤ x by omega), decide_eq_true (show x ≤ 126 by omega), Bool.true_and, Bool.true_and] at e
        replace e := Lib.hid e
        clear hn
        go_wp2_with fail
        refine ⟨⟨k + 1, by omega, by congr 1, e⟩, ?_⟩
        simp only [intOf]
        omega
    · have e := hn.out
      rw [seen_end s k (by omega)] at e
      clear hn
      replace e := Lib.hid e
      go_wp2_with fail
      go_ret
      exact ⟨by rw [← e.out]; rfl, rfl⟩
end Go.Proofs.Ytggjaoihfhianaa
