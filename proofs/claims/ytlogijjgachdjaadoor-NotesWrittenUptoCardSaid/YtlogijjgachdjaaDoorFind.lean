/-
  Find, by the code: the least code of a name and a form.
-/
import Derived.Test.YtlogijjgachdjaaDoorRangeM
namespace Go.Proofs.YtlogijjgachdjaaDoor
open Go.RowKit Go.Shelf
attribute [local go_sem] Oper.semAt_some
set_option maxRecDepth 100000
set_option maxHeartbeats 1000000
set_option linter.unusedVariables false

/-- Has a code that name and that form? -/
def hitB (nm fm : ByteArray) (c : Nat) : Bool := ((nmF c).toList == nm.toList) && ((fmF c).toList == fm.toList)
/-- The least code from i on that has them, 256 if there is none; k are left. -/
def fdG (nm fm : ByteArray) : Nat → Nat → Nat
  | 0, _ => 256
  | k + 1, i => if hitB nm fm i = true then i else fdG nm fm k (i + 1)
def fdF (nm fm : ByteArray) : Nat := fdG nm fm 256 0
theorem fdG_step (nm fm : ByteArray) (i : Nat) (hi : i < 256) : fdG nm fm (256 - i) i = if hitB nm fm i = true then i else fdG nm fm (256 - (i + 1)) (i + 1) := by
  rw [show 256 - i = (256 - (i + 1)) + 1 by omega, fdG]
theorem fdG_le (nm fm : ByteArray) : ∀ k i, i + k ≤ 256 → fdG nm fm k i ≤ 256
  | 0, _, _ => Nat.le_refl _
  | k + 1, i, h => by
    unfold fdG
    split
    · omega
    · exact fdG_le nm fm k (i + 1) (by omega)
theorem fdF_le (nm fm : ByteArray) : fdF nm fm ≤ 256 := fdG_le nm fm 256 0 (by omega)
def fdV (r : Nat) : Value := .tuple #[.int .u8 ((if r < 256 then r else 0 : Nat) : Int), .bool (decide (r < 256))]
theorem whole_abides {W W' : World} {g : Nat} {t : TypeId} {cs : Array Value} {row : Option Nat} (h : Whole W g t cs) (hg : W.grownBy W' row) (hr : ∀ r, row = some r → ∃ o : Obj, W.heap[r]? = some o ∧ o.isCells = false) : Whole W' g t cs := by
  refine (hg.block g h.lt (fun e => ?_)).trans h
  obtain ⟨o, ho, hc⟩ := hr g e.symm
  rw [show W.heap[g]? = some (.cells cs t (0, 0)) from h] at ho
  injection ho with ho
  subst ho
  simp [Obj.isCells] at hc
theorem all_any (w : World) : Calls Tryd.prog 13 #[] w fun e w' => e = .returned (.func (.func 26) #[] #[]) ∧ w = w' := by
  go_enter Tryd.func13, Tryd.ntmps13
  go_wp2
  go_ret
  exact ⟨rfl, rfl⟩
/-- What stands ahead of a code among all. -/
theorem upC_at {pre : List Cd} {x : Cd} (h : (pre ++ [x]) <+: upC 256) : pre.length < 256 ∧ x.1 = pre.length := by
  have hl := h.length_le
  rw [upC_len, List.length_append, List.length_singleton] at hl
  refine ⟨by omega, ?_⟩
  obtain ⟨t, ht⟩ := h
  have h1 : (upC 256)[pre.length]? = some x := by rw [← ht]; simp
  unfold upC at h1
  rw [List.getElem?_map, List.getElem?_range (by omega)] at h1
  simp only [Option.map_some, Option.some.injEq] at h1
  rw [← h1]
  exact cdOf_val (by omega)
theorem pre_of {pre : List Cd} {x : Cd} (h : (pre ++ [x]) <+: upC 256) : pre <+: upC 256 := (List.prefix_append pre [x]).trans h
def objC (c : Nat) : Obj := .cells #[.int .u8 c, .string (nmF c), .string (fmF c), .int .i64 (szF c : Nat), .int .i64 (cyF c : Nat)] 25
/-- The boxes: name, form, the two results. -/
def FdAt (w : World) (nm fm : ByteArray) (q : Nat) (b : Bool) (W : World) : Prop :=
  Whole W w.heap.size 9 #[.string nm] ∧ Whole W (w.heap.size + 1) 9 #[.string fm] ∧ Whole W (w.heap.size + 2) 5 #[.int .u8 q] ∧ Whole W (w.heap.size + 3) 4 #[.bool b] ∧ Below w.heap.size w W
theorem FdAt.grown {w : World} {nm fm : ByteArray} {q : Nat} {b : Bool} {W W' : World} {row : Option Nat} (h : FdAt w nm fm q b W) (hg : W.grownBy W' row) (hr : ∀ r, row = some r → w.heap.size ≤ r ∧ ∃ o : Obj, W.heap[r]? = some o ∧ o.isCells = false) : FdAt w nm fm q b W' :=
  ⟨whole_abides h.1 hg (fun r e => (hr r e).2), whole_abides h.2.1 hg (fun r e => (hr r e).2), whole_abides h.2.2.1 hg (fun r e => (hr r e).2), whole_abides h.2.2.2.1 hg (fun r e => (hr r e).2), h.2.2.2.2.grown hg (Nat.le_of_lt h.1.lt) (fun r e => (hr r e).1)⟩
attribute [local irreducible] upC nmF fmF szF cyF
theorem find_any (nm fm : ByteArray) (w : World) :
    Calls Tryd.prog 8 #[.string nm, .string fm] w fun e w' => e = .returned (fdV (fdF nm fm)) ∧ Below w.heap.size w w' := by
  generalize hr0 : fdF nm fm = rr
  replace hr0 := Lib.hid hr0
  refine (callsIn_wide (n := 5)).1 ?_
  refine callsIn_of_wp_marks Tryd.func8 rfl trivial ?_ rfl
  simp only [Tryd.ntmps8, List.size_toArray, List.length_cons, List.length_nil, Nat.reduceAdd, Nat.reduceSub, Array.replicate_succ, Array.replicate_zero, List.push_toArray, List.append_toArray, List.nil_append, List.cons_append]
  gi_wp2_with fail
  refine ⟨trivial, ?_⟩
  refine (callsIn_wide.2 (all_any _)).mono ?_
  rintro e w' ⟨rfl, rfl⟩
  gi_wp2_with fail
  have k0 := ((((Whole.fresh w 9 #[.string nm]).alloc (.cells #[.string fm] 9)).alloc (.cells #[.int .u8 0] 5)).alloc (.cells #[.bool false] 4))
  have k1 := (((Whole.fresh (w.alloc (.cells #[.string nm] 9)) 9 #[.string fm])).alloc (.cells #[.int .u8 0] 5)).alloc (.cells #[.bool false] 4)
  have k2 := ((Whole.fresh ((w.alloc (.cells #[.string nm] 9)).alloc (.cells #[.string fm] 9)) 5 #[.int .u8 0])).alloc (.cells #[.bool false] 4)
  have k3 := (Whole.fresh (((w.alloc (.cells #[.string nm] 9)).alloc (.cells #[.string fm] 9)).alloc (.cells #[.int .u8 0] 5)) 4 #[.bool false])
  simp only [World.size_alloc] at k1 k2 k3
  have hB0 := ((((Below.refl w.heap.size w).alloc (Nat.le_refl _) (.cells #[.string nm] 9)).alloc (by simp) (.cells #[.string fm] 9)).alloc (by simp; omega) (.cells #[.int .u8 0] 5)).alloc (by simp; omega) (.cells #[.bool false] 4)
  have hsz : ((((w.alloc (.cells #[.string nm] 9)).alloc (.cells #[.string fm] 9)).alloc (.cells #[.int .u8 0] 5)).alloc (.cells #[.bool false] 4)).heap.size = w.heap.size + 4 := by simp
  have hI0 : FdAt w nm fm 0 false ((((w.alloc (.cells #[.string nm] 9)).alloc (.cells #[.string fm] 9)).alloc (.cells #[.int .u8 0] 5)).alloc (.cells #[.bool false] 4)) ∧ (([] : List Cd) <+: upC 256 → fdG nm fm (256 - ([] : List Cd).length) ([] : List Cd).length = rr) := ⟨⟨k0, k1, k2, k3, hB0⟩, fun _ => hr0.out⟩
  clear k0 k1 k2 k3 hB0
  generalize (((w.alloc (.cells #[.string nm] 9)).alloc (.cells #[.string fm] 9)).alloc (.cells #[.int .u8 0] 5)).alloc (.cells #[.bool false] 4) = W0 at *
  refine range_made (o := fun x : Cd => objC x.1) rfl (by omega) (gf := 26) (lb := #[]) rfl trivial (enters_of Tryd.func26 (by kernel_rfl) rfl)
    (all_stops W0 _ (by omega)) (fun _ => rfl) (fun pre W => FdAt w nm fm 0 false W ∧ (pre <+: upC 256 → fdG nm fm (256 - pre.length) pre.length = rr)) (fun c pre W => c = .ret ∧ ∃ q, FdAt w nm fm q true W ∧ (pre <+: upC 256 → q = rr ∧ rr < 256))
    (fun s A B row h hg hr => ⟨h.1.grown hg (fun r e => ⟨by have := (hr r e).1; omega, (hr r e).2⟩), h.2⟩) (fun c s A B row h hg hr => ?own) hI0 (fun _ => rfl)
    (fun (x : Cd) (X : Nat) => { tmps := #[Value.string nm, Value.string fm, Value.pointer (some { block := w.heap.size, off := 0 }), Value.pointer (some { block := w.heap.size + 1, off := 0 }), Value.pointer (some { block := w.heap.size + 2, off := 0 }), Value.pointer (some { block := w.heap.size + 3, off := 0 }),
          Value.pointer (some { block := X, off := 0 }), Value.func (Fn.func 26) #[] #[], ntV x.1,
          undef, undef, undef, undef, undef, undef, undef, undef, undef, undef, undef, undef], defers := [] }) ?assign ?body ?done ?stop
  case own =>
    obtain ⟨rfl, q, h1, h2⟩ := h
    exact ⟨rfl, q, h1.grown hg (fun r e => ⟨by have := (hr r e).1; omega, (hr r e).2⟩), h2⟩
  case assign =>
    intro l x W K hK
    simp only [encC, ntV, objC] at hK ⊢
    gi_wp2
    exact hK
  case body =>
    rintro l pre x W X ⟨⟨h1, h2, h3, h4, h5⟩, h6⟩ hlen hX hXo
    have hX' : Whole W X 25 #[.int .u8 x.1, .string (nmF x.1), .string (fmF x.1), .int .i64 (szF x.1 : Nat), .int .i64 (cyF x.1 : Nat)] := hXo
    have x0 := hX'.cell 0
    have x1 := hX'.cell 1
    have x2 := hX'.cell 2
    have c1 := h1.cell 0
    have c2 := h2.cell 0
    have c3 := h3.cell 0
    have c4 := h4.cell 0
    have f3 := h3.free 0
    have f4 := h4.free 0
    simp only [List.getElem?_toArray, List.getElem?_cons_zero, List.getElem?_cons_succ] at x0 x1 x2 c1 c2 c3 c4
    have hst : ∀ b, hitB nm fm x.1 = b → (pre ++ [x]) <+: upC 256 → (if b = true then x.1 else fdG nm fm (256 - (pre ++ [x]).length) (pre ++ [x]).length) = rr ∧ x.1 < 256 := by
      intro b hb hp
      obtain ⟨hl, hx⟩ := upC_at hp
      have h7 := h6 (pre_of hp)
      rw [fdG_step nm fm _ hl, ← hx, hb] at h7
      refine ⟨?_, by omega⟩
      rw [← h7, List.length_append, List.length_singleton, ← hx]
    unfold leftM
    clear hXo hX' h6
    have hno : hitB nm fm x.1 = false → KeepsOthers W W ∧ (FdAt w nm fm 0 false W ∧ ((pre ++ [x]) <+: upC 256 → fdG nm fm (256 - (pre ++ [x]).length) (pre ++ [x]).length = rr)) := fun hb => ⟨KeepsOthers.refl _, ⟨h1, h2, h3, h4, h5⟩, fun hp => by have := (hst false hb hp).1; rwa [if_neg (by decide)] at this⟩
    have hyes : hitB nm fm x.1 = true → KeepsOthers W ((W.setCell ⟨w.heap.size + 2, 0, none⟩ (.int .u8 x.1)).setCell ⟨w.heap.size + 3, 0, none⟩ (.bool true)) ∧ (Code.ret = Code.ret ∧ ∃ q, FdAt w nm fm q true ((W.setCell ⟨w.heap.size + 2, 0, none⟩ (.int .u8 x.1)).setCell ⟨w.heap.size + 3, 0, none⟩ (.bool true)) ∧ ((pre ++ [x]) <+: upC 256 → q = rr ∧ rr < 256)) := by
      intro hb
      refine ⟨(KeepsOthers.setCell W ⟨w.heap.size + 2, 0, none⟩ (.int .u8 x.1)).trans (KeepsOthers.setCell _ ⟨w.heap.size + 3, 0, none⟩ (.bool true)), rfl, x.1, ⟨?_, ?_, ?_, ?_, ?_⟩, fun hp => ?_⟩
      · exact (h1.away (p := ⟨w.heap.size + 2, 0, none⟩) (show w.heap.size ≠ w.heap.size + 2 by omega) _).away (p := ⟨w.heap.size + 3, 0, none⟩) (show w.heap.size ≠ w.heap.size + 3 by omega) _
      · exact (h2.away (p := ⟨w.heap.size + 2, 0, none⟩) (show w.heap.size + 1 ≠ w.heap.size + 2 by omega) _).away (p := ⟨w.heap.size + 3, 0, none⟩) (show w.heap.size + 1 ≠ w.heap.size + 3 by omega) _
      · exact (h3.put 0 (.int .u8 x.1)).away (p := ⟨w.heap.size + 3, 0, none⟩) (show w.heap.size + 2 ≠ w.heap.size + 3 by omega) _
      · exact (h4.away (p := ⟨w.heap.size + 2, 0, none⟩) (show w.heap.size + 3 ≠ w.heap.size + 2 by omega) _).put 0 (.bool true)
      · exact (h5.setCell (p := ⟨w.heap.size + 2, 0, none⟩) (Nat.le_add_right _ _) _).setCell (p := ⟨w.heap.size + 3, 0, none⟩) (Nat.le_add_right _ _) _
      · have := hst true hb hp
        rw [if_pos rfl] at this
        exact ⟨this.1, by omega⟩
    clear h1 h2 h3 h4 h5 hst
    replace hno := Lib.hid hno
    replace hyes := Lib.hid hyes
    cases hq : (nmF x.1).toList == nm.toList with
    | false =>
      have hb : hitB nm fm x.1 = false := by simp [hitB, hq]
      replace hno := Lib.hid (hno.out hb)
      clear hyes hb
      generalize nmF x.1 = nx at *
      generalize fmF x.1 = fx at *
      gi_wp2
      exact ⟨hno.out.1, trivial, hno.out.2⟩
    | true =>
      cases hq2 : (fmF x.1).toList == fm.toList with
      | false =>
        have hb : hitB nm fm x.1 = false := by simp [hitB, hq2]
        replace hno := Lib.hid (hno.out hb)
        clear hyes hb
        generalize nmF x.1 = nx at *
        generalize fmF x.1 = fx at *
        gi_wp2
        exact ⟨hno.out.1, trivial, hno.out.2⟩
      | true =>
        have hb : hitB nm fm x.1 = true := by simp [hitB, hq, hq2]
        replace hyes := Lib.hid (hyes.out hb)
        clear hno hb
        generalize nmF x.1 = nx at *
        generalize fmF x.1 = fx at *
        gi_wp2
        exact ⟨hyes.out.1, rfl, hyes.out.2.2⟩
  case done =>
    rintro D xs W hD rfl ⟨⟨h1, h2, h3, h4, h5⟩, h6⟩ hK
    have hr6 : rr = 256 := by
      have := h6 (List.prefix_refl _)
      rw [upC_len] at this
      exact this.symm
    have c3 := h3.cell 0
    have c4 := h4.cell 0
    have f3 := h3.free 0
    have f4 := h4.free 0
    simp only [List.getElem?_toArray, List.getElem?_cons_zero] at c3 c4
    gi_wp2
    have g3 := (h3.put 0 (.int .u8 0)).away (p := ⟨w.heap.size + 1 + 1 + 1, 0, none⟩) (show w.heap.size + 2 ≠ w.heap.size + 1 + 1 + 1 by omega) (.bool false)
    have g4 := (h4.away (p := ⟨w.heap.size + 1 + 1, 0, none⟩) (show w.heap.size + 3 ≠ w.heap.size + 1 + 1 by omega) (.int .u8 0)).put 0 (.bool false)
    have g5 := (h5.setCell (p := ⟨w.heap.size + 1 + 1, 0, none⟩) (show w.heap.size ≤ w.heap.size + 1 + 1 by omega) (.int .u8 0)).setCell (p := ⟨w.heap.size + 1 + 1 + 1, 0, none⟩) (show w.heap.size ≤ w.heap.size + 1 + 1 + 1 by omega) (.bool false)
    have gK : ((W.setCell ⟨w.heap.size + 1 + 1, 0, none⟩ (.int .u8 0)).setCell ⟨w.heap.size + 1 + 1 + 1, 0, none⟩ (.bool false)).heap[D]? = some (.deferred (some [])) :=
      (Below.heap_setCell _ ⟨w.heap.size + 1 + 1 + 1, 0, none⟩ _ D (show D ≠ w.heap.size + 1 + 1 + 1 by omega)).trans ((Below.heap_setCell _ ⟨w.heap.size + 1 + 1, 0, none⟩ _ D (show D ≠ w.heap.size + 1 + 1 by omega)).trans hK)
    change Whole _ (w.heap.size + 1 + 1) _ _ at g3
    change Whole _ (w.heap.size + 1 + 1 + 1) _ _ at g4
    generalize (W.setCell ⟨w.heap.size + 1 + 1, 0, none⟩ (.int .u8 0)).setCell ⟨w.heap.size + 1 + 1 + 1, 0, none⟩ (.bool false) = W2 at *
    refine ⟨by simp, .inl ⟨_, _, rfl, run_takeDeferred gK, ?_⟩⟩
    have e3 := (whole_abides g3 (grownBy_putObj' _ D (.deferred none)) (fun r e => by cases e; exact ⟨_, gK, rfl⟩)).cell 0
    have e4 := (whole_abides g4 (grownBy_putObj' _ D (.deferred none)) (fun r e => by cases e; exact ⟨_, gK, rfl⟩)).cell 0
    have e5 := g5.grown (grownBy_putObj' W2 D (.deferred none)) g5.size (fun r e => by cases e; omega)
    refine ⟨fdV rr, ?_, rfl, e5⟩
    rw [hr6]
    simp [results, Tryd.f8, go_sem, e3, e4, fdV]
  case stop =>
    rintro D cd pre W hD hpre ⟨rfl, q, ⟨h1, h2, h3, h4, h5⟩, h6⟩ hK
    obtain ⟨rfl, h7⟩ := h6 hpre
    have c3 := h3.cell 0
    have c4 := h4.cell 0
    simp only [List.getElem?_toArray, List.getElem?_cons_zero] at c3 c4
    gi_wp2
    change Whole _ (w.heap.size + 1 + 1) _ _ at h3
    change Whole _ (w.heap.size + 1 + 1 + 1) _ _ at h4
    refine ⟨by simp, .inl ⟨_, _, rfl, run_takeDeferred hK, ?_⟩⟩
    have e3 := (whole_abides h3 (grownBy_putObj' _ D (.deferred none)) (fun r e => by cases e; exact ⟨_, hK, rfl⟩)).cell 0
    have e4 := (whole_abides h4 (grownBy_putObj' _ D (.deferred none)) (fun r e => by cases e; exact ⟨_, hK, rfl⟩)).cell 0
    have e5 := h5.grown (grownBy_putObj' W D (.deferred none)) h5.size (fun r e => by cases e; omega)
    refine ⟨fdV q, ?_, rfl, e5⟩
    simp [results, Tryd.f8, go_sem, e3, e4, fdV, h7]
end Go.Proofs.YtlogijjgachdjaaDoor
