/-
  NotesAll: the walk.
-/
import Derived.Test.YtlogijjgachdjaaDoorRFind
import Derived.Test.YtlogijjgachdjaaDoorROf
import Derived.Test.YtlogijjgachdjaaDoorRegRound
import Derived.Sort.CutIn
namespace Go.Proofs.YtlogijjgachdjaaDoor
open Go.RowKit Go.Shelf Go.Sort
attribute [local go_sem] Oper.semAt_some
set_option maxRecDepth 1000000
set_option maxHeartbeats 1000000
set_option linter.unusedVariables false

theorem others_below {W W' : World} (hb : Below W.heap.size W W') : KeepsOthers W W' := ⟨hb.size, fun k _ hk _ => (hb.block k (Array.getElem?_eq_some_iff.1 hk).1).trans hk⟩
section law
variable {F : Fence} {d : Nat}
/-- As range_made, where a going that is left by the loop's own exit goes on as one that ends. -/
theorem range_left {α : Type} {g : Operand} {ps : Array Tmp} {assign body : Code} {Q : Exit → Act → World → Prop} {a : Act} {w : World}
    (hro : F.round = none) (hd : 1 ≤ d) {gf : Nat} {lb : Array Value} (hg : a.eval g = .func (.func gf) #[] lb) (hF : F.fn gf) (eg : ∀ args w, (callFunc gf args).run Tryd.prog w = .ok (.enter gf args) w)
    {encs : α → Array Value} {S Sp : List α → Prop} {N : Nat} (hseq : SeqStopsK F (d - 1) Tryd.prog gf lb encs (fun _ _ => True) S Sp N w) (hps : ∀ x, (encs x).size = ps.size)
    (I : List α → World → Prop) (Ix : Code → List α → World → Prop) (hI : OwnFrom w.heap.size I) (hIx : ∀ c, OwnFrom w.heap.size (Ix c)) (h0 : I [] w) (o : α → Obj) (ho : ∀ x, (o x).isCells = true) (a₁ : α → Nat → Act)
    (hassign : ∀ (l : Nat) (x : α) (W : World) (K : Act → World → Prop), K (a₁ x W.heap.size) (W.alloc (o x)) → assign.wpIn (F.inRound l) (d - 1 - 1) Tryd.prog (Exit.then K (fun _ _ _ => False)) { tmps := (ps.zip (encs x)).foldl (fun t (p, v) => t.setIfInBounds p v) a.tmps, defers := [] } W)
    (hbody : ∀ (l : Nat) (pre : List α) (x : α) (W : World) (X : Nat), I pre W → pre.length < N → w.heap.size ≤ X → W.heap[X]? = some (o x) → body.wpIn (F.inRound l) (d - 1 - 1) Tryd.prog (leftM I Ix (pre ++ [x]) W) (a₁ x X) W)
    (End : List α → World → Prop) (cx : Code) (hex : ∀ a W, Q .normal a W → cx.wpIn F d Tryd.prog Q a W) (h1 : ∀ xs W, S xs → I xs W → End xs W) (h2 : ∀ c xs W, Sp xs → Ix c xs W → c = cx ∧ End xs W)
    (hend : ∀ (D : Nat) (xs : List α) (W : World), w.heap.size ≤ D → End xs W → W.heap[D]? = some (.deferred (some [])) → Q .normal { a with defers := { target := .collected D, args := #[] } :: a.defers } W) :
    (Code.rangeFunc g ps assign body).wpIn F d Tryd.prog Q a w :=
  range_made hro hd hg hF eg hseq hps I Ix hI hIx h0 o ho a₁ hassign hbody (fun D xs W hD hS hi hk => hend D xs W hD (h1 xs W hS hi) hk)
    (fun D c pre W hD hS hi hk => by obtain ⟨rfl, he⟩ := h2 c pre W hS hi; exact hex _ _ (hend D pre W hD he hk))
end law
namespace notesAll
/-- The boxes between two rounds: the place to stop at, the answer, how many. -/
def Bx (p : Nat) (w : World) (stop : Int) (n : Nat) (W : World) : Prop :=
  Whole W p 3 #[.int .i64 stop] ∧ Whole W (p + 1) 4 #[.bool false] ∧ Whole W (p + 2) 3 #[.int .i64 n] ∧ Below p w W
theorem Bx.grown {p : Nat} {w : World} {stop : Int} {n : Nat} {W W' : World} {row : Option Nat} (h : Bx p w stop n W) (hg : W.grownBy W' row) (hr : ∀ r, row = some r → p ≤ r ∧ ∃ o : Obj, W.heap[r]? = some o ∧ o.isCells = false) : Bx p w stop n W' :=
  ⟨whole_abides h.1 hg (fun r e => (hr r e).2), whole_abides h.2.1 hg (fun r e => (hr r e).2), whole_abides h.2.2.1 hg (fun r e => (hr r e).2), h.2.2.2.grown hg (Nat.le_of_lt h.1.lt) (fun r e => (hr r e).1)⟩
theorem eql_nil (w : World) : (binOp .eql 30 (.func (.func 26) #[] #[]) .nilFunc).run Tryd.prog w = .ok (.bool false) w := by kernel_rfl
attribute [local irreducible] upC nmF fmF szF cyF
theorem walk (stop : Int) (w : World) :
    Calls Tryd.prog 4 #[.int .i64 stop] w fun e w' => e = .returned (.bool true) ∧ Below w.heap.size w w' := by
  refine (callsIn_wide (n := 9)).1 ?_
  refine callsIn_of_wp_marks Tryd.func4 rfl trivial ?_ rfl
  simp only [Tryd.ntmps4, List.size_toArray, List.length_cons, List.length_nil, Nat.reduceAdd, Nat.reduceSub, Array.replicate_succ, Array.replicate_zero, List.push_toArray, List.append_toArray, List.nil_append, List.cons_append]
  gi_wp2_with fail
  have k0 := (Whole.fresh w 3 #[.int .i64 stop]).alloc (.cells #[.bool false] 4)
  have k1 := Whole.fresh (w.alloc (.cells #[.int .i64 stop] 3)) 4 #[.bool false]
  rw [World.size_alloc] at k1
  have hB0 := ((Below.refl w.heap.size w).alloc (Nat.le_refl _) (.cells #[.int .i64 stop] 3)).alloc (by simp) (.cells #[.bool false] 4)
  have hsz : ((w.alloc (.cells #[.int .i64 stop] 3)).alloc (.cells #[.bool false] 4)).heap.size = w.heap.size + 2 := by simp
  generalize (w.alloc (.cells #[.int .i64 stop] 3)).alloc (.cells #[.bool false] 4) = W0 at *
  refine ⟨trivial, (callsIn_wide.2 (all_any _)).mono ?_⟩
  rintro e W1 ⟨rfl, rfl⟩
  have hq := eql_nil
  gi_wp2_with fail
  have k2 := Whole.fresh W0 3 #[.int .i64 0]
  replace k0 := k0.alloc (.cells #[.int .i64 0] 3)
  replace k1 := k1.alloc (.cells #[.int .i64 0] 3)
  replace hB0 := hB0.alloc (by omega) (.cells #[.int .i64 0] 3)
  rw [hsz] at k2
  have hsz2 : (W0.alloc (.cells #[.int .i64 0] 3)).heap.size = w.heap.size + 3 := by simp [hsz]
  have hI0 : Bx w.heap.size w stop ([] : List Cd).length (W0.alloc (.cells #[.int .i64 0] 3)) := ⟨k0, k1, k2, hB0⟩
  clear k0 k1 k2 hB0 hsz
  generalize W0.alloc (.cells #[.int .i64 0] 3) = W2 at *
  refine range_left (o := fun x : Cd => objC x.1) rfl (by omega) (gf := 26) (lb := #[]) rfl trivial (enters_of Tryd.func26 (by kernel_rfl) rfl)
    (all_stops W2 _ (by omega)) (fun _ => rfl) (fun pre W => Bx w.heap.size w stop pre.length W) (fun c pre W => (c = .ret ∧ ¬ pre <+: upC 256) ∨ (c = .exit 0 ∧ Bx w.heap.size w stop pre.length W ∧ (pre.length : Int) = stop))
    (fun s A B row h hg hr => h.grown hg (fun r e => ⟨by have := (hr r e).1; omega, (hr r e).2⟩)) (fun c s A B row h hg hr => h.imp id (fun h => ⟨h.1, h.2.1.grown hg (fun r e => ⟨by have := (hr r e).1; omega, (hr r e).2⟩), h.2.2⟩)) hI0 (fun _ => rfl)
    (fun (x : Cd) (X : Nat) => { tmps := #[Value.int IntKind.i64 stop, Value.pointer (some { block := w.heap.size, off := 0 }), Value.pointer (some { block := w.heap.size + 1, off := 0 }), Value.func (Fn.func 26) #[] #[], Value.pointer (some { block := w.heap.size + 2, off := 0 }), Value.pointer (some { block := X, off := 0 }), Value.func (Fn.func 26) #[] #[], Value.func (Fn.func 26) #[] #[], Value.bool false, Value.func (Fn.func 26) #[] #[], ntV x.1, undef, undef, undef, undef, undef, undef, undef, undef, undef, undef, undef, undef, undef, undef, undef, undef, undef, undef, undef, undef, undef], defers := [] }) ?assign ?body (fun xs W => Bx w.heap.size w stop xs.length W ∧ (xs.length = 256 ∨ (xs.length : Int) = stop)) (.exit 0) ?hex ?h1 ?h2 ?hend
  case assign =>
    intro l x W K hK
    simp only [encC, ntV, objC] at hK ⊢
    gi_wp2
    exact hK
  case hex =>
    intro a W h
    first
      | exact h
      | exact wpIn_exit h
  case h1 =>
    rintro xs W rfl h
    exact ⟨h, .inl (upC_len 256)⟩
  case h2 =>
    rintro c xs W hp (⟨_, h⟩ | ⟨rfl, h1, h2⟩)
    · exact absurd hp h
    · exact ⟨rfl, h1, .inr h2⟩
  case body =>
    rintro l pre x W X ⟨h1, h2, h3, h4⟩ hlen hX hXo
    have hX' : Whole W X 25 #[.int .u8 x.1, .string (nmF x.1), .string (fmF x.1), .int .i64 (szF x.1 : Nat), .int .i64 (cyF x.1 : Nat)] := hXo
    have x0 := hX'.cell 0
    have x1 := hX'.cell 1
    have x2 := hX'.cell 2
    have x3 := hX'.cell 3
    have x4 := hX'.cell 4
    have c1 := h1.cell 0
    have c2 := h2.cell 0
    have f2 := h2.free 0
    have c3 := h3.cell 0
    have f3 := h3.free 0
    simp only [List.getElem?_toArray, List.getElem?_cons_zero, List.getElem?_cons_succ] at x0 x1 x2 x3 x4 c1 c2 c3
    have hl1 : (pre ++ [x]).length = pre.length + 1 := by simp
    have hat := fun (h : (pre ++ [x]) <+: upC 256) => upC_at h
    unfold leftM
    replace hl1 := Lib.hid hl1
    clear hI0 hXo
    gi_upto_region 7 with (fail)
    refine wpIn_region_below_round (by kernel_rfl) (by kernel_rfl) (by kernel_rfl) ?_
    by_cases hp : pre.length < 256 ∧ x.1 = pre.length
    · obtain ⟨hn, hx⟩ := hp
      clear hat
      have HO := Lib.hid fun W => rof_any x.1 W x.2
      unfold ntV at HO
      generalize pre.length = n at *
      generalize x.1 = xv at *
      subst hx
      have t1 : decide ((255 : Int) < (xv : Int)) = false := decide_eq_false (by omega)
      have hmod : (xv : Int) % 256 = xv := by omega
      generalize nmF xv = nf at *
      generalize fmF xv = ff at *
      generalize szF xv = sz at *
      generalize cyF xv = cy at *
      replace hX' := Lib.hid hX'
      replace h1 := Lib.hid h1
      replace h2 := Lib.hid h2
      replace h3 := Lib.hid h3
      replace h4 := Lib.hid h4
      have z0 := cell_regrown x0
      have z1 := cell_regrown x1
      have z2 := cell_regrown x2
      have z3 := cell_regrown x3
      have z4 := cell_regrown x4
      have z5 := cell_regrown c3
      clear x0 x1 x2 x3 x4 c3 c2 f2
      repeat (go_big_quiet_step (first
        | (go_at_call 10; first | (with_reducible exact Calls.regrown_of (HO.out _)))))
      refine wpQuiet_nil ?_
      intro _ hw'
      obtain ⟨⟨dq, osq⟩, hw''⟩ := hw'
      subst hw''
      have hbl := below_regrown W dq osq
      clear z0 z1 z2 z3 z4 z5 HO hX'
      have h1a := h1.out.below hbl h1.out.lt
      have h2a := h2.out.below hbl h2.out.lt
      have h3a := h3.out.below hbl h3.out.lt
      have h4a := h4.out.trans (hbl.mono h4.out.size)
      have hko := others_below hbl
      generalize Go.«Sort».grow (redrawn W dq) osq = V1 at *
      have d1 := h1a.cell 0
      have d3 := h3a.cell 0
      have g3 := h3a.free 0
      have h3b := h3a.put 0 (.int .i64 ((xv : Int) + 1))
      have h1b := h1a.away (p := ⟨w.heap.size + 2, 0, none⟩) (by simp) (.int .i64 ((xv : Int) + 1))
      have h2b := h2a.away (p := ⟨w.heap.size + 2, 0, none⟩) (by simp) (.int .i64 ((xv : Int) + 1))
      have h4b := h4a.setCell (p := ⟨w.heap.size + 2, 0, none⟩) (Nat.le_add_right _ _) (.int .i64 ((xv : Int) + 1))
      have hko2 := hko.trans (KeepsOthers.setCell V1 ⟨w.heap.size + 2, 0, none⟩ (.int .i64 ((xv : Int) + 1)))
      have e1 := h3b.cell 0
      have e2 := h1b.cell 0
      simp only [List.getElem?_toArray, List.getElem?_cons_zero, List.setIfInBounds_toArray, List.set_cons_zero] at d1 d3 e1 e2 h3b
      have hbx : Bx w.heap.size w stop (xv + 1) (V1.setCell ⟨w.heap.size + 2, 0, none⟩ (.int .i64 ((xv : Int) + 1))) := ⟨h1b, h2b, by rw [Int.natCast_add]; exact h3b, h4b⟩
      have hfin := Lib.hid (And.intro hko2 hbx)
      clear h1 h2 h3 h4 h1a h2a h3a h4a h1b h2b h3b h4b hko hko2 hbx hbl
      cases hs : ((xv : Int) + 1 == stop) with
      | true =>
        gi_wp2_with fail
        exact ⟨hfin.out.1, .inr ⟨rfl, by rw [hl1.out]; exact hfin.out.2, by rw [hl1.out]; simpa using hs⟩⟩
      | false =>
        gi_wp2_with fail
        exact ⟨hfin.out.1, trivial, by show Bx w.heap.size w stop (pre ++ [x]).length _; rw [hl1.out]; exact hfin.out.2⟩
    · have hp' : ¬ (pre ++ [x]) <+: upC 256 := fun h => hp (hat h)
      have hno : 255 < pre.length ∨ (pre.length < 256 ∧ x.1 ≠ pre.length) := by
        by_cases h : 255 < pre.length
        · exact .inl h
        · exact .inr ⟨by omega, fun e => hp ⟨by omega, e⟩⟩
      clear hat hp
      replace hp' := Lib.hid hp'
      rcases hno with hn | ⟨hn, hx⟩
      · generalize pre.length = n at *
        have t1 : decide ((255 : Int) < (n : Int)) = true := decide_eq_true (by omega)
        have z5 := cell_regrown c3
        clear x0 x1 x2 x3 x4 c3 c2 f2 hX'
        repeat (go_big_quiet_step (fail))
        refine wpQuiet_nil ?_
        intro _ hw'
        obtain ⟨⟨dq, osq⟩, hw''⟩ := hw'
        subst hw''
        have hbl := below_regrown W dq osq
        have h2a := h2.below hbl h2.lt
        have hko := others_below hbl
        generalize Go.«Sort».grow (redrawn W dq) osq = V1 at *
        have d2 := h2a.cell 0
        have g2 := h2a.free 0
        have hko2 := Lib.hid (hko.trans (KeepsOthers.setCell V1 ⟨w.heap.size + 1, 0, none⟩ (.bool false)))
        simp only [List.getElem?_toArray, List.getElem?_cons_zero] at d2
        clear h1 h2 h3 h4 h2a hko hbl z5
        gi_wp2_with fail
        exact ⟨hko2.out, .inl ⟨rfl, hp'.out⟩⟩
      · have HO := Lib.hid fun W => rof_any pre.length W hn
        unfold ntV at HO
        generalize pre.length = n at *
        generalize x.1 = xv at *
        have t1 : decide ((255 : Int) < (n : Int)) = false := decide_eq_false (by omega)
        have hmod : (n : Int) % 256 = n := by omega
        have hne : ((xv : Int) == (n : Int)) = false := by rw [beq_eq_false_iff_ne]; omega
        have hne2 : ¬ ((xv : Int) = (n : Int)) := by omega
        generalize nmF xv = nf at *
        generalize fmF xv = ff at *
        generalize szF xv = sz at *
        generalize cyF xv = cy at *
        generalize nmF n = nf' at *
        generalize fmF n = ff' at *
        generalize szF n = sz' at *
        generalize cyF n = cy' at *
        have z0 := cell_regrown x0
        have z1 := cell_regrown x1
        have z2 := cell_regrown x2
        have z3 := cell_regrown x3
        have z4 := cell_regrown x4
        have z5 := cell_regrown c3
        replace h1 := Lib.hid h1
        replace h2 := Lib.hid h2
        clear x0 x1 x2 x3 x4 c3 c2 f2 hX' h3 h4
        repeat (go_big_quiet_step (first
          | (go_at_call 10; first | (with_reducible exact Calls.regrown_of (HO.out _)))))
        refine wpQuiet_nil ?_
        intro _ hw'
        obtain ⟨⟨dq, osq⟩, hw''⟩ := hw'
        subst hw''
        have hbl := below_regrown W dq osq
        have h2a := h2.out.below hbl h2.out.lt
        have hko := others_below hbl
        generalize Go.«Sort».grow (redrawn W dq) osq = V1 at *
        have d2 := h2a.cell 0
        have g2 := h2a.free 0
        have hko2 := Lib.hid (hko.trans (KeepsOthers.setCell V1 ⟨w.heap.size + 1, 0, none⟩ (.bool false)))
        simp only [List.getElem?_toArray, List.getElem?_cons_zero] at d2
        clear h1 h2 h2a hko hbl z0 z1 z2 z3 z4 z5 HO
        gi_wp2_with fail
        exact ⟨hko2.out, .inl ⟨rfl, hp'.out⟩⟩
  case hend =>
    rintro D xs W hD ⟨⟨h1, h2, h3, h4⟩, hl⟩ hK
    clear hI0
    have hD3 : w.heap.size + 3 ≤ D := by omega
    clear hsz2 hD
    generalize xs.length = n at *
    have c1 := h1.cell 0
    have c2 := h2.cell 0
    have c3 := h3.cell 0
    have f2 := h2.free 0
    simp only [List.getElem?_toArray, List.getElem?_cons_zero] at c1 c2 c3
    have g2 := h2.put 0 (.bool true)
    have g4 := h4.setCell (p := ⟨w.heap.size + 1, 0, none⟩) (Nat.le_add_right _ _) (.bool true)
    have gK := (Below.heap_setCell W ⟨w.heap.size + 1, 0, none⟩ (.bool true) D (show D ≠ w.heap.size + 1 by omega)).trans hK
    simp only [List.setIfInBounds_toArray, List.set_cons_zero] at g2
    have fin : ∀ W2, Whole W2 (w.heap.size + 1) 4 #[.bool true] → Below w.heap.size w W2 → W2.heap[D]? = some (.deferred (some [])) →
        Whole (W2.putObj D (.deferred none)) (w.heap.size + 1) 4 #[.bool true] ∧ Below w.heap.size w (W2.putObj D (.deferred none)) := by
      intro W2 a b c
      exact ⟨whole_abides a (grownBy_putObj' _ D (.deferred none)) (fun r e => by cases e; exact ⟨_, c, rfl⟩), b.grown (grownBy_putObj' W2 D (.deferred none)) b.size (fun r e => by cases e; omega)⟩
    have hfin := Lib.hid (fin _ g2 g4 gK)
    replace gK := Lib.hid gK
    clear h1 h2 h3 h4 g2 g4 fin hK
    by_cases hn : n = 256
    · have t1 : ((n : Int) == 256) = true := by rw [beq_iff_eq]; omega
      have t2 : (n : Int) = 256 := by omega
      clear hl
      gi_wp2_with fail
      refine ⟨by simp, .inl ⟨_, _, rfl, run_takeDeferred gK.out, ?_⟩⟩
      have e2 := hfin.out.1.cell 0
      refine ⟨.bool true, ?_, rfl, hfin.out.2⟩
      simp [results, Tryd.f4, go_sem, e2]
    · have t1 : ((n : Int) == 256) = false := by rw [beq_eq_false_iff_ne]; omega
      have hst : (n : Int) = stop := hl.resolve_left hn
      have t2 : ((n : Int) == stop) = true := by rw [beq_iff_eq]; exact hst
      clear hl
      gi_wp2_with fail
      refine ⟨by simp, .inl ⟨_, _, rfl, run_takeDeferred gK.out, ?_⟩⟩
      have e2 := hfin.out.1.cell 0
      refine ⟨.bool true, ?_, rfl, hfin.out.2⟩
      simp [results, Tryd.f4, go_sem, e2]
end notesAll
end Go.Proofs.YtlogijjgachdjaaDoor
