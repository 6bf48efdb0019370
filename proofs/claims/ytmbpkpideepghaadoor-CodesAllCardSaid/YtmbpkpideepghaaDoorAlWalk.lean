/-
  CodesAll: the walk.
-/
import Derived.Test.YtmbpkpideepghaaDoorRNmd
import Derived.Test.YtmbpkpideepghaaDoorRSz
import Derived.Test.YtmbpkpideepghaaDoorCpy
import Derived.Test.YtmbpkpideepghaaDoorRegRound
import Derived.Sort.CutIn
namespace Go.Proofs.YtmbpkpideepghaaDoor
open Go.RowKit Go.Shelf Go.Sort
attribute [local go_sem] Oper.semAt_some
set_option maxRecDepth 1000000
set_option maxHeartbeats 1000000
set_option linter.unusedVariables false

theorem others_below {W W' : World} (hb : Below W.heap.size W W') : KeepsOthers W W' := ⟨hb.size, fun k _ hk _ => (hb.block k (Array.getElem?_eq_some_iff.1 hk).1).trans hk⟩
/-- What stands ahead of a code among all. -/
theorem upC_at {pre : List Cd} {x : Cd} (h : (pre ++ [x]) <+: upC 256) : pre.length < 256 ∧ x.1 = pre.length := by
  have hl := h.length_le
  rw [upC_len, List.length_append, List.length_singleton] at hl
  refine ⟨by omega, ?_⟩
  obtain ⟨t, ht⟩ := h
  have h1 : (upC 256)[pre.length]? = some x := by rw [← ht]; simp
  unfold upC at h1
  rw [List.getElem?_map, List.getElem?_range (by omega)] at h1
  simp only [Option.map_some, Option.some.injEq] at h1
  rw [← h1]
  exact cdOf_val (by omega)
section law
variable {F : Fence} {d : Nat}
/-- As range_made, where a going that is left by the loop's own exit goes on as one that ends. -/
theorem range_left {α : Type} {g : Operand} {ps : Array Tmp} {assign body : Code} {Q : Exit → Act → World → Prop} {a : Act} {w : World}
    (hro : F.round = none) (hd : 1 ≤ d) {gf : Nat} {lb : Array Value} (hg : a.eval g = .func (.func gf) #[] lb) (hF : F.fn gf) (eg : ∀ args w, (callFunc gf args).run Tryd.prog w = .ok (.enter gf args) w)
    {encs : α → Array Value} {S Sp : List α → Prop} {N : Nat} (hseq : SeqStopsK F (d - 1) Tryd.prog gf lb encs (fun _ _ => True) S Sp N w) (hps : ∀ x, (encs x).size = ps.size)
    (I : List α → World → Prop) (Ix : Code → List α → World → Prop) (hI : OwnFrom w.heap.size I) (hIx : ∀ c, OwnFrom w.heap.size (Ix c)) (h0 : I [] w) (o : α → Obj) (ho : ∀ x, (o x).isCells = true) (a₁ : α → Nat → Act)
    (hassign : ∀ (l : Nat) (x : α) (W : World) (K : Act → World → Prop), K (a₁ x W.heap.size) (W.alloc (o x)) → assign.wpIn (F.inRound l) (d - 1 - 1) Tryd.prog (Exit.then K (fun _ _ _ => False)) { tmps := (ps.zip (encs x)).foldl (fun t (p, v) => t.setIfInBounds p v) a.tmps, defers := [] } W)
    (hbody : ∀ (l : Nat) (pre : List α) (x : α) (W : World) (X : Nat), I pre W → pre.length < N → w.heap.size ≤ X → W.heap[X]? = some (o x) → body.wpIn (F.inRound l) (d - 1 - 1) Tryd.prog (leftM I Ix (pre ++ [x]) W) (a₁ x X) W)
    (End : List α → World → Prop) (cx : Code) (hex : ∀ a W, Q .normal a W → cx.wpIn F d Tryd.prog Q a W) (h1 : ∀ xs W, S xs → I xs W → End xs W) (h2 : ∀ c xs W, Sp xs → Ix c xs W → c = cx ∧ End xs W)
    (hend : ∀ (D : Nat) (xs : List α) (W : World), w.heap.size ≤ D → End xs W → W.heap[D]? = some (.deferred (some [])) → Q .normal { a with defers := { target := .collected D, args := #[] } :: a.defers } W) :
    (Code.rangeFunc g ps assign body).wpIn F d Tryd.prog Q a w :=
  range_made hro hd hg hF eg hseq hps I Ix hI hIx h0 o ho a₁ hassign hbody (fun D xs W hD hS hi hk => hend D xs W hD (h1 xs W hS hi) hk)
    (fun D c pre W hD hS hi hk => by obtain ⟨rfl, he⟩ := h2 c pre W hS hi; exact hex _ _ (hend D pre W hD he hk))
end law
namespace codesAll
/-- The boxes between two rounds: the place to stop at, the answer, how many. -/
def Bx (p : Nat) (w : World) (stop : Int) (n : Nat) (W : World) : Prop :=
  Whole W p 3 #[.int .i64 stop] ∧ Whole W (p + 1) 4 #[.bool false] ∧ Whole W (p + 2) 3 #[.int .i64 n] ∧ Below p w W
theorem Bx.grown {p : Nat} {w : World} {stop : Int} {n : Nat} {W W' : World} {row : Option Nat} (h : Bx p w stop n W) (hg : W.grownBy W' row) (hr : ∀ r, row = some r → p ≤ r ∧ ∃ o : Obj, W.heap[r]? = some o ∧ o.isCells = false) : Bx p w stop n W' :=
  ⟨whole_abides h.1 hg (fun r e => (hr r e).2), whole_abides h.2.1 hg (fun r e => (hr r e).2), whole_abides h.2.2.1 hg (fun r e => (hr r e).2), h.2.2.2.grown hg (Nat.le_of_lt h.1.lt) (fun r e => (hr r e).1)⟩
theorem eql_nil (w : World) : (binOp .eql 30 (.func (.func 37) #[] #[]) .nilFunc).run Tryd.prog w = .ok (.bool false) w := by kernel_rfl
attribute [local irreducible] upC nameF modeF useF widthF
theorem walk (nm : ByteArray) (stop : Int) (w : World) :
    Calls Tryd.prog 4 #[.string nm, .int .i64 stop] w fun e w' => e = .returned (.bool true) ∧ Below w.heap.size w w' := by
  refine (callsIn_wide (n := 9)).1 ?_
  refine callsIn_of_wp_marks Tryd.func4 rfl trivial ?_ rfl
  simp only [Tryd.ntmps4, List.size_toArray, List.length_cons, List.length_nil, Nat.reduceAdd, Nat.reduceSub, Array.replicate_succ, Array.replicate_zero, List.push_toArray, List.append_toArray, List.nil_append, List.cons_append]
  gi_wp2_with fail
  have k0 := (Whole.fresh w 3 #[.int .i64 stop]).alloc (.cells #[.bool false] 4)
  have k1 := Whole.fresh (w.alloc (.cells #[.int .i64 stop] 3)) 4 #[.bool false]
  rw [World.size_alloc] at k1
  have hB0 := ((Below.refl w.heap.size w).alloc (Nat.le_refl _) (.cells #[.int .i64 stop] 3)).alloc (by simp) (.cells #[.bool false] 4)
  have hsz : ((w.alloc (.cells #[.int .i64 stop] 3)).alloc (.cells #[.bool false] 4)).heap.size = w.heap.size + 2 := by simp
  generalize (w.alloc (.cells #[.int .i64 stop] 3)).alloc (.cells #[.bool false] 4) = W0 at *
  refine ⟨trivial, (callsIn_wide.2 (all_any _)).mono ?_⟩
  rintro e W1 ⟨rfl, rfl⟩
  have hq := eql_nil
  gi_wp2_with fail
  have k2 := Whole.fresh W0 3 #[.int .i64 0]
  replace k0 := k0.alloc (.cells #[.int .i64 0] 3)
  replace k1 := k1.alloc (.cells #[.int .i64 0] 3)
  replace hB0 := hB0.alloc (by omega) (.cells #[.int .i64 0] 3)
  rw [hsz] at k2
  have hsz2 : (W0.alloc (.cells #[.int .i64 0] 3)).heap.size = w.heap.size + 3 := by simp [hsz]
  have hI0 : Bx w.heap.size w stop ([] : List Cd).length (W0.alloc (.cells #[.int .i64 0] 3)) := ⟨k0, k1, k2, hB0⟩
  clear k0 k1 k2 hB0 hsz
  generalize W0.alloc (.cells #[.int .i64 0] 3) = W2 at *
  refine range_left (o := fun x : Cd => objC x.1) rfl (by omega) (gf := 37) (lb := #[]) rfl trivial (enters_of Tryd.func37 (by kernel_rfl) rfl)
    (all_stops W2 _ (by omega)) (fun _ => rfl) (fun pre W => Bx w.heap.size w stop pre.length W) (fun c pre W => (c = .ret ∧ ¬ pre <+: upC 256) ∨ (c = .exit 0 ∧ Bx w.heap.size w stop pre.length W ∧ (pre.length : Int) = stop))
    (fun s A B row h hg hr => h.grown hg (fun r e => ⟨by have := (hr r e).1; omega, (hr r e).2⟩)) (fun c s A B row h hg hr => h.imp id (fun h => ⟨h.1, h.2.1.grown hg (fun r e => ⟨by have := (hr r e).1; omega, (hr r e).2⟩), h.2.2⟩)) hI0 (fun _ => rfl)
    (fun (x : Cd) (X : Nat) => { tmps := List.toArray ((Value.string nm) :: (Value.int IntKind.i64 stop) :: undef :: (Value.pointer (some { block := w.heap.size, off := 0 })) :: (Value.pointer (some { block := w.heap.size + 1, off := 0 })) :: (Value.func (Fn.func 37) #[] #[]) :: (Value.pointer (some { block := w.heap.size + 2, off := 0 })) :: (Value.pointer (some { block := X, off := 0 })) :: undef :: undef :: undef :: undef :: (Value.func (Fn.func 37) #[] #[]) :: (Value.func (Fn.func 37) #[] #[]) :: (Value.bool false) :: (Value.func (Fn.func 37) #[] #[]) :: (cdV x.1) :: undef :: undef :: undef :: undef :: undef :: undef :: undef :: undef :: undef :: undef :: undef :: undef :: undef :: undef :: undef :: undef :: undef :: undef :: undef :: undef :: undef :: undef :: undef :: undef :: undef :: undef :: undef :: undef :: undef :: undef :: undef :: undef :: undef :: undef :: undef :: undef :: undef :: undef :: undef :: undef :: undef :: undef :: undef :: undef :: undef :: undef :: undef :: undef :: undef :: undef :: undef :: undef :: undef :: undef :: undef :: undef :: undef :: undef :: undef :: undef :: []), defers := [] }) ?assign ?body (fun xs W => Bx w.heap.size w stop xs.length W ∧ (xs.length = 256 ∨ (xs.length : Int) = stop)) (.exit 0) ?hex ?h1 ?h2 ?hend
  case assign =>
    intro l x W K hK
    simp only [encC, cdV, codeV, objC] at hK ⊢
    gi_wp2
    exact hK
  case hex =>
    intro a W h
    first
      | exact h
      | exact wpIn_exit h
  case h1 =>
    rintro xs W rfl h
    exact ⟨h, .inl (upC_len 256)⟩
  case h2 =>
    rintro c xs W hp (⟨_, h⟩ | ⟨rfl, h1, h2⟩)
    · exact absurd hp h
    · exact ⟨rfl, h1, .inr h2⟩
  case body =>
    rintro l pre x W X ⟨h1, h2, h3, h4⟩ hlen hX hXo
    have hX' : Whole W X 23 #[.int .u8 x.1, .string (nameF x.1), .int .u8 (modeF x.1), .int .u8 (useF (nameF x.1).toList (modeF x.1)), .int .u8 (widthF (nameF x.1).toList)] := hXo
    have x0 := hX'.cell 0
    have x1 := hX'.cell 1
    have x2 := hX'.cell 2
    have x3 := hX'.cell 3
    have x4 := hX'.cell 4
    have c1 := h1.cell 0
    have c2 := h2.cell 0
    have f2 := h2.free 0
    have c3 := h3.cell 0
    have f3 := h3.free 0
    simp only [List.getElem?_toArray, List.getElem?_cons_zero, List.getElem?_cons_succ] at x0 x1 x2 x3 x4 c1 c2 c3
    have hl1 : (pre ++ [x]).length = pre.length + 1 := by simp
    have hat := fun (h : (pre ++ [x]) <+: upC 256) => upC_at h
    unfold leftM
    replace hl1 := Lib.hid hl1
    clear hI0 hXo
    gi_upto_region 7 with (fail)
    refine wpIn_region_below_round (by kernel_rfl) (by kernel_rfl) (by kernel_rfl) ?_
    by_cases hp : pre.length < 256 ∧ x.1 = pre.length
    · obtain ⟨hn, hx⟩ := hp
      clear hat
      have HO := Lib.hid fun W => rof_same x.1 W x.2
      unfold codeV at HO
      generalize pre.length = n at *
      generalize x.1 = xv at *
      subst hx
      have t1 : decide ((255 : Int) < (xv : Int)) = false := decide_eq_false (by omega)
      have hmod : (xv : Int) % 256 = xv := by omega
      generalize useF (nameF xv).toList (modeF xv) = u at *
      generalize widthF (nameF xv).toList = wd at *
      generalize modeF xv = m at *
      generalize nameF xv = nf at *
      replace hX' := Lib.hid hX'
      replace h1 := Lib.hid h1
      replace h2 := Lib.hid h2
      replace h3 := Lib.hid h3
      replace h4 := Lib.hid h4
      have z0 := cell_regrown x0
      have z1 := cell_regrown x1
      have z2 := cell_regrown x2
      have z3 := cell_regrown x3
      have z4 := cell_regrown x4
      have z5 := cell_regrown c3
      clear x0 x1 x2 x3 x4 c3 c2 f2
      repeat (go_big_quiet_step (first
        | (go_at_call 11; first | (with_reducible exact Calls.regrown_of (HO.out _)))))
      refine wpQuiet_nil ?_
      intro _ hw'
      obtain ⟨⟨dq, osq⟩, hw''⟩ := hw'
      subst hw''
      have hbl := below_regrown W dq osq
      clear z0 z1 z2 z3 z4 z5 HO hX'
      have h1a := h1.out.below hbl h1.out.lt
      have h2a := h2.out.below hbl h2.out.lt
      have h3a := h3.out.below hbl h3.out.lt
      have h4a := h4.out.trans (hbl.mono h4.out.size)
      have hko := others_below hbl
      generalize Go.«Sort».grow (redrawn W dq) osq = V1 at *
      have d1 := h1a.cell 0
      have d3 := h3a.cell 0
      have g3 := h3a.free 0
      have h3b := h3a.put 0 (.int .i64 ((xv : Int) + 1))
      have h1b := h1a.away (p := ⟨w.heap.size + 2, 0, none⟩) (by simp) (.int .i64 ((xv : Int) + 1))
      have h2b := h2a.away (p := ⟨w.heap.size + 2, 0, none⟩) (by simp) (.int .i64 ((xv : Int) + 1))
      have h4b := h4a.setCell (p := ⟨w.heap.size + 2, 0, none⟩) (Nat.le_add_right _ _) (.int .i64 ((xv : Int) + 1))
      have hko2 := hko.trans (KeepsOthers.setCell V1 ⟨w.heap.size + 2, 0, none⟩ (.int .i64 ((xv : Int) + 1)))
      have e1 := h3b.cell 0
      have e2 := h1b.cell 0
      simp only [List.getElem?_toArray, List.getElem?_cons_zero, List.setIfInBounds_toArray, List.set_cons_zero] at d1 d3 e1 e2 h3b
      have hbx : Bx w.heap.size w stop (xv + 1) (V1.setCell ⟨w.heap.size + 2, 0, none⟩ (.int .i64 ((xv : Int) + 1))) := ⟨h1b, h2b, by rw [Int.natCast_add]; exact h3b, h4b⟩
      have hfin := Lib.hid (And.intro hko2 hbx)
      clear h1 h2 h3 h4 h1a h2a h3a h4a h1b h2b h3b h4b hko hko2 hbx hbl
      cases hs : ((xv : Int) + 1 == stop) with
      | true =>
        gi_wp2_with fail
        exact ⟨hfin.out.1, .inr ⟨rfl, by rw [hl1.out]; exact hfin.out.2, by rw [hl1.out]; simpa using hs⟩⟩
      | false =>
        gi_wp2_with fail
        exact ⟨hfin.out.1, trivial, by show Bx w.heap.size w stop (pre ++ [x]).length _; rw [hl1.out]; exact hfin.out.2⟩
    · have hp' : ¬ (pre ++ [x]) <+: upC 256 := fun h => hp (hat h)
      have hno : 255 < pre.length ∨ (pre.length < 256 ∧ x.1 ≠ pre.length) := by
        by_cases h : 255 < pre.length
        · exact .inl h
        · exact .inr ⟨by omega, fun e => hp ⟨by omega, e⟩⟩
      clear hat hp
      replace hp' := Lib.hid hp'
      rcases hno with hn | ⟨hn, hx⟩
      · generalize pre.length = n at *
        have t1 : decide ((255 : Int) < (n : Int)) = true := decide_eq_true (by omega)
        have z5 := cell_regrown c3
        clear x0 x1 x2 x3 x4 c3 c2 f2 hX'
        repeat (go_big_quiet_step (fail))
        refine wpQuiet_nil ?_
        intro _ hw'
        obtain ⟨⟨dq, osq⟩, hw''⟩ := hw'
        subst hw''
        have hbl := below_regrown W dq osq
        have h2a := h2.below hbl h2.lt
        have hko := others_below hbl
        generalize Go.«Sort».grow (redrawn W dq) osq = V1 at *
        have d2 := h2a.cell 0
        have g2 := h2a.free 0
        have hko2 := Lib.hid (hko.trans (KeepsOthers.setCell V1 ⟨w.heap.size + 1, 0, none⟩ (.bool false)))
        simp only [List.getElem?_toArray, List.getElem?_cons_zero] at d2
        clear h1 h2 h3 h4 h2a hko hbl z5
        gi_wp2_with fail
        exact ⟨hko2.out, .inl ⟨rfl, hp'.out⟩⟩
      · have HO := Lib.hid fun W => rof_same pre.length W hn
        unfold codeV at HO
        generalize pre.length = n at *
        generalize x.1 = xv at *
        have t1 : decide ((255 : Int) < (n : Int)) = false := decide_eq_false (by omega)
        have hmod : (n : Int) % 256 = n := by omega
        have hne : ((xv : Int) == (n : Int)) = false := by rw [beq_eq_false_iff_ne]; omega
        have hne2 : ¬ ((xv : Int) = (n : Int)) := by omega
        generalize useF (nameF xv).toList (modeF xv) = u at *
        generalize widthF (nameF xv).toList = wd at *
        generalize modeF xv = m at *
        generalize nameF xv = nf at *
        generalize useF (nameF n).toList (modeF n) = u' at *
        generalize widthF (nameF n).toList = wd' at *
        generalize modeF n = m' at *
        generalize nameF n = nf' at *
        have z0 := cell_regrown x0
        have z1 := cell_regrown x1
        have z2 := cell_regrown x2
        have z3 := cell_regrown x3
        have z4 := cell_regrown x4
        have z5 := cell_regrown c3
        replace h1 := Lib.hid h1
        replace h2 := Lib.hid h2
        clear x0 x1 x2 x3 x4 c3 c2 f2 hX' h3 h4
        repeat (go_big_quiet_step (first
          | (go_at_call 11; first | (with_reducible exact Calls.regrown_of (HO.out _)))))
        refine wpQuiet_nil ?_
        intro _ hw'
        obtain ⟨⟨dq, osq⟩, hw''⟩ := hw'
        subst hw''
        have hbl := below_regrown W dq osq
        have h2a := h2.out.below hbl h2.out.lt
        have hko := others_below hbl
        generalize Go.«Sort».grow (redrawn W dq) osq = V1 at *
        have d2 := h2a.cell 0
        have g2 := h2a.free 0
        have hko2 := Lib.hid (hko.trans (KeepsOthers.setCell V1 ⟨w.heap.size + 1, 0, none⟩ (.bool false)))
        simp only [List.getElem?_toArray, List.getElem?_cons_zero] at d2
        clear h1 h2 h2a hko hbl z0 z1 z2 z3 z4 z5 HO
        gi_wp2_with fail
        exact ⟨hko2.out, .inl ⟨rfl, hp'.out⟩⟩
  case hend =>
    rintro D xs W hD ⟨⟨h1, h2, h3, h4⟩, hl⟩ hK
    clear hI0
    have hD3 : w.heap.size + 3 ≤ D := by omega
    clear hsz2 hD
    generalize xs.length = n at *
    have c1 := h1.cell 0
    have c3 := h3.cell 0
    have f3 := h3.free 0
    simp only [List.getElem?_toArray, List.getElem?_cons_zero] at c1 c3
    replace h1 := Lib.hid h1
    replace h2 := Lib.hid h2
    replace h3 := Lib.hid h3
    replace h4 := Lib.hid h4
    replace hK := Lib.hid hK
    gi_upto_region 11 with (fail)
    gi_cut [37] from 12 (fun s wx => wx = W ∧ s = .bool false)
    case first =>
      by_cases hn : n = 256
      · have t1 : ((n : Int) == 256) = true := by rw [beq_iff_eq]; omega
        have t2 : (n : Int) = 256 := by omega
        clear hl
        gi_wp2_with fail
        gi_meet
        case rel => exact ⟨rfl, rfl⟩
      · have t1 : ((n : Int) == 256) = false := by rw [beq_eq_false_iff_ne]; omega
        have hst : (n : Int) = stop := hl.resolve_left hn
        have t2 : ((n : Int) == stop) = true := by rw [beq_iff_eq]; exact hst
        clear hl
        gi_wp2_with fail
        gi_meet
        case rel => exact ⟨rfl, rfl⟩
    case rest =>
    obtain ⟨rfl, rfl⟩ := hcut
    gi_wp2_with fail
    have h3a := h3.out.put 0 (.int .i64 0)
    have h1a := h1.out.away (p := ⟨w.heap.size + 2, 0, none⟩) (by simp) (.int .i64 0)
    have h2a := h2.out.away (p := ⟨w.heap.size + 2, 0, none⟩) (by simp) (.int .i64 0)
    have h4a := h4.out.setCell (p := ⟨w.heap.size + 2, 0, none⟩) (Nat.le_add_right _ _) (.int .i64 0)
    have hKa := (Below.heap_setCell wc ⟨w.heap.size + 2, 0, none⟩ (.int .i64 0) D (show D ≠ w.heap.size + 2 by omega)).trans hK.out
    simp only [List.setIfInBounds_toArray, List.set_cons_zero] at h3a
    have hI0 : Bx w.heap.size w stop ([] : List Cd).length (wc.setCell ⟨w.heap.size + 2, 0, none⟩ (.int .i64 0)) := ⟨h1a, h2a, h3a, h4a⟩
    clear h1 h2 h3 h4 hK h1a h2a h3a h4a c1 c3 f3 hl
    generalize wc.setCell ⟨w.heap.size + 2, 0, none⟩ (.int .i64 0) = W4 at *
    have hDs : D < W4.heap.size := (Array.getElem?_eq_some_iff.1 hKa).1
    have hps : w.heap.size < W4.heap.size := hI0.1.lt
    refine range_made (o := fun x : Cd => objC x.1) rfl (by omega) (gf := 37) (lb := #[]) rfl trivial (enters_of Tryd.func37 (by kernel_rfl) rfl)
      (all_stops W4 _ (by omega)) (fun _ => rfl) (fun pre W => Bx w.heap.size w stop pre.length W ∧ W.heap[D]? = some (.deferred (some []))) (fun c pre W => c = .ret ∧ ¬ pre <+: upC 256)
      (fun s A B row h hg hr => ⟨h.1.grown hg (fun r e => ⟨by have := (hr r e).1; omega, (hr r e).2⟩), (hg.block D (Array.getElem?_eq_some_iff.1 h.2).1 (fun e => by have := (hr D e.symm).1; omega)).trans h.2⟩) (fun c s A B row h hg hr => h) ⟨hI0, hKa⟩ (fun _ => rfl)
      (fun (x : Cd) (X : Nat) => { tmps := List.toArray ((Value.string nm) :: (Value.int IntKind.i64 stop) :: undef :: (Value.pointer (some { block := w.heap.size, off := 0 })) :: (Value.pointer (some { block := w.heap.size + 1, off := 0 })) :: (Value.func (Fn.func 37) #[] #[]) :: (Value.pointer (some { block := w.heap.size + 2, off := 0 })) :: undef :: (Value.pointer (some { block := X, off := 0 })) :: undef :: undef :: undef :: u12 :: u13 :: u14 :: u15 :: u16 :: u17 :: u18 :: u19 :: u20 :: u21 :: u22 :: u23 :: u24 :: u25 :: u26 :: u27 :: u28 :: u29 :: u30 :: u31 :: u32 :: u33 :: u34 :: u35 :: u36 :: (Value.bool false) :: (Value.func (Fn.func 37) #[] #[]) :: (cdV x.1) :: u40 :: u41 :: u42 :: u43 :: u44 :: u45 :: u46 :: u47 :: u48 :: u49 :: u50 :: u51 :: u52 :: u53 :: u54 :: u55 :: u56 :: u57 :: u58 :: u59 :: u60 :: u61 :: u62 :: u63 :: u64 :: u65 :: u66 :: u67 :: u68 :: u69 :: u70 :: u71 :: u72 :: u73 :: u74 :: u75 :: u76 :: []), defers := [] }) ?assign2 ?body2 ?done2 ?stop2
    case assign2 =>
      intro l x W K hK
      simp only [encC, cdV, codeV, objC] at hK ⊢
      gi_wp2
      exact hK
    case stop2 =>
      rintro D2 c pre W hD2 hp ⟨_, hn⟩ hK2
      exact absurd hp hn
    case body2 =>
      rintro l pre x W X ⟨⟨h1, h2, h3, h4⟩, hKb⟩ hlen hX hXo
      have hX' : Whole W X 23 #[.int .u8 x.1, .string (nameF x.1), .int .u8 (modeF x.1), .int .u8 (useF (nameF x.1).toList (modeF x.1)), .int .u8 (widthF (nameF x.1).toList)] := hXo
      have x0 := hX'.cell 0
      have c2 := h2.cell 0
      have f2 := h2.free 0
      have c3 := h3.cell 0
      have f3 := h3.free 0
      simp only [List.getElem?_toArray, List.getElem?_cons_zero] at x0 c2 c3
      have hl1 : (pre ++ [x]).length = pre.length + 1 := by simp
      have hat := fun (h : (pre ++ [x]) <+: upC 256) => upC_at h
      unfold leftM
      replace hl1 := Lib.hid hl1
      clear hI0 hXo hX' hKa
      have hx256 := x.2
      by_cases hx : x.1 = pre.length % 256
      · clear hat
        generalize pre.length = n at *
        generalize x.1 = xv at *
        have hmod : ((n : Int) % 256 == (xv : Int)) = true := by rw [beq_iff_eq]; omega
        have hmod2 : ((xv : Int) == (n : Int) % 256) = true := by rw [beq_iff_eq]; omega
        have hmod3 : (xv : Int) = (n : Int) % 256 := by omega
        have h3b := h3.put 0 (.int .i64 ((n : Int) + 1))
        have h1b := h1.away (p := ⟨w.heap.size + 2, 0, none⟩) (by simp) (.int .i64 ((n : Int) + 1))
        have h2b := h2.away (p := ⟨w.heap.size + 2, 0, none⟩) (by simp) (.int .i64 ((n : Int) + 1))
        have h4b := h4.setCell (p := ⟨w.heap.size + 2, 0, none⟩) (Nat.le_add_right _ _) (.int .i64 ((n : Int) + 1))
        have hKc := (Below.heap_setCell W ⟨w.heap.size + 2, 0, none⟩ (.int .i64 ((n : Int) + 1)) D (show D ≠ w.heap.size + 2 by omega)).trans hKb
        have hko2 := KeepsOthers.setCell W ⟨w.heap.size + 2, 0, none⟩ (.int .i64 ((n : Int) + 1))
        simp only [List.setIfInBounds_toArray, List.set_cons_zero] at h3b
        have hbx : Bx w.heap.size w stop (n + 1) (W.setCell ⟨w.heap.size + 2, 0, none⟩ (.int .i64 ((n : Int) + 1))) := ⟨h1b, h2b, by rw [Int.natCast_add]; exact h3b, h4b⟩
        have hfin := Lib.hid (And.intro hko2 (And.intro hbx hKc))
        clear h1 h2 h3 h4 h1b h2b h3b h4b hko2 hbx hKb hKc
        gi_wp2_with fail
        exact ⟨hfin.out.1, trivial, by show Bx w.heap.size w stop (pre ++ [x]).length _; rw [hl1.out]; exact hfin.out.2.1, hfin.out.2.2⟩
      · have hp' : ¬ (pre ++ [x]) <+: upC 256 := fun h => hx (by have := hat h; omega)
        clear hat
        replace hp' := Lib.hid hp'
        generalize pre.length = n at *
        generalize x.1 = xv at *
        have hmod2 : ((xv : Int) == (n : Int) % 256) = false := by rw [beq_eq_false_iff_ne]; omega
        have hmod3 : ¬ (xv : Int) = (n : Int) % 256 := by omega
        have hko2 := Lib.hid (KeepsOthers.setCell W ⟨w.heap.size + 1, 0, none⟩ (.bool false))
        clear h1 h2 h3 h4 hKb
        gi_wp2_with fail
        exact ⟨hko2.out, rfl, hp'.out⟩
    case done2 =>
      rintro D2 xs2 W hD2 rfl ⟨hb, hK1⟩ hK2
      rw [upC_len] at hb
      clear hI0 hKa hq
      have hlt : ∀ x ∈ namedOf nm (List.range 256), x < 256 := fun x hx => by
        unfold namedOf at hx
        exact List.mem_range.1 (List.mem_filter.1 hx).1
      have hll := namedOf_len nm (List.range 256)
      rw [List.length_range] at hll
      have HN := fun W => named_any nm W
      have HR := fun W => rnamed_any nm W
      unfold bytesV at HN HR
      generalize namedOf nm (List.range 256) = L at *
      have HM := fun W x y d c (h1 : Row W x L.length (fun i => L.getD i 0)) (h2 : Row W y L.length (fun i => L.getD i 0)) => same_any x y L.length c d (fun i => L.getD i 0) W h1 h2 (by omega)
      have HA := Lib.hid awake_any
      replace HN := Lib.hid HN
      replace HR := Lib.hid HR
      replace HM := Lib.hid HM
      replace hb := Lib.hid hb
      replace hK1 := Lib.hid hK1
      replace hK2 := Lib.hid hK2
      gi_wp2_with fail
      refine ⟨trivial, (callsIn_wide.2 (HN.out _)).mono ?_⟩
      rintro e W5 ⟨v, rfl, ho5, hb5⟩
      obtain ⟨a, c, rfl, hRow5, _⟩ := own_row ho5 rfl hlt
      replace hRow5 := Lib.hid hRow5
      gi_wp2_with fail
      refine ⟨trivial, (callsIn_wide.2 (HR.out _)).mono ?_⟩
      rintro e W6 ⟨v6, rfl, ho6, hb6⟩
      obtain ⟨a6, c6, rfl, hRow6, _⟩ := own_row ho6 rfl hlt
      have hRow56 := hRow5.out.below hb6
      have hM := Lib.hid (HM.out _ _ _ c6 c hRow56 hRow6)
      have ho56 := ho5.kept (row := none) ⟨hb6.os, hb6.tape, hb6.output, hb6.size, fun k hk _ => hb6.block k hk⟩ (by cases (Value.slice a L.length c).ownBlock <;> simp)
      have hbw := hb5.trans (hb6.mono hb5.size)
      clear hRow5 hRow6 hRow56 ho5 ho6 hb5 hb6
      gi_wp2_with fail
      refine ⟨trivial, (callsIn_wide.2 hM.out).mono ?_⟩
      rintro e W7 ⟨rfl, hb7⟩
      have ho7 := ho56.kept (row := none) ⟨hb7.os, hb7.tape, hb7.output, hb7.size, fun k hk _ => hb7.block k hk⟩ (by cases (Value.slice a L.length c).ownBlock <;> simp)
      replace hbw := hbw.trans (hb7.mono hbw.size)
      clear ho56 hb7 hM
      gi_wp2_with fail
      gi_loopw [11] (fun s11 wr => ∃ i : Nat, i ≤ L.length ∧ s11 = .int .i64 i ∧ (∃ l' : List Value, wr.ownsRow W.heap.size 5 1 (.slice a L.length c) L.length l') ∧ Below W.heap.size W wr) (fun s11 _ => L.length - (intOf s11).toNat)
      case atStart => exact ⟨0, Nat.zero_le _, rfl, ⟨_, ho7⟩, hbw⟩
      case round =>
        obtain ⟨i, hi, rfl, ⟨l', ho⟩, hB⟩ := hrel
        clear ho7 hbw
        by_cases hlt2 : i < L.length
        · obtain ⟨g, cap, he, hg, _⟩ := ho.form (by omega)
          simp only [Value.slice.injEq, true_and] at he
          obtain ⟨rfl, rfl⟩ := he
          have hl' : l'.length = L.length := by have := ho.1; omega
          have hcl := ho.cellAt i (by omega)
          rw [List.getElem?_eq_getElem (by omega : i < l'.length)] at hcl
          have hfz := ho.frozenAt i
          have hst := (ho.stored i (.int .u8 0)).1
          have hB2 := hB.setCell (p := ⟨g, i, none⟩) hg (.int .u8 0)
          clear ho hB HN HR HM hK1 hK2 hb
          generalize l'[i] = u0 at *
          replace hst := Lib.hid hst
          gi_wp2_with fail
          go_roundw
          case rel => exact ⟨i + 1, hlt2, by go_num, ⟨_, hst.out⟩, hB2⟩
          case measure => simp [intOf]; omega
        · obtain rfl : i = L.length := by omega
          clear ho
          obtain ⟨h1, h2, h3, h4⟩ := hb.out
          have hWD : D < W.heap.size := (Array.getElem?_eq_some_iff.1 hK1.out).1
          have hWD2 : D2 < W.heap.size := (Array.getElem?_eq_some_iff.1 hK2.out).1
          have h3w := (h3.below hB h3.lt).cell 0
          simp only [List.getElem?_toArray, List.getElem?_cons_zero] at h3w
          replace h2 := Lib.hid (And.intro h2 h4)
          clear h1 h3 h4 hb
          replace hB := Lib.hid hB
          gi_wp2_with fail
          refine ⟨trivial, (callsIn_wide.2 (HN.out _)).mono ?_⟩
          rintro e W5 ⟨v, rfl, ho5, hb5⟩
          obtain ⟨a', c', rfl, hRow5, _⟩ := own_row ho5 rfl hlt
          replace hRow5 := Lib.hid hRow5
          replace hB := Lib.hid (hB.out.trans (hb5.mono hB.out.size))
          clear ho5 hb5 HN
          gi_wp2_with fail
          refine ⟨trivial, (callsIn_wide.2 (HR.out _)).mono ?_⟩
          rintro e W6 ⟨v6, rfl, ho6, hb6⟩
          obtain ⟨a6', c6', rfl, hRow6, _⟩ := own_row ho6 rfl hlt
          have hRow56 := hRow5.out.below hb6
          have hM := Lib.hid (HM.out _ _ _ c6' c' hRow56 hRow6)
          replace hB := Lib.hid (hB.out.trans (hb6.mono hB.out.size))
          clear hRow5 hRow6 hRow56 ho6 hb6 HR HM
          gi_wp2_with fail
          refine ⟨trivial, (callsIn_wide.2 hM.out).mono ?_⟩
          rintro e W7 ⟨rfl, hb7⟩
          replace hB := Lib.hid (hB.out.trans (hb7.mono hB.out.size))
          clear hb7 hM
          gi_wp2_with fail
          refine ⟨trivial, (callsIn_wide.2 (HA.out _)).mono ?_⟩
          rintro e W8 ⟨rfl, hb8⟩
          have hB8 := hB.out.trans (hb8.mono hB.out.size)
          have h2w := h2.out.1.below hB8 h2.out.1.lt
          have hbw := h2.out.2.trans (hB8.mono h2.out.2.size)
          have d2 := h2w.cell 0
          have g2 := h2w.free 0
          have h2x := h2w.put 0 (.bool true)
          simp only [List.getElem?_toArray, List.getElem?_cons_zero, List.setIfInBounds_toArray, List.set_cons_zero] at d2 h2x
          have hK1w : W8.heap[D]? = some (.deferred (some [])) := (hB8.block D hWD).trans hK1.out
          have hK2w : W8.heap[D2]? = some (.deferred (some [])) := (hB8.block D2 hWD2).trans hK2.out
          have hK1x := (Below.heap_setCell W8 ⟨w.heap.size + 1, 0, none⟩ (.bool true) D (show D ≠ w.heap.size + 1 by omega)).trans hK1w
          have hK2x := (Below.heap_setCell W8 ⟨w.heap.size + 1, 0, none⟩ (.bool true) D2 (show D2 ≠ w.heap.size + 1 by omega)).trans hK2w
          have hBx := hbw.setCell (p := ⟨w.heap.size + 1, 0, none⟩) (Nat.le_succ _) (.bool true)
          have hne : D ≠ D2 := by omega
          have hK1y : ((W8.setCell ⟨w.heap.size + 1, 0, none⟩ (.bool true)).putObj D2 (.deferred none)).heap[D]? = some (.deferred (some [])) := (World.putObj_heap_other (by omega)).trans hK1x
          have h2y : Whole (((W8.setCell ⟨w.heap.size + 1, 0, none⟩ (.bool true)).putObj D2 (.deferred none)).putObj D (.deferred none)) (w.heap.size + 1) 4 #[.bool true] := (World.putObj_heap_other (by omega)).trans ((World.putObj_heap_other (by omega)).trans h2x)
          have d3 := h2y.cell 0
          simp only [List.getElem?_toArray, List.getElem?_cons_zero] at d3
          have hBy := hBx.grown (grownBy_putObj' _ D2 (.deferred none)) hBx.size (fun r e => by cases e; omega)
          have hBz := hBy.grown (grownBy_putObj' _ D (.deferred none)) hBy.size (fun r e => by cases e; omega)
          replace d3 := Lib.hid d3
          replace hK1y := Lib.hid hK1y
          replace hK2x := Lib.hid hK2x
          replace hBz := Lib.hid hBz
          clear hB hb8 hB8 h2w h2x h2y hbw hK1w hK2w hK1x hK1 hK2 h2 h3w hBx hBy
          gi_wp2_with fail
          exact ⟨by simp, .inl ⟨_, _, rfl, run_takeDeferred hK2x.out, by simp, .inl ⟨_, _, rfl, run_takeDeferred hK1y.out, .bool true, by simp [results, Tryd.f4, go_sem, d3.out], rfl, hBz.out⟩⟩⟩
end codesAll
end Go.Proofs.YtmbpkpideepghaaDoor
