/-
  The document's New.
-/
import Derived.Test.YtijcfpdcijpenaaRfSet
import Derived.Deep.RegionLaw
import Derived.Deep.AppendLies
import Derived.Test.YtijcfpdcijpenaaTimes
namespace Go.Proofs.Ytijcfpdcijpenaa
open Go.RowKit Go.Shelf
set_option maxRecDepth 100000
set_option maxHeartbeats 1000000
set_option linter.unusedVariables false
theorem newErr_low {ss : List Int} (h0 : ss.length ≠ 0) (h1 : ¬ 16 < ss.length) (k : Nat) (hk : k < ss.length) (hz : ss[k]?.getD 0 < 1) : newErr ss = 2 := by
  unfold newErr
  rw [if_neg h0, if_neg h1, if_pos (any_at.2 ⟨k, hk, decide_eq_true hz⟩)]
theorem newErr_large {ss : List Int} (h0 : ss.length ≠ 0) (h1 : ¬ 16 < ss.length) (h2 : ∀ j, j < ss.length → 1 ≤ ss[j]?.getD 0) (h3 : ∃ j, j < ss.length ∧ 16777216 < ss[j]?.getD 0) : newErr ss = 4 := by
  obtain ⟨k, hk, hz⟩ := h3
  unfold newErr
  rw [if_neg h0, if_neg h1, any_not (fun j hj => decide_eq_false (by have := h2 j hj; omega)), any_at.2 ⟨k, hk, decide_eq_true hz⟩]
  rfl
theorem newErr_ok {ss : List Int} (h0 : ss.length ≠ 0) (h1 : ¬ 16 < ss.length) (h2 : ∀ j, j < ss.length → 1 ≤ ss[j]?.getD 0) (h3 : ¬ ∃ j, j < ss.length ∧ 16777216 < ss[j]?.getD 0) : newErr ss = 0 := by
  unfold newErr
  rw [if_neg h0, if_neg h1, any_not (fun j hj => decide_eq_false (by have := h2 j hj; omega)), any_not (fun j hj => decide_eq_false (fun hz => h3 ⟨j, hj, hz⟩))]
  rfl
theorem sep_kept {v1 v2 : Value} (h : ∀ g, v1.ownBlock = some g → v2.ownBlock ≠ some g) : v2.ownBlock = none ∨ v2.ownBlock ≠ v1.ownBlock := by
  cases hv : v1.ownBlock with
  | none => cases v2.ownBlock with
    | none => exact .inl rfl
    | some g => exact .inr (fun e => by cases e)
  | some g => exact .inr (h g hv)
theorem sep_kept' {v1 v2 : Value} (h : ∀ g, v1.ownBlock = some g → v2.ownBlock ≠ some g) : v1.ownBlock = none ∨ v1.ownBlock ≠ v2.ownBlock := by
  cases hv : v1.ownBlock with
  | none => exact .inl rfl
  | some g => exact .inr (fun e => h g hv e.symm)
theorem vals_one (ss : List Int) (z : Int) : vals .i64 ss ++ [.int .i64 z] = vals .i64 (ss ++ [z]) := by simp [vals]
def none2 : Array Value := #[.slice none 0 0, .slice none 0 0]
/-- What New answers. -/
def Newed (w : World) (ss : List Int) (E : Int) (e : Ending) (w' : World) : Prop :=
  Below w.heap.size w w' ∧ ((E ≠ 0 ∧ e = .returned (.tuple #[.agg none2, .int .i64 E])) ∨
    (E = 0 ∧ ∃ p q cp cq, e = .returned (.tuple #[rv p q ss.length cp cq, .int .i64 0]) ∧ Rf w' p q ss (List.replicate ss.length 0) ∧ w.heap.size ≤ p ∧ w.heap.size ≤ q))
theorem rnew_any (a : Option Addr) (cap : Nat) (ss : List Int) (w : World) (hl : Lies .i64 w a ss) (hm : ss.length ≤ maxLen) (E : Int) (hE : newErr ss = E) :
    Calls Try.prog 8 #[.slice a ss.length cap] w fun e w' => Newed w ss E e w' := by
  have HE0 := Lib.hid hE
  have HL := Lib.hid hl
  clear hE hl
  unfold maxLen at hm
  have hB0 : Below w.heap.size w (w.alloc (.cells #[.slice none 0 0, .slice none 0 0] 25)) := (Below.refl _ _).alloc (Nat.le_refl _) _
  have hR := Whole.fresh w 25 #[.slice none 0 0, .slice none 0 0]
  by_cases c0 : ss.length = 0
  · have t0 : ((ss.length : Int) == 0) = true := by simp [c0]
    obtain rfl : E = 2 := by rw [← HE0.out]; unfold newErr; rw [if_pos c0]
    clear c0
    go_enter Try.func8, Try.ntmps8
    go_wp2_with fail
    refine bodyPost_ret (v := .tuple #[.agg none2, .int .i64 2]) (by simp [results, Try.results8, go_sem, none2]) rfl ?_
    exact ⟨by first | exact hB0 | (refine (hB0.setCell (p := ⟨w.heap.size, 0, none⟩) (Nat.le_refl _) _).setCell (p := ⟨w.heap.size, 1, none⟩) (Nat.le_refl _) _), .inl ⟨by decide, rfl⟩⟩
  · have t0 : ((ss.length : Int) == 0) = false := beq_eq_false_iff_ne.2 (by omega)
    by_cases c1 : 16 < ss.length
    · have t1 : decide (16 < ss.length) = true := decide_eq_true c1
      obtain rfl : E = 4 := by rw [← HE0.out]; unfold newErr; rw [if_neg c0, if_pos c1]
      clear c0 
      go_enter Try.func8, Try.ntmps8
      go_wp2_with fail
      refine bodyPost_ret (v := .tuple #[.agg none2, .int .i64 4]) (by simp [results, Try.results8, go_sem, none2]) rfl ?_
      exact ⟨by first | exact hB0 | (refine (hB0.setCell (p := ⟨w.heap.size, 0, none⟩) (Nat.le_refl _) _).setCell (p := ⟨w.heap.size, 1, none⟩) (Nat.le_refl _) _), .inl ⟨by decide, rfl⟩⟩
    · have t1 : decide (16 < ss.length) = false := decide_eq_false c1
      have C0 := Lib.hid c0
      clear c0
      go_enter Try.func8, Try.ntmps8
      go_wp2_with fail
      generalize w.alloc (Obj.cells #[.slice none 0 0, .slice none 0 0] 25) = W0 at hR hB0 ⊢
      go_loopw [4, 5] (fun sb si wr => ∃ (k : Nat) (b : Bool), k ≤ ss.length ∧ sb = .bool b ∧ si = .int .i64 k ∧ wr = W0 ∧ Hid (∀ j, j < k → 1 ≤ ss[j]?.getD 0) ∧ Hid (b = true ↔ ∃ j, j < k ∧ 16777216 < ss[j]?.getD 0)) (fun _ si _ => ss.length - (intOf si).toNat)
      case atStart => exact ⟨0, false, Nat.zero_le _, rfl, rfl, rfl, Lib.hid (fun j hj => absurd hj (Nat.not_lt_zero j)), Lib.hid ⟨fun e => Bool.noConfusion e, fun ⟨j, hj, _⟩ => absurd hj (Nat.not_lt_zero j)⟩⟩
      case round =>
        obtain ⟨k, b, hk, rfl, rfl, rfl, hN, hG⟩ := hrel
        have r0 := hR.cell 0
        have r1 := hR.cell 1
        have g0 := hR.free 0
        have g1 := hR.free 1
        simp only [List.getElem?_toArray, List.getElem?_cons_zero, List.getElem?_cons_succ] at r0 r1
        by_cases hlt : k < ss.length
        · rcases HL.out with h0 | ⟨bb, o, rfl, hbb, hcell⟩
          · simp [h0] at hlt
          · have d := (hB0.cell (p := ⟨bb, o + k, none⟩) hbb).trans (hcell k hlt)
            obtain ⟨z, hz⟩ : ∃ z, ss[k]?.getD 0 = z := ⟨_, rfl⟩
            rw [hz] at d
            have HZ := Lib.hid hz
            clear hcell hz
            by_cases hz0 : z < 1
            · have t2 : decide (z < 1) = true := decide_eq_true hz0
              obtain rfl : E = 2 := by rw [← HE0.out]; exact newErr_low C0.out c1 k hlt (by rw [HZ.out]; exact hz0)
              clear hz0
              go_wp2_with fail
              refine bodyPost_ret (v := .tuple #[.agg none2, .int .i64 2]) (by simp [results, Try.results8, go_sem, none2, r0, r1]) rfl ?_
              exact ⟨(hB0.setCell (p := ⟨w.heap.size, 0, none⟩) (Nat.le_refl _) _).setCell (p := ⟨w.heap.size, 1, none⟩) (Nat.le_refl _) _, .inl ⟨by decide, rfl⟩⟩
            · have t2 : decide (z < 1) = false := decide_eq_false hz0
              have HN2 := Lib.hid (show ∀ j, j < k + 1 → 1 ≤ ss[j]?.getD 0 from fun j hj => by
                by_cases e : j = k
                · subst e; rw [HZ.out]; omega
                · exact hN.out j (by omega))
              cases b
              · by_cases hb : 16777216 < z
                · have t3 : decide (16777216 < z) = true := decide_eq_true hb
                  have HG2 := Lib.hid (show true = true ↔ ∃ j, j < k + 1 ∧ 16777216 < ss[j]?.getD 0 from ⟨fun _ => ⟨k, by omega, by rw [HZ.out]; exact hb⟩, fun _ => rfl⟩)
                  clear hb hz0 hG
                  go_wp2_with fail
                  go_roundw
                  case rel => exact ⟨k + 1, true, by omega, rfl, by go_num, by first | trivial | rfl, HN2, HG2⟩
                  case measure => simp [intOf]; omega
                · have t3 : decide (16777216 < z) = false := decide_eq_false hb
                  have HG2 := Lib.hid (show false = true ↔ ∃ j, j < k + 1 ∧ 16777216 < ss[j]?.getD 0 from ⟨fun e => Bool.noConfusion e, fun ⟨j, hj, hj2⟩ => by
                    by_cases e : j = k
                    · subst e; rw [HZ.out] at hj2; exact absurd hj2 hb
                    · exact hG.out.2 ⟨j, by omega, hj2⟩⟩)
                  clear hb hz0 hG
                  go_wp2_with fail
                  go_roundw
                  case rel => exact ⟨k + 1, false, by omega, rfl, by go_num, by first | trivial | rfl, HN2, HG2⟩
                  case measure => simp [intOf]; omega
              · have HG2 := Lib.hid (show true = true ↔ ∃ j, j < k + 1 ∧ 16777216 < ss[j]?.getD 0 from ⟨fun _ => by
                  obtain ⟨j, hj, hj2⟩ := hG.out.1 rfl
                  exact ⟨j, by omega, hj2⟩, fun _ => rfl⟩)
                clear hz0 hG
                go_wp2_with fail
                go_roundw
                case rel => exact ⟨k + 1, true, by omega, rfl, by go_num, by first | trivial | rfl, HN2, HG2⟩
                case measure => simp [intOf]; omega
        · obtain rfl : k = ss.length := by omega
          cases b
          · obtain rfl : E = 0 := by rw [← HE0.out]; exact newErr_ok C0.out c1 hN.out (fun h => Bool.noConfusion (hG.out.2 h))
            clear hN hG
            go_wp2_with fail
            obtain ⟨i0, hi, hz0, hz1, hz2⟩ := info_parts long_info
            have hC0 := Whole.fresh wr 25 #[.slice none 0 0, .slice none 0 0]
            have hR0 := hR.alloc (.cells #[.slice none 0 0, .slice none 0 0] 25)
            have hB1 := hB0.alloc hB0.size (.cells #[.slice none 0 0, .slice none 0 0] 25)
            have hgc := hR.lt
            generalize wr.alloc (.cells #[.slice none 0 0, .slice none 0 0] 25) = W1 at hC0 hR0 hB1 ⊢
            generalize wr.heap.size = gc at hC0 hgc ⊢
            clear hR hB0 r0 r1 g0 g1 hlt
            have hgw : w.heap.size ≤ gc := Nat.le_of_lt hgc
            go_loopw [7] (fun si wq => ∃ (k : Nat) (v1 v2 : Value), k ≤ ss.length ∧ si = .int .i64 k ∧ Whole wq gc 25 #[v1, v2] ∧ Whole wq w.heap.size 25 #[.slice none 0 0, .slice none 0 0] ∧
              wq.ownsRow w.heap.size 2 1 v1 k (vals .i64 (ss.take k)) ∧ wq.ownsRow w.heap.size 2 1 v2 k (vals .i64 (List.replicate k 0)) ∧ Hid (∀ g, v1.ownBlock = some g → v2.ownBlock ≠ some g) ∧ Below w.heap.size w wq) (fun si _ => ss.length - (intOf si).toNat)
            case atStart => exact ⟨0, _, _, Nat.zero_le _, rfl, hC0, hR0, World.ownsRow_nil _ _ _ _, World.ownsRow_nil _ _ _ _, Lib.hid (fun g hg => by cases hg), hB1⟩
            case round =>
              obtain ⟨k, v1, v2, hk, rfl, hC, hR, ho1, ho2, hsep, hB⟩ := hrel
              obtain ⟨wo, rfl⟩ : ∃ wo, wo = wr := ⟨_, rfl⟩
              clear hC0 hR0 hB1
              by_cases hlt : k < ss.length
              · rcases HL.out with h0 | ⟨bb, o, rfl, hbb, hcell⟩
                · simp [h0] at hlt
                · have d := (hB.drew.cell (p := ⟨bb, o + k, none⟩) hbb).trans (hcell k hlt)
                  obtain ⟨z, hz⟩ : ∃ z, ss[k]?.getD 0 = z := ⟨_, rfl⟩
                  rw [hz] at d
                  have HT := Lib.hid (show ss.take (k + 1) = ss.take k ++ [z] by
                    rw [List.take_add_one, List.getElem?_eq_getElem hlt, ← hz, List.getElem?_eq_getElem hlt]
                    rfl)
                  clear hcell hz
                  have h1 := hC.cell 0
                  have h2 := hC.cell 1
                  have f1 := hC.free 0
                  simp only [List.getElem?_toArray, List.getElem?_cons_zero, List.getElem?_cons_succ] at h1 h2
                  have ag := own_apart ho1 hC (by decide)
                  have ab : v1.ownBlock ≠ some bb := fun e => by have := (ho1.lt bb e).1; omega
                  have ar := own_apart ho1 hR (by decide)
                  have lc := hC.lt
                  have lr := hR.lt
                  have lb : bb < wo.heap.size := Nat.lt_of_lt_of_le hbb hB.size
                  have hbs := hB.size
                  have d2 : wo.cell? ⟨bb, o + k, none⟩ = some (.int .i64 z) := d
                  clear d
                  go_wp2_with fail
                  go_region_law
                    ((refine step_append_lies _ (by rfl) _ _ _ (by rfl) w.heap.size 2 i0 _ 1 8 Try.underlying22 hi hz0 hz1 hz2 rfl (by omega) v1 k (vals .i64 (ss.take k)) (by rfl) ((ho1.alloc _).drew)
                        ⟨wo.heap.size, 0, none⟩ 1 1 [.int .i64 z] (by rfl) (by rfl) (World.news_of_block (cs := #[.int .i64 z]) (t := 2) (fr := (0, 0)) (heap_alloc_new wo _)) (by simp [Value.oneCell'])
                        (by omega) (by unfold maxLen; omega) (by omega) (by simp; omega) (wo.heap.size + 1) (by simp) ?_; intro gg cap1 w1 hown1 hgrow hat hlt1; have hC1 : Whole w1 gc 25 #[v1, v2] := (((hC.alloc _)).drew).grown hgrow ag; have x1 : w1.cell? ⟨gc, 0, none⟩ = some v1 := hC1.cell 0; have x2 : w1.frozen? ⟨gc, 0, none⟩ = false := hC1.free 0; have x3 : w1.cell? ⟨bb, o + k, none⟩ = some (.int .i64 z) := (hgrow.cell_far ⟨bb, o + k, none⟩ (by simp; omega) (Ne.symm ab)).trans ((World.cell?_alloc_lt wo _ _ lb).trans d2)))
                  all_goals
                    have hC2 : Whole (w1.setCell ⟨gc, 0, none⟩ (.slice (some ⟨gg, 0, none⟩) (k + 1) cap1)) gc 25 #[.slice (some ⟨gg, 0, none⟩) (k + 1) cap1, v2] := by simpa using hC1.put 0 (.slice (some ⟨gg, 0, none⟩) (k + 1) cap1)
                    have hR2 := ((((hR.alloc (.cells #[.int .i64 z] 2)).drew).grown hgrow ar).away (p := ⟨gc, 0, none⟩) (by simp; omega) (.slice (some ⟨gg, 0, none⟩) (k + 1) cap1))
                    rw [vals_one, ← HT.out] at hown1
                    have o1 := row_put hown1 (p := ⟨gc, 0, none⟩) (own_apart hown1 hC1 (by decide)) (.slice (some ⟨gg, 0, none⟩) (k + 1) cap1)
                    have o2' := ((ho2.alloc (.cells #[.int .i64 z] 2)).drew).kept hgrow (sep_kept hsep.out)
                    have o2 := row_put o2' (p := ⟨gc, 0, none⟩) (own_apart o2' hC1 (by decide)) (.slice (some ⟨gg, 0, none⟩) (k + 1) cap1)
                    have hBw : Below w.heap.size w w1 := ((hB.alloc hB.size (.cells #[.int .i64 z] 2)).drew).grown hgrow (by simp; omega) (fun r hr => (ho1.lt r hr).1)
                    have hB2 := hBw.setCell (p := ⟨gc, 0, none⟩) hgw (.slice (some ⟨gg, 0, none⟩) (k + 1) cap1)
                    have hs2 := Lib.hid (show v2.ownBlock ≠ some gg from fun e => by
                      rcases hat with h | h
                      · exact hsep.out gg h e
                      · have := (ho2.lt gg e).2
                        omega)
                    have hgg : gg < (w1.setCell ⟨gc, 0, none⟩ (.slice (some ⟨gg, 0, none⟩) (k + 1) cap1)).heap.size := by simpa [World.setCell] using hlt1
                    clear hat hsep hgrow hC hR ho1 ho2 hB hC1 x1 x2 x3 hown1 o2' hBw h1 h2 f1 ag ab ar d2 hlt1 lc lr lb hbs
                    generalize w1.setCell ⟨gc, 0, none⟩ (.slice (some ⟨gg, 0, none⟩) (k + 1) cap1) = W3 at hC2 hR2 o1 o2 hB2 hgg ⊢
                    have h2 := hC2.cell 1
                    simp only [List.getElem?_toArray, List.getElem?_cons_zero, List.getElem?_cons_succ] at h2
                    have a2 := own_apart o2 hC2 (by decide)
                    have r2 := own_apart o2 hR2 (by decide)
                    have l3 := hB2.size
                    go_wp2_with (at_builtin; refine wpList_append_lies _ rfl _ _ 22 rfl w.heap.size 2 i0 _ 1 8 Try.underlying22 hi hz0 hz1 hz2 rfl (by decide) v2 k (vals .i64 (List.replicate k 0)) rfl (o2.alloc _) ⟨W3.heap.size, 0, none⟩ 1 1 [.int .i64 0] rfl rfl (cell_one_new _ _ _) (by simp [Value.oneCell']) (by omega) (by unfold maxLen; omega) (by omega) (by simp; omega) (W3.heap.size + 1) (by simp) ?_)
                    intro g2 cap2 w2 hown2 hgrow2 hat2 hlt2
                    have hC3 := (hC2.alloc (.cells #[.int .i64 0] 2)).grown hgrow2 a2
                    have hR3 := (hR2.alloc (.cells #[.int .i64 0] 2)).grown hgrow2 r2
                    have o1' := (o1.alloc (.cells #[.int .i64 0] 2)).kept hgrow2 (sep_kept (v1 := v2) (v2 := .slice (some ⟨gg, 0, none⟩) (k + 1) cap1) (fun g hg e => by injection e with e; subst e; exact hs2.out hg))
                    have hB3 : Below w.heap.size w w2 := (hB2.alloc hB2.size (.cells #[.int .i64 0] 2)).grown hgrow2 (by simp; omega) (fun r hr => (o2.lt r hr).1)
                    have hs3 := Lib.hid (show gg ≠ g2 from fun e => by
                      rcases hat2 with h | h
                      · exact hs2.out (by rw [h, e])
                      · omega)
                    have p1 := own_apart o1' hC3 (by decide)
                    have p2 := own_apart hown2 hC3 (by decide)
                    have f3 := hC3.free 1
                    have x3 := hC3.cell 1
                    simp only [List.getElem?_toArray, List.getElem?_cons_zero, List.getElem?_cons_succ] at x3
                    rw [vals_one, show List.replicate k (0 : Int) ++ [0] = List.replicate (k + 1) 0 from (List.replicate_succ').symm] at hown2
                    clear hat2 hgrow2 hC2 hR2 o1 o2 hB2 h2 a2 r2 hgg l3
                    go_wp2
                    go_roundw
                    case rel =>
                      exact ⟨k + 1, .slice (some ⟨gg, 0, none⟩) (k + 1) cap1, .slice (some ⟨g2, 0, none⟩) (k + 1) cap2, by omega, by go_num, by simpa using hC3.put 1 (.slice (some ⟨g2, 0, none⟩) (k + 1) cap2), hR3.away (p := ⟨gc, 1, none⟩) (by simp; omega) _,
                        row_put o1' p1 _, row_put hown2 p2 _, Lib.hid (fun g hg e => by injection hg with hg; injection e with e; exact hs3.out (hg.trans e.symm)), hB3.setCell (p := ⟨gc, 1, none⟩) hgw _⟩
                    case measure => simp [intOf]; omega
              · obtain rfl : k = ss.length := by omega
                obtain ⟨p, cp, rfl⟩ := row_some ho1 (Nat.pos_of_ne_zero C0.out)
                obtain ⟨q, cq, rfl⟩ := row_some ho2 (Nat.pos_of_ne_zero C0.out)
                have h1 := hC.cell 0
                have h2 := hC.cell 1
                have r0 := hR.cell 0
                have r1 := hR.cell 1
                have g0 := hR.free 0
                have g1 := hR.free 1
                simp only [List.getElem?_toArray, List.getElem?_cons_zero, List.getElem?_cons_succ] at h1 h2 r0 r1
                have hp := ho1.lt p rfl
                have hq := ho2.lt q rfl
                have hpr : p ≠ w.heap.size := fun e => own_apart ho1 hR (by decide) (by rw [← e]; rfl)
                have hqr : q ≠ w.heap.size := fun e => own_apart ho2 hR (by decide) (by rw [← e]; rfl)
                have hpq : p ≠ q := fun e => hsep.out p rfl (by rw [e]; rfl)
                have hs : ∀ i, i < ss.length → wo.cell? ⟨p, i, none⟩ = some (.int .i64 (ss[i]?.getD 0)) := fun i hi => by
                  rw [ho1.cellAt i (by omega)]
                  simp [vals, hi]
                have ht : ∀ i, i < ss.length → wo.cell? ⟨q, i, none⟩ = some (.int .i64 ((List.replicate ss.length (0 : Int))[i]?.getD 0)) := fun i hi => by
                  rw [ho2.cellAt i (by omega)]
                  simp [vals, hi]
                have hf : ∀ i, wo.frozen? ⟨q, i, none⟩ = false := fun i => by
                  rcases ho2.2 with ⟨h, _⟩ | ⟨g, cap', cur, h, _, hh, _⟩
                  · cases h
                  · injection h with h
                    injection h with h
                    injection h with h
                    subst h
                    simp [World.frozen?, hh]
                have hRf : Rf wo p q ss (List.replicate ss.length 0) := ⟨hpq, hp.2, hq.2, hs, ht, hf, by simp⟩
                clear hs ht hf ho1 ho2 hsep hC hR
                go_wp2_with fail
                refine bodyPost_ret (v := .tuple #[rv p q ss.length cp cq, .int .i64 0]) (by simp [results, Try.results8, go_sem, rv, r0, r1]) rfl ?_
                exact ⟨(hB.setCell (p := ⟨w.heap.size, 0, none⟩) (Nat.le_refl _) _).setCell (p := ⟨w.heap.size, 1, none⟩) (Nat.le_refl _) _, .inr ⟨rfl, p, q, cp, cq, rfl, (hRf.away (a := ⟨w.heap.size, 0, none⟩) hpr hqr _).away (a := ⟨w.heap.size, 1, none⟩) hpr hqr _, hp.1, hq.1⟩⟩
          · obtain rfl : E = 4 := by rw [← HE0.out]; exact newErr_large C0.out c1 hN.out (hG.out.1 rfl)
            clear hN hG
            go_wp2_with fail
            refine bodyPost_ret (v := .tuple #[.agg none2, .int .i64 4]) (by simp [results, Try.results8, go_sem, none2, r0, r1]) rfl ?_
            exact ⟨(hB0.setCell (p := ⟨w.heap.size, 0, none⟩) (Nat.le_refl _) _).setCell (p := ⟨w.heap.size, 1, none⟩) (Nat.le_refl _) _, .inl ⟨by decide, rfl⟩⟩
end Go.Proofs.Ytijcfpdcijpenaa
