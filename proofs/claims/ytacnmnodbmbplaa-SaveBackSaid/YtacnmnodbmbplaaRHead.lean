/-
  The document's Headed and Done.
-/
import Derived.Test.YtacnmnodbmbplaaRSmall
namespace Go.Proofs.Ytacnmnodbmbplaa
open Go.RowKit Go.Shelf
set_option maxRecDepth 100000
set_option maxHeartbeats 1000000

/-- v's block is a new one, since B. -/
def From (B : Nat) (v : Value) : Prop := ∀ x, v.ownBlock = some x → B ≤ x
theorem Owns.ownsRow {w : World} {v : Value} {n B : Nat} {f : Nat → Nat} (h : Owns w v n f) (hB : From B v) : w.ownsRow B 5 1 v n ((List.range n).map fun i => Value.int .u8 (f i : Nat)) := by
  refine ⟨by simp, ?_⟩
  rcases h.2 with h | ⟨g, cap, cs, rfl, hw, h1, h2, h3, h4⟩
  · exact .inl h
  · refine .inr ⟨g, cap, cs, rfl, hB g rfl, hw, h1, h2, by omega, ?_⟩
    apply List.ext_getElem?
    intro j
    rw [Nat.mul_one, List.getElem?_take, List.getElem?_map]
    by_cases hj : j < n
    · rw [if_pos hj, List.getElem?_range hj, Array.getElem?_toList, h4 j hj]
      rfl
    · rw [if_neg hj, List.getElem?_eq_none (by simpa using hj)]
      rfl
theorem Owns.of_ownsRow {w : World} {v : Value} {n B : Nat} {f : Nat → Nat} (h : w.ownsRow B 5 1 v n ((List.range n).map fun i => Value.int .u8 (f i : Nat))) (hf : ∀ i, i < n → f i < 256) : Owns w v n f ∧ From B v := by
  rcases h.2 with ⟨rfl, rfl⟩ | ⟨g, cap, cs, rfl, hb, hw, h1, h2, h3, h4⟩
  · exact ⟨Owns.none w f, fun x hx => by cases hx⟩
  · refine ⟨⟨hf, .inr ⟨g, cap, cs, rfl, hw, h1, h2, by omega, fun i hi => ?_⟩⟩, fun x hx => by (have hx : some g = some x := hx); cases hx; exact hb⟩
    have := congrArg (fun l : List Value => l[i]?) h4
    simp only [Nat.mul_one, List.getElem?_take, if_pos hi, List.getElem?_map, List.getElem?_range hi, Array.getElem?_toList] at this
    exact this
theorem run_append_nil (w : World) (ty : TypeId) (v : Value) (n c : Nat) (f : Nat → Nat) (h : Owns w v n f) (a : Option Addr) : (Builtin.append_ #[25, 25] ty #[v, .slice a 0 c]).run Try.prog w = .ok v w := by
  obtain ⟨i, hi, hs, hb, hz⟩ := info5
  have ht := Try.underlying25
  have key : ∀ ao len cap, len ≤ cap → (Builtin.append_ #[25, 25] ty #[.slice ao len cap, .slice a 0 c]).run Try.prog w = .ok (.slice ao len cap) w := fun ao len cap hle => by
    cases a with
    | none => cases ao <;> simp [Builtin.append_, run_underlying ht, sizeOf, typeInfo, hi, Builtin.lenOf, run_firstCells_none, storeCells, hle]
    | some p =>
      have hfc := run_firstCells_some (P := Try.prog) w i.size 0 p 0 c [] (by simp) (fun j u hu => by simp at hu)
      cases ao <;> simp [Builtin.append_, run_underlying ht, sizeOf, typeInfo, hi, Builtin.lenOf, hfc, storeCells, hle]
  rcases h.2 with ⟨rfl, _⟩ | ⟨g, cap, cs, rfl, hw, h1, _⟩
  · exact key none 0 0 (Nat.le_refl _)
  · exact key _ n cap h1
theorem run_append_more (w : World) (ty : TypeId) (B : Nat) (v : Value) (n m c : Nat) (a : Option Addr) (f h : Nat → Nat) (hO : Owns w v n f) (hv : From B v) (hR : Row w a m h) (hm : n + m ≤ 140737488355328) (hB : B ≤ w.heap.size) :
    ∃ v' w', (Builtin.append_ #[25, 25] ty #[v, .slice a m c]).run Try.prog w = .ok v' w' ∧ Owns w' v' (n + m) (both f n h) ∧ From B v' ∧ w.grownBy w' v.ownBlock := by
  obtain ⟨i, hi, hs, hb, hz⟩ := info5
  by_cases h0 : m = 0
  · subst h0
    exact ⟨v, w, run_append_nil w ty v n c f hO a, hO.congr (fun i hi => if_pos hi), hv, ⟨rfl, rfl, rfl, Nat.le_refl _, fun _ _ _ => rfl⟩⟩
  obtain ⟨p, rfl⟩ : ∃ p, a = some p := by
    rcases hR.2 with h1 | ⟨x, p, e, _⟩
    · omega
    · exact ⟨_, e⟩
  obtain ⟨v', w', hr, ho, hg, _⟩ := run_append_own (P := Try.prog) w B 25 ty 5 i (.int .u8 0) 1 1 Try.underlying25 hi hz hs hb rfl (by decide) v n _ (hO.ownsRow hv) p m c ((List.range m).map fun i => Value.int .u8 (h i : Nat)) (by simp) (rowCells hR)
    (fun u hu => by obtain ⟨i, _, rfl⟩ := List.mem_map.1 hu; rfl) (by unfold maxLen; omega) (by omega) hB
  have hcat : ((List.range n).map fun i => Value.int .u8 (f i : Nat)) ++ ((List.range m).map fun i => Value.int .u8 (h i : Nat)) = (List.range (n + m)).map fun i => Value.int .u8 (both f n h i : Nat) := by
    rw [List.range_add, List.map_append, List.map_map]
    congr 1
    · apply List.map_congr_left
      intro j hj
      unfold both
      rw [if_pos (by simpa using hj)]
    · apply List.map_congr_left
      intro j hj
      show _ = Value.int .u8 (both f n h (n + j) : Nat)
      unfold both
      rw [if_neg (by omega), Nat.add_sub_cancel_left]
  rw [hcat] at ho
  obtain ⟨h1, h2⟩ := Owns.of_ownsRow ho (fun i hi => by
    unfold both
    split
    · exact hO.1 i (by assumption)
    · exact hR.1 _ (by omega))
  exact ⟨v', w', hr, h1, h2, hg⟩
theorem From.below {B : Nat} {v : Value} {w w' : World} (h : From B v) (hg : w.grownBy w' v.ownBlock) (hB : B ≤ w.heap.size) : Below B w w' :=
  ⟨hg.os, hg.tape, hg.output, hg.size, fun k hk => hg.block k (by omega) (fun e => by have := h k e.symm; omega)⟩
theorem rheaded_any (a : Option Addr) (n c : Nat) (f : Nat → Nat) (w : World) (h : Row w a n f) (hn : n ≤ 16777216) :
    Calls Try.prog 37 #[.slice a n c] w fun e w' => ∃ v, e = .returned v ∧ Owns w' v (13 + n) (headF n f) ∧ From w.heap.size v ∧ Below w.heap.size w w' := by
  have hni : (n : Int) ≤ 16777216 := by omega
  have hn2 := Lib.hid hn
  have hB0 : Below w.heap.size w (w.alloc (.cells #[.int .u8 76, .int .u8 65, .int .u8 78, .int .u8 84, .int .u8 1] 5)) := (Below.refl _ w).alloc (Nat.le_refl _) _
  have hW0 := Whole.fresh w 5 #[.int .u8 76, .int .u8 65, .int .u8 78, .int .u8 84, .int .u8 1]
  obtain ⟨B, hBe⟩ : ∃ B, w.heap.size = B := ⟨_, rfl⟩
  have hR := Lib.hid h
  rw [hBe] at hB0 hW0 ⊢
  clear hn h
  go_enter Try.func37, Try.ntmps37
  go_upto_region 2 with (fail)
  generalize w.alloc (.cells #[.int .u8 76, .int .u8 65, .int .u8 78, .int .u8 84, .int .u8 1] 5) = W0 at *
  have hBl : B ≤ w.heap.size := by omega
  have hO0 : Owns W0 (.slice (some ⟨B, 0, none⟩) 5 5) 5 (headF 0 (fun _ => 0)) := ⟨by decide, .inr ⟨B, 5, _, rfl, hW0, Nat.le_refl _, by unfold maxLen; omega, rfl, fun i hi => by
    rcases (show i = 0 ∨ i = 1 ∨ i = 2 ∨ i = 3 ∨ i = 4 by omega) with rfl | rfl | rfl | rfl | rfl <;> rfl⟩⟩
  have hF0 : From B (.slice (some ⟨B, 0, none⟩) 5 5) := fun x hx => by (have hx : some B = some x := hx); cases hx; exact Nat.le_refl _
  have HL1 := Lib.hid (rlaid_any n 4 W0 (by have := hn2.out; omega) (by decide))
  clear hW0
  go_wp2_with fail
  refine HL1.out.mono ?_
  rintro e W1 ⟨G1, rfl, hH1, _, hB1⟩
  have hO1 := hO0.below hB1
  have hB2 := hB0.trans (hB1.mono (Nat.le_trans hBl hB0.size))
  obtain ⟨v2, W2, hr, hO2, hF2, hg⟩ := run_append_more W1 25 B _ 5 4 4 _ _ _ hO1 hF0 hH1.row (by decide) (Nat.le_trans hBl hB2.size)
  have hB3 := hB2.trans (hF0.below hg (Nat.le_trans hBl hB2.size))
  have hR2 := hR.out.below (hBe.symm ▸ hB3)
  clear HL1 hH1 hB1 hO1 hO0 hB0 hB2 hg
  go_wp2_with (at_builtin; refine wpList_append_ran2 rfl _ _ 25 25 rfl _ _ _ W2 rfl rfl hr ?_)
  clear hr hF0
  have HS := Lib.hid (rsum_any a n c f W2 hR2 (by have := hn2.out; omega))
  have hs := sumN_lt f n
  have w1 : IntKind.u64.wrap (sumN f n : Int) = (sumN f n : Int) := by simp only [IntKind.wrap_u64]; omega
  have HL2 := Lib.hid (fun W => rlaid_any (sumN f n) 4 W (by omega) (by decide))
  generalize hS : sumN f n = S at *
  replace hs := Lib.hid hs
  replace hS := Lib.hid hS
  clear hR2
  go_upto_region 3 with (fail)
  go_wp2_with fail
  refine HS.out.mono ?_
  rintro e W' ⟨rfl, hw⟩
  subst hw
  go_wp2_with fail
  refine (HL2.out _).mono ?_
  rintro e W3 ⟨G3, rfl, hH3, _, hB4⟩
  have hO3 := hO2.below hB4
  have hB5 := hB3.trans (hB4.mono (Nat.le_trans hBl hB3.size))
  obtain ⟨v4, W4, hr, hO4, hF4, hg⟩ := run_append_more W3 25 B _ 9 4 4 _ _ _ hO3 hF2 hH3.row (by decide) (Nat.le_trans hBl hB5.size)
  have hB6 := hB5.trans (hF2.below hg (Nat.le_trans hBl hB5.size))
  have hR4 := hR.out.below (hBe.symm ▸ hB6)
  clear HL2 hH3 hB4 hO3 hO2 hB3 hB5 hg HS
  go_upto_region 4 with (at_builtin; refine wpList_append_ran2 rfl _ _ 25 25 rfl _ _ _ W4 rfl rfl hr ?_)
  clear hr hF2
  obtain ⟨v5, W5, hr, hO5, hF5, hg⟩ := run_append_more W4 25 B _ 13 n c _ _ _ hO4 hF4 hR4 (by have := hn2.out; omega) (Nat.le_trans hBl hB6.size)
  have hB7 := hB6.trans (hF4.below hg (Nat.le_trans hBl hB6.size))
  have hfin := Lib.hid (hO5.congr (f' := headF n f) (fun i hi => by
    rw [headF, hS.out]
    unfold both headF
    repeat' split
    all_goals first | rfl | (exfalso; omega)))
  clear hO4 hB6 hR4 hg hO5 hF4
  go_wp2_with (at_builtin; refine wpList_append_ran2 rfl _ _ 25 25 rfl _ _ _ W5 rfl rfl hr ?_)
  go_ret
  exact ⟨_, rfl, hfin.out, hF5, hB7⟩
end Go.Proofs.Ytacnmnodbmbplaa
