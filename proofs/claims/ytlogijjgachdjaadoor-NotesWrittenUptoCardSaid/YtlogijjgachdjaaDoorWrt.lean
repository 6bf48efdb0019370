/-
  The map of the writers is made.
-/
import Derived.Test.YtlogijjgachdjaaDoorMap
namespace Go.Proofs.YtlogijjgachdjaaDoor
open Go.RowKit Go.Maps
set_option maxRecDepth 100000
set_option maxHeartbeats 4000000
set_option linter.unusedVariables false

theorem writers_any (w : World) : Calls Tryd.prog 31 #[] w fun e w' => ∃ mb, e = .returned (.map (some mb)) ∧ w.heap.size ≤ mb ∧ Wrs w' mb ∧ Below w.heap.size w w' := by
  have hown := World.ownsMap_made (H := Value) w Tryd.prog 21 rdV
  have hB := (Below.refl w.heap.size w).alloc (Nat.le_refl _) (.map #[] 0)
  have hall : GoodW w.heap.size (w.alloc (.map #[] 0)) (.map []) [] := ⟨isMap_empty, fun p hp => by cases hp⟩
  have hsz : w.heap.size < (w.alloc (.map #[] 0)).heap.size := by simp
  have hmm := @run_makeMap Tryd.prog
  go_enter Tryd.func31, Tryd.ntmps31
  go_wp2_with fail
  generalize w.alloc (.map #[] 0) = W0 at *
  refine (same_any 65 w.heap.size ⟨#[65]⟩ [65] _ (by decide +kernel) (fun _ _ _ => rfl) hsz).mono ?_
  rintro e V0 ⟨v0, rfl, hd, hb⟩
  have hg := grown_of_below hb (some w.heap.size)
  replace hown := hown.kept (grown_of_below hb none) (by simp)
  replace hall := (hall.mono hg).put hd
  generalize (DataW.map [] : DataW Value) = D0 at *
  replace hB := hB.trans (hb.mono (Nat.le_of_lt hsz))
  replace hsz := Nat.lt_of_lt_of_le hsz hb.size
  clear hd hb hg
  go_wp2_with (revert hown)
  intro hown
  go_step
  refine wpList_insert_held (by rfl) _ _ _ (by rfl) w.heap.size 0 _ 65 v0 (by rfl) (by rfl) (by rfl) (by decide) (by unfold maxLen; omega) hown ?_
  intro W1 hown2 hg
  replace hall := hall.mono hg
  generalize DataW.put _ _ _ = D1 at hown2 hall
  replace hB := hB.grown hg (Nat.le_of_lt hsz) (fun r e => by cases e; exact Nat.le_refl _)
  replace hsz := Nat.lt_of_lt_of_le hsz hg.size
  clear hown hg
  have hown := hown2
  clear hown2
  go_wp2_with fail
  refine (same_any 88 w.heap.size ⟨#[88]⟩ [88] _ (by decide +kernel) (fun _ _ _ => rfl) hsz).mono ?_
  rintro e V1 ⟨v1, rfl, hd, hb⟩
  have hg := grown_of_below hb (some w.heap.size)
  replace hown := hown.kept (grown_of_below hb none) (by simp)
  replace hall := (hall.mono hg).put hd
  replace hB := hB.trans (hb.mono (Nat.le_of_lt hsz))
  replace hsz := Nat.lt_of_lt_of_le hsz hb.size
  clear hd hb hg
  go_wp2_with (revert hown)
  intro hown
  go_step
  refine wpList_insert_held (by rfl) _ _ _ (by rfl) w.heap.size 1 _ 88 v1 (by rfl) (by rfl) (by rfl) (by decide) (by unfold maxLen; omega) hown ?_
  intro W2 hown2 hg
  replace hall := hall.mono hg
  generalize DataW.put _ _ _ = D2 at hown2 hall
  replace hB := hB.grown hg (Nat.le_of_lt hsz) (fun r e => by cases e; exact Nat.le_refl _)
  replace hsz := Nat.lt_of_lt_of_le hsz hg.size
  clear hown hg
  have hown := hown2
  clear hown2
  go_wp2_with fail
  refine (same_any 89 w.heap.size ⟨#[89]⟩ [89] _ (by decide +kernel) (fun _ _ _ => rfl) hsz).mono ?_
  rintro e V2 ⟨v2, rfl, hd, hb⟩
  have hg := grown_of_below hb (some w.heap.size)
  replace hown := hown.kept (grown_of_below hb none) (by simp)
  replace hall := (hall.mono hg).put hd
  replace hB := hB.trans (hb.mono (Nat.le_of_lt hsz))
  replace hsz := Nat.lt_of_lt_of_le hsz hb.size
  clear hd hb hg
  go_wp2_with (revert hown)
  intro hown
  go_step
  refine wpList_insert_held (by rfl) _ _ _ (by rfl) w.heap.size 2 _ 89 v2 (by rfl) (by rfl) (by rfl) (by decide) (by unfold maxLen; omega) hown ?_
  intro W3 hown2 hg
  replace hall := hall.mono hg
  generalize DataW.put _ _ _ = D3 at hown2 hall
  replace hB := hB.grown hg (Nat.le_of_lt hsz) (fun r e => by cases e; exact Nat.le_refl _)
  replace hsz := Nat.lt_of_lt_of_le hsz hg.size
  clear hown hg
  have hown := hown2
  clear hown2
  go_wp2_with fail
  refine (same_any 87 w.heap.size ⟨#[89, 65]⟩ [89, 65] _ (by decide +kernel) (fun _ _ _ => rfl) hsz).mono ?_
  rintro e V3 ⟨v3, rfl, hd, hb⟩
  have hg := grown_of_below hb (some w.heap.size)
  replace hown := hown.kept (grown_of_below hb none) (by simp)
  replace hall := (hall.mono hg).put hd
  replace hB := hB.trans (hb.mono (Nat.le_of_lt hsz))
  replace hsz := Nat.lt_of_lt_of_le hsz hb.size
  clear hd hb hg
  go_wp2_with (revert hown)
  intro hown
  go_step
  refine wpList_insert_held (by rfl) _ _ _ (by rfl) w.heap.size 3 _ 87 v3 (by rfl) (by rfl) (by rfl) (by decide) (by unfold maxLen; omega) hown ?_
  intro W4 hown2 hg
  replace hall := hall.mono hg
  generalize DataW.put _ _ _ = D4 at hown2 hall
  replace hB := hB.grown hg (Nat.le_of_lt hsz) (fun r e => by cases e; exact Nat.le_refl _)
  replace hsz := Nat.lt_of_lt_of_le hsz hg.size
  clear hown hg
  have hown := hown2
  clear hown2
  go_wp2_with fail
  refine (same_any 67 w.heap.size ⟨#[67]⟩ [67] _ (by decide +kernel) (fun _ _ _ => rfl) hsz).mono ?_
  rintro e V4 ⟨v4, rfl, hd, hb⟩
  have hg := grown_of_below hb (some w.heap.size)
  replace hown := hown.kept (grown_of_below hb none) (by simp)
  replace hall := (hall.mono hg).put hd
  replace hB := hB.trans (hb.mono (Nat.le_of_lt hsz))
  replace hsz := Nat.lt_of_lt_of_le hsz hb.size
  clear hd hb hg
  go_wp2_with (revert hown)
  intro hown
  go_step
  refine wpList_insert_held (by rfl) _ _ _ (by rfl) w.heap.size 4 _ 67 v4 (by rfl) (by rfl) (by rfl) (by decide) (by unfold maxLen; omega) hown ?_
  intro W5 hown2 hg
  replace hall := hall.mono hg
  generalize DataW.put _ _ _ = D5 at hown2 hall
  replace hB := hB.grown hg (Nat.le_of_lt hsz) (fun r e => by cases e; exact Nat.le_refl _)
  replace hsz := Nat.lt_of_lt_of_le hsz hg.size
  clear hown hg
  have hown := hown2
  clear hown2
  go_wp2_with fail
  refine (same_any 83 w.heap.size ⟨#[83, 80]⟩ [83, 80] _ (by decide +kernel) (fun _ _ _ => rfl) hsz).mono ?_
  rintro e V5 ⟨v5, rfl, hd, hb⟩
  have hg := grown_of_below hb (some w.heap.size)
  replace hown := hown.kept (grown_of_below hb none) (by simp)
  replace hall := (hall.mono hg).put hd
  replace hB := hB.trans (hb.mono (Nat.le_of_lt hsz))
  replace hsz := Nat.lt_of_lt_of_le hsz hb.size
  clear hd hb hg
  go_wp2_with (revert hown)
  intro hown
  go_step
  refine wpList_insert_held (by rfl) _ _ _ (by rfl) w.heap.size 5 _ 83 v5 (by rfl) (by rfl) (by rfl) (by decide) (by unfold maxLen; omega) hown ?_
  intro W6 hown2 hg
  replace hall := hall.mono hg
  generalize DataW.put _ _ _ = D6 at hown2 hall
  replace hB := hB.grown hg (Nat.le_of_lt hsz) (fun r e => by cases e; exact Nat.le_refl _)
  replace hsz := Nat.lt_of_lt_of_le hsz hg.size
  clear hown hg
  have hown := hown2
  clear hown2
  go_wp2_with fail
  refine (same_any 80 w.heap.size ⟨#[80, 83, 87]⟩ [80, 83, 87] _ (by decide +kernel) (fun _ _ _ => rfl) hsz).mono ?_
  rintro e V6 ⟨v6, rfl, hd, hb⟩
  have hg := grown_of_below hb (some w.heap.size)
  replace hown := hown.kept (grown_of_below hb none) (by simp)
  replace hall := (hall.mono hg).put hd
  replace hB := hB.trans (hb.mono (Nat.le_of_lt hsz))
  replace hsz := Nat.lt_of_lt_of_le hsz hb.size
  clear hd hb hg
  go_wp2_with (revert hown)
  intro hown
  go_step
  refine wpList_insert_held (by rfl) _ _ _ (by rfl) w.heap.size 6 _ 80 v6 (by rfl) (by rfl) (by rfl) (by decide) (by unfold maxLen; omega) hown ?_
  intro W7 hown2 hg
  replace hall := hall.mono hg
  generalize DataW.put _ _ _ = D7 at hown2 hall
  replace hB := hB.grown hg (Nat.le_of_lt hsz) (fun r e => by cases e; exact Nat.le_refl _)
  replace hsz := Nat.lt_of_lt_of_le hsz hg.size
  clear hown hg
  have hown := hown2
  clear hown2
  go_wp2_with fail
  refine (same_any 105 w.heap.size ⟨#[40, 88, 41]⟩ [40, 88, 41] _ (by decide +kernel) (fun _ _ _ => rfl) hsz).mono ?_
  rintro e V7 ⟨v7, rfl, hd, hb⟩
  have hg := grown_of_below hb (some w.heap.size)
  replace hown := hown.kept (grown_of_below hb none) (by simp)
  replace hall := (hall.mono hg).put hd
  replace hB := hB.trans (hb.mono (Nat.le_of_lt hsz))
  replace hsz := Nat.lt_of_lt_of_le hsz hb.size
  clear hd hb hg
  go_wp2_with (revert hown)
  intro hown
  go_step
  refine wpList_insert_held (by rfl) _ _ _ (by rfl) w.heap.size 7 _ 105 v7 (by rfl) (by rfl) (by rfl) (by decide) (by unfold maxLen; omega) hown ?_
  intro W8 hown2 hg
  replace hall := hall.mono hg
  generalize DataW.put _ _ _ = D8 at hown2 hall
  replace hB := hB.grown hg (Nat.le_of_lt hsz) (fun r e => by cases e; exact Nat.le_refl _)
  replace hsz := Nat.lt_of_lt_of_le hsz hg.size
  clear hown hg
  have hown := hown2
  clear hown2
  go_wp2_with fail
  refine (same_any 106 w.heap.size ⟨#[40, 89, 41]⟩ [40, 89, 41] _ (by decide +kernel) (fun _ _ _ => rfl) hsz).mono ?_
  rintro e V8 ⟨v8, rfl, hd, hb⟩
  have hg := grown_of_below hb (some w.heap.size)
  replace hown := hown.kept (grown_of_below hb none) (by simp)
  replace hall := (hall.mono hg).put hd
  replace hB := hB.trans (hb.mono (Nat.le_of_lt hsz))
  replace hsz := Nat.lt_of_lt_of_le hsz hb.size
  clear hd hb hg
  go_wp2_with (revert hown)
  intro hown
  go_step
  refine wpList_insert_held (by rfl) _ _ _ (by rfl) w.heap.size 8 _ 106 v8 (by rfl) (by rfl) (by rfl) (by decide) (by unfold maxLen; omega) hown ?_
  intro W9 hown2 hg
  replace hall := hall.mono hg
  generalize DataW.put _ _ _ = D9 at hown2 hall
  replace hB := hB.grown hg (Nat.le_of_lt hsz) (fun r e => by cases e; exact Nat.le_refl _)
  replace hsz := Nat.lt_of_lt_of_le hsz hg.size
  clear hown hg
  have hown := hown2
  clear hown2
  go_wp2_with fail
  refine (same_any 43 w.heap.size ⟨#[40, 88, 41, 43]⟩ [40, 88, 41, 43] _ (by decide +kernel) (fun _ _ _ => rfl) hsz).mono ?_
  rintro e V9 ⟨v9, rfl, hd, hb⟩
  have hg := grown_of_below hb (some w.heap.size)
  replace hown := hown.kept (grown_of_below hb none) (by simp)
  replace hall := (hall.mono hg).put hd
  replace hB := hB.trans (hb.mono (Nat.le_of_lt hsz))
  replace hsz := Nat.lt_of_lt_of_le hsz hb.size
  clear hd hb hg
  go_wp2_with (revert hown)
  intro hown
  go_step
  refine wpList_insert_held (by rfl) _ _ _ (by rfl) w.heap.size 9 _ 43 v9 (by rfl) (by rfl) (by rfl) (by decide) (by unfold maxLen; omega) hown ?_
  intro W10 hown2 hg
  replace hall := hall.mono hg
  generalize DataW.put _ _ _ = D10 at hown2 hall
  replace hB := hB.grown hg (Nat.le_of_lt hsz) (fun r e => by cases e; exact Nat.le_refl _)
  replace hsz := Nat.lt_of_lt_of_le hsz hg.size
  clear hown hg
  have hown := hown2
  clear hown2
  go_wp2_with fail
  refine (around_any 35 w.heap.size ⟨#[35]⟩ ⟨#[]⟩ 2 [35] [] _ (by omega) (by decide +kernel) (by decide +kernel) (by decide) (by decide) (fun _ _ _ => rfl) hsz).mono ?_
  rintro e V10 ⟨v10, rfl, hd, hb⟩
  have hg := grown_of_below hb (some w.heap.size)
  replace hown := hown.kept (grown_of_below hb none) (by simp)
  replace hall := (hall.mono hg).put hd
  replace hB := hB.trans (hb.mono (Nat.le_of_lt hsz))
  replace hsz := Nat.lt_of_lt_of_le hsz hb.size
  clear hd hb hg
  go_wp2_with (revert hown)
  intro hown
  go_step
  refine wpList_insert_held (by rfl) _ _ _ (by rfl) w.heap.size 10 _ 35 v10 (by rfl) (by rfl) (by rfl) (by decide) (by unfold maxLen; omega) hown ?_
  intro W11 hown2 hg
  replace hall := hall.mono hg
  generalize DataW.put _ _ _ = D11 at hown2 hall
  replace hB := hB.grown hg (Nat.le_of_lt hsz) (fun r e => by cases e; exact Nat.le_refl _)
  replace hsz := Nat.lt_of_lt_of_le hsz hg.size
  clear hown hg
  have hown := hown2
  clear hown2
  go_wp2_with fail
  refine (around_any 100 w.heap.size ⟨#[]⟩ ⟨#[]⟩ 2 [] [] _ (by omega) (by decide +kernel) (by decide +kernel) (by decide) (by decide) (fun _ _ _ => rfl) hsz).mono ?_
  rintro e V11 ⟨v11, rfl, hd, hb⟩
  have hg := grown_of_below hb (some w.heap.size)
  replace hown := hown.kept (grown_of_below hb none) (by simp)
  replace hall := (hall.mono hg).put hd
  replace hB := hB.trans (hb.mono (Nat.le_of_lt hsz))
  replace hsz := Nat.lt_of_lt_of_le hsz hb.size
  clear hd hb hg
  go_wp2_with (revert hown)
  intro hown
  go_step
  refine wpList_insert_held (by rfl) _ _ _ (by rfl) w.heap.size 11 _ 100 v11 (by rfl) (by rfl) (by rfl) (by decide) (by unfold maxLen; omega) hown ?_
  intro W12 hown2 hg
  replace hall := hall.mono hg
  generalize DataW.put _ _ _ = D12 at hown2 hall
  replace hB := hB.grown hg (Nat.le_of_lt hsz) (fun r e => by cases e; exact Nat.le_refl _)
  replace hsz := Nat.lt_of_lt_of_le hsz hg.size
  clear hown hg
  have hown := hown2
  clear hown2
  go_wp2_with fail
  refine (around_any 68 w.heap.size ⟨#[]⟩ ⟨#[]⟩ 2 [] [] _ (by omega) (by decide +kernel) (by decide +kernel) (by decide) (by decide) (fun _ _ _ => rfl) hsz).mono ?_
  rintro e V12 ⟨v12, rfl, hd, hb⟩
  have hg := grown_of_below hb (some w.heap.size)
  replace hown := hown.kept (grown_of_below hb none) (by simp)
  replace hall := (hall.mono hg).put hd
  replace hB := hB.trans (hb.mono (Nat.le_of_lt hsz))
  replace hsz := Nat.lt_of_lt_of_le hsz hb.size
  clear hd hb hg
  go_wp2_with (revert hown)
  intro hown
  go_step
  refine wpList_insert_held (by rfl) _ _ _ (by rfl) w.heap.size 12 _ 68 v12 (by rfl) (by rfl) (by rfl) (by decide) (by unfold maxLen; omega) hown ?_
  intro W13 hown2 hg
  replace hall := hall.mono hg
  generalize DataW.put _ _ _ = D13 at hown2 hall
  replace hB := hB.grown hg (Nat.le_of_lt hsz) (fun r e => by cases e; exact Nat.le_refl _)
  replace hsz := Nat.lt_of_lt_of_le hsz hg.size
  clear hown hg
  have hown := hown2
  clear hown2
  go_wp2_with fail
  refine (around_any 120 w.heap.size ⟨#[]⟩ ⟨#[43, 88]⟩ 2 [] [43, 88] _ (by omega) (by decide +kernel) (by decide +kernel) (by decide) (by decide) (fun _ _ _ => rfl) hsz).mono ?_
  rintro e V13 ⟨v13, rfl, hd, hb⟩
  have hg := grown_of_below hb (some w.heap.size)
  replace hown := hown.kept (grown_of_below hb none) (by simp)
  replace hall := (hall.mono hg).put hd
  replace hB := hB.trans (hb.mono (Nat.le_of_lt hsz))
  replace hsz := Nat.lt_of_lt_of_le hsz hb.size
  clear hd hb hg
  go_wp2_with (revert hown)
  intro hown
  go_step
  refine wpList_insert_held (by rfl) _ _ _ (by rfl) w.heap.size 13 _ 120 v13 (by rfl) (by rfl) (by rfl) (by decide) (by unfold maxLen; omega) hown ?_
  intro W14 hown2 hg
  replace hall := hall.mono hg
  generalize DataW.put _ _ _ = D14 at hown2 hall
  replace hB := hB.grown hg (Nat.le_of_lt hsz) (fun r e => by cases e; exact Nat.le_refl _)
  replace hsz := Nat.lt_of_lt_of_le hsz hg.size
  clear hown hg
  have hown := hown2
  clear hown2
  go_wp2_with fail
  refine (around_any 121 w.heap.size ⟨#[]⟩ ⟨#[43, 89]⟩ 2 [] [43, 89] _ (by omega) (by decide +kernel) (by decide +kernel) (by decide) (by decide) (fun _ _ _ => rfl) hsz).mono ?_
  rintro e V14 ⟨v14, rfl, hd, hb⟩
  have hg := grown_of_below hb (some w.heap.size)
  replace hown := hown.kept (grown_of_below hb none) (by simp)
  replace hall := (hall.mono hg).put hd
  replace hB := hB.trans (hb.mono (Nat.le_of_lt hsz))
  replace hsz := Nat.lt_of_lt_of_le hsz hb.size
  clear hd hb hg
  go_wp2_with (revert hown)
  intro hown
  go_step
  refine wpList_insert_held (by rfl) _ _ _ (by rfl) w.heap.size 14 _ 121 v14 (by rfl) (by rfl) (by rfl) (by decide) (by unfold maxLen; omega) hown ?_
  intro W15 hown2 hg
  replace hall := hall.mono hg
  generalize DataW.put _ _ _ = D15 at hown2 hall
  replace hB := hB.grown hg (Nat.le_of_lt hsz) (fun r e => by cases e; exact Nat.le_refl _)
  replace hsz := Nat.lt_of_lt_of_le hsz hg.size
  clear hown hg
  have hown := hown2
  clear hown2
  go_wp2_with fail
  refine (around_any 108 w.heap.size ⟨#[91]⟩ ⟨#[43, 88, 93]⟩ 2 [91] [43, 88, 93] _ (by omega) (by decide +kernel) (by decide +kernel) (by decide) (by decide) (fun _ _ _ => rfl) hsz).mono ?_
  rintro e V15 ⟨v15, rfl, hd, hb⟩
  have hg := grown_of_below hb (some w.heap.size)
  replace hown := hown.kept (grown_of_below hb none) (by simp)
  replace hall := (hall.mono hg).put hd
  replace hB := hB.trans (hb.mono (Nat.le_of_lt hsz))
  replace hsz := Nat.lt_of_lt_of_le hsz hb.size
  clear hd hb hg
  go_wp2_with (revert hown)
  intro hown
  go_step
  refine wpList_insert_held (by rfl) _ _ _ (by rfl) w.heap.size 15 _ 108 v15 (by rfl) (by rfl) (by rfl) (by decide) (by unfold maxLen; omega) hown ?_
  intro W16 hown2 hg
  replace hall := hall.mono hg
  generalize DataW.put _ _ _ = D16 at hown2 hall
  replace hB := hB.grown hg (Nat.le_of_lt hsz) (fun r e => by cases e; exact Nat.le_refl _)
  replace hsz := Nat.lt_of_lt_of_le hsz hg.size
  clear hown hg
  have hown := hown2
  clear hown2
  go_wp2_with fail
  refine (around_any 109 w.heap.size ⟨#[91]⟩ ⟨#[93, 43, 89]⟩ 2 [91] [93, 43, 89] _ (by omega) (by decide +kernel) (by decide +kernel) (by decide) (by decide) (fun _ _ _ => rfl) hsz).mono ?_
  rintro e V16 ⟨v16, rfl, hd, hb⟩
  have hg := grown_of_below hb (some w.heap.size)
  replace hown := hown.kept (grown_of_below hb none) (by simp)
  replace hall := (hall.mono hg).put hd
  replace hB := hB.trans (hb.mono (Nat.le_of_lt hsz))
  replace hsz := Nat.lt_of_lt_of_le hsz hb.size
  clear hd hb hg
  go_wp2_with (revert hown)
  intro hown
  go_step
  refine wpList_insert_held (by rfl) _ _ _ (by rfl) w.heap.size 16 _ 109 v16 (by rfl) (by rfl) (by rfl) (by decide) (by unfold maxLen; omega) hown ?_
  intro W17 hown2 hg
  replace hall := hall.mono hg
  generalize DataW.put _ _ _ = D17 at hown2 hall
  replace hB := hB.grown hg (Nat.le_of_lt hsz) (fun r e => by cases e; exact Nat.le_refl _)
  replace hsz := Nat.lt_of_lt_of_le hsz hg.size
  clear hown hg
  have hown := hown2
  clear hown2
  go_wp2_with fail
  refine (around_any 117 w.heap.size ⟨#[70, 70]⟩ ⟨#[]⟩ 2 [70, 70] [] _ (by omega) (by decide +kernel) (by decide +kernel) (by decide) (by decide) (fun _ _ _ => rfl) hsz).mono ?_
  rintro e V17 ⟨v17, rfl, hd, hb⟩
  have hg := grown_of_below hb (some w.heap.size)
  replace hown := hown.kept (grown_of_below hb none) (by simp)
  replace hall := (hall.mono hg).put hd
  replace hB := hB.trans (hb.mono (Nat.le_of_lt hsz))
  replace hsz := Nat.lt_of_lt_of_le hsz hb.size
  clear hd hb hg
  go_wp2_with (revert hown)
  intro hown
  go_step
  refine wpList_insert_held (by rfl) _ _ _ (by rfl) w.heap.size 17 _ 117 v17 (by rfl) (by rfl) (by rfl) (by decide) (by unfold maxLen; omega) hown ?_
  intro W18 hown2 hg
  replace hall := hall.mono hg
  generalize DataW.put _ _ _ = D18 at hown2 hall
  replace hB := hB.grown hg (Nat.le_of_lt hsz) (fun r e => by cases e; exact Nat.le_refl _)
  replace hsz := Nat.lt_of_lt_of_le hsz hg.size
  clear hown hg
  have hown := hown2
  clear hown2
  go_wp2_with fail
  refine (around_any 97 w.heap.size ⟨#[33]⟩ ⟨#[]⟩ 4 [33] [] _ (by omega) (by decide +kernel) (by decide +kernel) (by decide) (by decide) (fun _ _ _ => rfl) hsz).mono ?_
  rintro e V18 ⟨v18, rfl, hd, hb⟩
  have hg := grown_of_below hb (some w.heap.size)
  replace hown := hown.kept (grown_of_below hb none) (by simp)
  replace hall := (hall.mono hg).put hd
  replace hB := hB.trans (hb.mono (Nat.le_of_lt hsz))
  replace hsz := Nat.lt_of_lt_of_le hsz hb.size
  clear hd hb hg
  go_wp2_with (revert hown)
  intro hown
  go_step
  refine wpList_insert_held (by rfl) _ _ _ (by rfl) w.heap.size 18 _ 97 v18 (by rfl) (by rfl) (by rfl) (by decide) (by unfold maxLen; omega) hown ?_
  intro W19 hown2 hg
  replace hall := hall.mono hg
  generalize DataW.put _ _ _ = D19 at hown2 hall
  replace hB := hB.grown hg (Nat.le_of_lt hsz) (fun r e => by cases e; exact Nat.le_refl _)
  replace hsz := Nat.lt_of_lt_of_le hsz hg.size
  clear hown hg
  have hown := hown2
  clear hown2
  go_wp2_with fail
  refine (around_any 112 w.heap.size ⟨#[33]⟩ ⟨#[43, 88]⟩ 4 [33] [43, 88] _ (by omega) (by decide +kernel) (by decide +kernel) (by decide) (by decide) (fun _ _ _ => rfl) hsz).mono ?_
  rintro e V19 ⟨v19, rfl, hd, hb⟩
  have hg := grown_of_below hb (some w.heap.size)
  replace hown := hown.kept (grown_of_below hb none) (by simp)
  replace hall := (hall.mono hg).put hd
  replace hB := hB.trans (hb.mono (Nat.le_of_lt hsz))
  replace hsz := Nat.lt_of_lt_of_le hsz hb.size
  clear hd hb hg
  go_wp2_with (revert hown)
  intro hown
  go_step
  refine wpList_insert_held (by rfl) _ _ _ (by rfl) w.heap.size 19 _ 112 v19 (by rfl) (by rfl) (by rfl) (by decide) (by unfold maxLen; omega) hown ?_
  intro W20 hown2 hg
  replace hall := hall.mono hg
  generalize DataW.put _ _ _ = D20 at hown2 hall
  replace hB := hB.grown hg (Nat.le_of_lt hsz) (fun r e => by cases e; exact Nat.le_refl _)
  replace hsz := Nat.lt_of_lt_of_le hsz hg.size
  clear hown hg
  have hown := hown2
  clear hown2
  go_wp2_with fail
  refine (around_any 113 w.heap.size ⟨#[33]⟩ ⟨#[43, 89]⟩ 4 [33] [43, 89] _ (by omega) (by decide +kernel) (by decide +kernel) (by decide) (by decide) (fun _ _ _ => rfl) hsz).mono ?_
  rintro e V20 ⟨v20, rfl, hd, hb⟩
  have hg := grown_of_below hb (some w.heap.size)
  replace hown := hown.kept (grown_of_below hb none) (by simp)
  replace hall := (hall.mono hg).put hd
  replace hB := hB.trans (hb.mono (Nat.le_of_lt hsz))
  replace hsz := Nat.lt_of_lt_of_le hsz hb.size
  clear hd hb hg
  go_wp2_with (revert hown)
  intro hown
  go_step
  refine wpList_insert_held (by rfl) _ _ _ (by rfl) w.heap.size 20 _ 113 v20 (by rfl) (by rfl) (by rfl) (by decide) (by unfold maxLen; omega) hown ?_
  intro W21 hown2 hg
  replace hall := hall.mono hg
  generalize DataW.put _ _ _ = D21 at hown2 hall
  replace hB := hB.grown hg (Nat.le_of_lt hsz) (fun r e => by cases e; exact Nat.le_refl _)
  replace hsz := Nat.lt_of_lt_of_le hsz hg.size
  clear hown hg
  have hown := hown2
  clear hown2
  go_wp2_with fail
  refine (around_any 42 w.heap.size ⟨#[91, 33]⟩ ⟨#[43, 88, 93]⟩ 4 [91, 33] [43, 88, 93] _ (by omega) (by decide +kernel) (by decide +kernel) (by decide) (by decide) (fun _ _ _ => rfl) hsz).mono ?_
  rintro e V21 ⟨v21, rfl, hd, hb⟩
  have hg := grown_of_below hb (some w.heap.size)
  replace hown := hown.kept (grown_of_below hb none) (by simp)
  replace hall := (hall.mono hg).put hd
  replace hB := hB.trans (hb.mono (Nat.le_of_lt hsz))
  replace hsz := Nat.lt_of_lt_of_le hsz hb.size
  clear hd hb hg
  go_wp2_with (revert hown)
  intro hown
  go_step
  refine wpList_insert_held (by rfl) _ _ _ (by rfl) w.heap.size 21 _ 42 v21 (by rfl) (by rfl) (by rfl) (by decide) (by unfold maxLen; omega) hown ?_
  intro W22 hown2 hg
  replace hall := hall.mono hg
  generalize DataW.put _ _ _ = D22 at hown2 hall
  replace hB := hB.grown hg (Nat.le_of_lt hsz) (fun r e => by cases e; exact Nat.le_refl _)
  replace hsz := Nat.lt_of_lt_of_le hsz hg.size
  clear hown hg
  have hown := hown2
  clear hown2
  go_wp2_with fail
  refine (bit_any 110 w.heap.size ⟨#[]⟩ [] _ (by decide +kernel) (by decide) (fun _ _ _ => rfl) hsz).mono ?_
  rintro e V22 ⟨v22, rfl, hd, hb⟩
  have hg := grown_of_below hb (some w.heap.size)
  replace hown := hown.kept (grown_of_below hb none) (by simp)
  replace hall := (hall.mono hg).put hd
  replace hB := hB.trans (hb.mono (Nat.le_of_lt hsz))
  replace hsz := Nat.lt_of_lt_of_le hsz hb.size
  clear hd hb hg
  go_wp2_with (revert hown)
  intro hown
  go_step
  refine wpList_insert_held (by rfl) _ _ _ (by rfl) w.heap.size 22 _ 110 v22 (by rfl) (by rfl) (by rfl) (by decide) (by unfold maxLen; omega) hown ?_
  intro W23 hown2 hg
  replace hall := hall.mono hg
  generalize DataW.put _ _ _ = D23 at hown2 hall
  replace hB := hB.grown hg (Nat.le_of_lt hsz) (fun r e => by cases e; exact Nat.le_refl _)
  replace hsz := Nat.lt_of_lt_of_le hsz hg.size
  clear hown hg
  have hown := hown2
  clear hown2
  go_wp2_with fail
  refine (bit_any 47 w.heap.size ⟨#[47]⟩ [47] _ (by decide +kernel) (by decide) (fun _ _ _ => rfl) hsz).mono ?_
  rintro e V23 ⟨v23, rfl, hd, hb⟩
  have hg := grown_of_below hb (some w.heap.size)
  replace hown := hown.kept (grown_of_below hb none) (by simp)
  replace hall := (hall.mono hg).put hd
  replace hB := hB.trans (hb.mono (Nat.le_of_lt hsz))
  replace hsz := Nat.lt_of_lt_of_le hsz hb.size
  clear hd hb hg
  go_wp2_with (revert hown)
  intro hown
  go_step
  refine wpList_insert_held (by rfl) _ _ _ (by rfl) w.heap.size 23 _ 47 v23 (by rfl) (by rfl) (by rfl) (by decide) (by unfold maxLen; omega) hown ?_
  intro W24 hown2 hg
  replace hall := hall.mono hg
  generalize DataW.put _ _ _ = D24 at hown2 hall
  replace hB := hB.grown hg (Nat.le_of_lt hsz) (fun r e => by cases e; exact Nat.le_refl _)
  replace hsz := Nat.lt_of_lt_of_le hsz hg.size
  clear hown hg
  have hown := hown2
  clear hown2
  refine wpList_insert_held (by rfl) _ _ _ (by rfl) w.heap.size 24 _ 98 (.func (.func 47) #[] #[]) (by rfl) (by rfl) (by rfl) (by decide) (by unfold maxLen; omega) hown ?_
  intro W25 hown2 hg
  replace hall := (hall.mono hg).put (four_does w.heap.size _)
  generalize DataW.put _ _ _ = D25 at hown2 hall
  replace hB := hB.grown hg (Nat.le_of_lt hsz) (fun r e => by cases e; exact Nat.le_refl _)
  replace hsz := Nat.lt_of_lt_of_le hsz hg.size
  clear hown hg
  have hown := hown2
  clear hown2
  refine wpList_insert_held (by rfl) _ _ _ (by rfl) w.heap.size 25 _ 116 (.func (.func 48) #[] #[]) (by rfl) (by rfl) (by rfl) (by decide) (by unfold maxLen; omega) hown ?_
  intro W26 hown2 hg
  replace hall := (hall.mono hg).put (five_does w.heap.size _)
  generalize DataW.put _ _ _ = D26 at hown2 hall
  replace hB := hB.grown hg (Nat.le_of_lt hsz) (fun r e => by cases e; exact Nat.le_refl _)
  replace hsz := Nat.lt_of_lt_of_le hsz hg.size
  clear hown hg
  have hown := hown2
  clear hown2
  refine wpList_insert_held (by rfl) _ _ _ (by rfl) w.heap.size 26 _ 114 (.func (.func 49) #[] #[]) (by rfl) (by rfl) (by rfl) (by decide) (by unfold maxLen; omega) hown ?_
  intro W27 hown2 hg
  replace hall := (hall.mono hg).put (six_does w.heap.size _)
  generalize DataW.put _ _ _ = D27 at hown2 hall
  replace hB := hB.grown hg (Nat.le_of_lt hsz) (fun r e => by cases e; exact Nat.le_refl _)
  replace hsz := Nat.lt_of_lt_of_le hsz hg.size
  clear hown hg
  have hown := hown2
  clear hown2
  go_wp2_with fail
  go_ret
  exact ⟨_, rfl, Nat.le_refl _, ⟨⟨_, hown, hall⟩⟩, hB⟩
end Go.Proofs.YtlogijjgachdjaaDoor
