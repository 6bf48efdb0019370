/-
  clock.ranked: the threads in a new list, each ahead of those behind it.
-/
import Derived.Test.YtijcfpdcijpenaaCmp
namespace Go.Proofs.Ytijcfpdcijpenaa
open Go.RowKit Go.Shelf Go.Sort
set_option maxRecDepth 100000
set_option maxHeartbeats 1000000

theorem ahd_iff (ts : List Int) (i j : Nat) : ahd ts i j = true ↔ ts[i]?.getD 0 < ts[j]?.getD 0 ∨ (ts[i]?.getD 0 = ts[j]?.getD 0 ∧ i < j) := by simp [ahd]
theorem ltOf_cmp (ts : List Int) (i j : Nat) : decide (cmpOf ts i j < 0) = ahd ts i j := by
  unfold cmpOf
  cases h : ahd ts i j
  · cases h' : ahd ts j i <;> simp
  · simp

/-- A thread's cells. -/
abbrev Th (n : Nat) := { x : Nat × Int // x.1 < n }
def encTh (n : Nat) (x : Th n) : List Value := [.int .i64 (x.1.1 : Nat), .int .i64 x.1.2]
theorem swo_th (ts : List Int) (n : Nat) : SWO (ltOf fun x y : Th n => cmpOf ts x.1.1 y.1.1) where
  irrefl x := by
    show decide (cmpOf ts x.1.1 x.1.1 < 0) = false
    rw [ltOf_cmp, Bool.eq_false_iff, Ne, ahd_iff]; omega
  trans x y z h1 h2 := by
    have a : ahd ts x.1.1 y.1.1 = true := by rw [← ltOf_cmp]; exact h1
    have b : ahd ts y.1.1 z.1.1 = true := by rw [← ltOf_cmp]; exact h2
    show decide (cmpOf ts x.1.1 z.1.1 < 0) = true
    rw [ltOf_cmp, ahd_iff]; rw [ahd_iff] at a b; omega
  ntrans x y z h1 h2 := by
    have a : ahd ts x.1.1 y.1.1 = false := by rw [← ltOf_cmp]; exact h1
    have b : ahd ts y.1.1 z.1.1 = false := by rw [← ltOf_cmp]; exact h2
    show decide (cmpOf ts x.1.1 z.1.1 < 0) = false
    rw [ltOf_cmp, Bool.eq_false_iff, Ne, ahd_iff]; rw [Bool.eq_false_iff, Ne, ahd_iff] at a b; omega

/-- The threads as data. -/
def thArr (ss : List Int) : Array (Th ss.length) := (List.finRange ss.length).toArray.map fun i => ⟨(i.1, ss[i.1]?.getD 0), i.2⟩
theorem thArr_size (ss : List Int) : (thArr ss).size = ss.length := by simp [thArr]
theorem heap_sortWorld {α : Type} [Inhabited α] (enc : α → List Value) (w : World) (blk m : Nat) (d : Array α) (os : Array Obj) (g : Nat) (hg : g < w.heap.size) (hne : g ≠ blk) : (sortWorldK enc 2 w blk 0 m d os).heap[g]? = w.heap[g]? := by
  have h : blk ≠ g := fun e => hne e.symm
  simp only [sortWorldK, grow, putRowK, putRow, mapBlock, Sort.ahead]
  rw [Array.getElem?_append_left (by simpa using hg), Array.getElem?_modify, if_neg h]
theorem below_sortWorld {α : Type} [Inhabited α] (enc : α → List Value) {w w1 : World} (blk m : Nat) (d : Array α) (os : Array Obj) (h : Below w.heap.size w w1) (hb : w.heap.size ≤ blk) : Below w.heap.size w (sortWorldK enc 2 w1 blk 0 m d os) :=
  ⟨h.os, h.tape, h.output, by have := h.size; simp [sortWorldK, grow, putRowK, putRow, mapBlock, Sort.ahead]; omega, fun k hk => (heap_sortWorld enc w1 blk m d os k (by have := h.size; omega) (by omega)).trans (h.block k hk)⟩

theorem clone_any (w : World) {B c bt capT bm : Nat} {ss ts : List Int} (h : Clk w B c bt capT bm ss ts) (hg : Good ss) :
    Calls Try.prog 45 #[.slice (some ⟨bt, 0, none⟩) ss.length capT] w fun e w' => ∃ g cap', e = .returned (.slice (some ⟨g, 0, none⟩) ss.length cap') ∧ w'.ownsRow w.heap.size 61 2 (.slice (some ⟨g, 0, none⟩) ss.length cap') ss.length (thr ss ss.length) ∧ Below w.heap.size w w' := by
  obtain ⟨hn0, hn1, _⟩ := hg
  obtain ⟨i0, hi, hz0, hz1, hz2⟩ := info_parts thread_info
  have hq := fun W n c n' c' => Go.Lib.run_eql_slice_nil (P := Try.prog) W 57 61 (some ⟨bt, 0, none⟩) n c n' c' Try.underlying57
  have hown0 : (w.alloc (.cells #[] 61)).ownsRow w.heap.size 61 2 (.slice (some ⟨w.heap.size, 0, none⟩) 0 0) 0 [] :=
    ⟨rfl, .inr ⟨w.heap.size, 0, #[], rfl, Nat.le_refl _, Whole.fresh _ _ _, Nat.le_refl _, Nat.zero_le _, rfl, rfl⟩⟩
  have hsrc : ∀ j u, (thr ss ss.length)[j]? = some u → (w.alloc (.cells #[] 61)).cell? ((⟨bt, 0, none⟩ : Addr).add j) = some u := fun j u hu => (h.rows.alloc (.cells #[] 61)).cells (g := bt) rfl j u hu
  have hone : ∀ u ∈ thr ss ss.length, u.oneCell' = true := by
    generalize ss.length = n
    induction n with
    | zero => simp [thr]
    | succ n ih =>
      intro u hu
      simp only [thr, List.mem_append, List.mem_cons, List.not_mem_nil, or_false] at hu
      rcases hu with hu | rfl | rfl
      · exact ih u hu
      · rfl
      · rfl
  clear h
  go_enter Try.func45, Try.ntmps45
  go_wp2_with (at_builtin; refine wpList_append_own _ rfl _ _ 57 rfl w.heap.size 61 i0 _ 2 16 Try.underlying57 hi hz0 hz1 hz2 rfl (by decide) _ _ _ rfl hown0 ⟨bt, 0, none⟩ ss.length capT (thr ss ss.length) rfl (thr_length _ _) hsrc hone ?c3 ?c4 ?c5 ?_)
  case c3 => unfold maxLen; omega
  case c4 => omega
  case c5 => simp
  intro v' w1 hown' hgrow _
  have hown2 : w1.ownsRow w.heap.size 61 2 v' ss.length (thr ss ss.length) := by
    have e : 0 + ss.length = ss.length := Nat.zero_add _
    rw [← e]; rw [e]
    first | exact hown' | (rw [e] at hown'; exact hown')
  clear hown'
  obtain ⟨g', cap', rfl⟩ := row_some hown2 hn0
  have hB1 : Below w.heap.size w w1 := (((Below.refl _ w).alloc (Nat.le_refl _) (.cells #[] 61))).grown hgrow (by simp) (fun r hr => by simp [Value.ownBlock] at hr; omega)
  go_wp2
  go_ret
  exact ⟨g', cap', rfl, hown2, hB1⟩

/-- The threads' numbers in an order: all of them, none behind one that it is ahead of. -/
def Ord (ts : List Int) (n : Nat) (L : List Nat) : Prop := L.Perm (List.range n) ∧ ∀ i j, i < j → j < n → ahd ts (L[j]?.getD 0) (L[i]?.getD 0) = false

theorem flat_thr (ss : List Int) [Inhabited (Th ss.length)] : flatK (encTh ss.length) 2 (thArr ss) = (thr ss ss.length).toArray := by
  apply Array.ext
  · simp [thArr_size, thr_length]
  · intro t h1 h2
    have ht : t < ss.length * 2 := by simpa [thArr_size] using h1
    have hi : t / 2 < ss.length := by omega
    have hg : (flatK (encTh ss.length) 2 (thArr ss))[t]! = (encTh ss.length (thArr ss)[t / 2]!)[t % 2]! := get_flatK _ _ _ _ (by rw [thArr_size]; exact ht)
    have hd : (thArr ss)[t / 2]! = ⟨(t / 2, ss[t / 2]?.getD 0), hi⟩ := by
      rw [getElem!_pos _ _ (by rw [thArr_size]; exact hi)]
      simp [thArr, hi]
    rw [hd] at hg
    rw [getElem!_pos (flatK (encTh ss.length) 2 (thArr ss)) t h1] at hg
    rw [hg]
    obtain ⟨a, b⟩ := thr_get ss ss.length (t / 2) hi
    rcases (by omega : t % 2 = 0 ∨ t % 2 = 1) with h | h
    · have e : t / 2 * 2 = t := by omega
      rw [e] at a
      rw [h]
      have := (List.getElem?_eq_some_iff.1 a).2
      rw [List.getElem_toArray, this]; rfl
    · have e : t / 2 * 2 + 1 = t := by omega
      rw [e] at b
      rw [h]
      have := (List.getElem?_eq_some_iff.1 b).2
      rw [List.getElem_toArray, this]; rfl

theorem Tm.sorted {α : Type} [Inhabited α] (enc : α → List Value) {w : World} {c bm n : Nat} {ts : List Int} (h : Tm w c bm n ts) (blk m : Nat) (d : Array α) (os : Array Obj) (h1 : c ≠ blk) (h2 : bm ≠ blk) : Tm (sortWorldK enc 2 w blk 0 m d os) c bm n ts :=
  have hs : w.heap.size ≤ (sortWorldK enc 2 w blk 0 m d os).heap.size := by simp [sortWorldK, grow, putRowK, putRow, mapBlock, Sort.ahead]
  ⟨by have := h.cl; omega, by have := h.bl; omega, (World.cell?_of_block (heap_sortWorld enc w blk m d os c h.cl h1)).trans h.c1, fun i hi => (World.cell?_of_block (heap_sortWorld enc w blk m d os bm h.bl h2)).trans (h.time i hi)⟩

theorem ranked_any (w : World) {B c bt capT bm : Nat} {ss ts : List Int} (h : Clk w B c bt capT bm ss ts) (hg : Good ss) :
    Calls Try.prog 39 #[.slice (some ⟨bt, 0, none⟩) ss.length capT, .func (.func 36) #[.pointer (some ⟨c, 0, none⟩)] #[]] w fun e w' => ∃ g cap' L, e = .returned (.slice (some ⟨g, 0, none⟩) ss.length cap') ∧ Ord ts ss.length L ∧
      (∃ cs, Whole w' g 61 cs ∧ ∀ i, i < ss.length → cs[i * 2]? = some (.int .i64 (L[i]?.getD 0 : Nat)) ∧ ∃ s : Int, cs[i * 2 + 1]? = some (.int .i64 s)) ∧ w.heap.size ≤ g ∧ Below w.heap.size w w' := by
  have hn := hg.1
  have hn1 := hg.2.1
  haveI : Inhabited (Th ss.length) := ⟨⟨(0, 0), hn⟩⟩
  have hB0 : Below w.heap.size w (w.alloc (.cells #[.func (.func 36) #[.pointer (some ⟨c, 0, none⟩)] #[]] 67)) := (Below.refl _ w).alloc (Nat.le_refl _) _
  have HC := Lib.hid (clone_any (w.alloc (.cells #[.func (.func 36) #[.pointer (some ⟨c, 0, none⟩)] #[]] 67)) (h.alloc _) hg)
  have hbox : (w.alloc (.cells #[.func (.func 36) #[.pointer (some ⟨c, 0, none⟩)] #[]] 67)).cell? ⟨w.heap.size, 0, none⟩ = some (.func (.func 36) #[.pointer (some ⟨c, 0, none⟩)] #[]) := by
    simp
  go_enter Try.func39, Try.ntmps39
  go_wp2_with fail
  refine HC.out.mono ?_
  rintro e w1 ⟨g, cap', rfl, hown, hB1⟩
  have hB1' : Below w.heap.size w w1 := hB0.trans (hB1.mono (by simp))
  have hbox1 : w1.cell? ⟨w.heap.size, 0, none⟩ = some (.func (.func 36) #[.pointer (some ⟨c, 0, none⟩)] #[]) := (hB1.cell (p := ⟨w.heap.size, 0, none⟩) (by simp)).trans hbox
  have hg1 := hown.lt g rfl
  simp only [World.size_alloc] at hg1
  have hT1 := (h.below hB1').tm
  have hH : HoldsK (encTh ss.length) 2 w1 g 0 (thArr ss) := by
    intro j hj
    rw [flat_thr] at hj ⊢
    have hj' : j < ss.length * 2 := by simpa [thr_length] using hj
    rw [Nat.zero_add]
    refine ⟨?_, hown.frozenAt j⟩
    rw [hown.cellAt j hj']
    rw [getElem!_pos (thr ss ss.length).toArray j hj]
    simp
  have hcB := h.head.lt
  have hbB := h.times.lt
  have HS := Lib.hid (AnyQ.slices_SortFunc Try.sortTh 2 Try.isAgg61 Try.sizeOf61 (encTh ss.length) (fun _ => rfl) (fun x v hv => by simp [encTh] at hv; rcases hv with rfl | rfl <;> rfl)
    (fun x y : Th ss.length => cmpOf ts x.1.1 y.1.1) (swo_th ts ss.length) 47 #[.pointer (some ⟨w.heap.size, 0, none⟩)] g 0 cap' (thArr ss) w1 (enters_of Try.func47 (by kernel_rfl) rfl)
    (fun m os dk hdk x y => cmp_any x.1.1 y.1.1 x.1.2 y.1.2 w.heap.size _ (c := c) (bm := bm) (n := ss.length) (ts := ts) (hT1.sorted _ g m dk os (by omega) (by omega)) ((World.cell?_of_block (heap_sortWorld (encTh ss.length) w1 g m dk os w.heap.size (by omega) (by omega))).trans hbox1) (by have := hB1'.size; simp [sortWorldK, grow, putRowK, putRow, mapBlock, Sort.ahead]; omega) x.2 y.2 hn1)
    hH (by omega) (by rw [thArr_size]; omega))
  change Hid (Calls Try.prog 46 _ _ _) at HS
  rw [thArr_size] at HS
  have HH := Lib.hid hH
  clear hH
  go_wp2_with fail
  refine HS.out.mono ?_
  rintro e w2 ⟨rfl, d', m, os, hp, hs, hw2⟩
  go_wp2
  go_ret
  have hsz : d'.size = ss.length := by rw [hp.1, thArr_size]
  have hK := holdsK_sortWorldK_c (encTh ss.length) 2 w1 g 0 (thArr ss) d' m os HH.out (by omega) (by rw [hsz, thArr_size])
  clear hw2
  have hget : ∀ i, i < ss.length → (d'.toList.map fun x => x.1.1)[i]?.getD 0 = (d'[i]!).1.1 := by
    intro i hi
    rw [getElem!_pos d' i (by omega)]
    simp [hsz, hi]
  refine ⟨g, cap', d'.toList.map fun x => x.1.1, rfl, ⟨?_, ?_⟩, ?_, by omega, below_sortWorld _ g m d' os hB1' (by omega)⟩
  · have h1 := hp.2.2
    have e1 : d'.extract 0 ss.length = d' := by simp [hsz]
    have e2 : (thArr ss).extract 0 ss.length = thArr ss := by simp [thArr_size]
    rw [e1, e2] at h1
    refine (h1.map fun x => x.1.1).trans ?_
    have : (thArr ss).toList.map (fun x => x.1.1) = List.range ss.length := by
      apply List.ext_getElem
      · simp [thArr]
      · intro i h1 h2
        simp [thArr]
    rw [this]
  · intro i j hij hj
    rw [hget i (by omega), hget j hj, ← ltOf_cmp]
    exact hs i j (Nat.zero_le _) hij hj
  · obtain ⟨cs, hcs⟩ : ∃ cs, Whole (sortWorldK (encTh ss.length) 2 w1 g 0 m d' os) g 61 cs := by
      rcases hown.2 with ⟨h0, _⟩ | ⟨g', _, cur, h0, _, hh, _⟩
      · cases h0
      · obtain rfl : g = g' := by injection h0 with h0; injection h0 with h0; injection h0
        refine ⟨putCells id 0 (flatK (encTh ss.length) 2 d') cur, ?_⟩
        simp only [Whole, sortWorldK, grow, putRowK, putRow, mapBlock, Sort.ahead]
        rw [Array.getElem?_append_left (by simp; omega), Array.getElem?_modify, if_pos rfl, hh]
        rfl
    refine ⟨cs, hcs, fun i hi => ?_⟩
    rw [← hcs.cell, ← hcs.cell]
    rw [hget i hi]
    have a := (hK (i * 2) (by simp [hsz]; omega)).1
    have b := (hK (i * 2 + 1) (by simp [hsz]; omega)).1
    rw [get_flatK _ _ _ _ (by rw [hsz]; omega)] at a b
    rw [Nat.zero_add] at a b
    have e1 : i * 2 / 2 = i := by omega
    have e2 : i * 2 % 2 = 0 := by omega
    have e3 : (i * 2 + 1) / 2 = i := by omega
    have e4 : (i * 2 + 1) % 2 = 1 := by omega
    rw [e1, e2] at a
    rw [e3, e4] at b
    exact ⟨a, _, b⟩
end Go.Proofs.Ytijcfpdcijpenaa
