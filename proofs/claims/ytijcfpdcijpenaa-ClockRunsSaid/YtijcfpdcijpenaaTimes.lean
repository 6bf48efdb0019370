/-
  clock.Times, Len, Normalise.
-/
import Derived.Test.YtijcfpdcijpenaaCalls
import Derived.Test.YtijcfpdcijpenaaPlain
namespace Go.Proofs.Ytijcfpdcijpenaa
open Go.RowKit Go.Shelf
set_option maxRecDepth 100000
set_option maxHeartbeats 1000000

theorem long_info : (Try.prog.info? 2).map (fun i => (i.zero, i.size, i.bytes)) = some (some (.int .i64 0), 1, 8) := by kernel_rfl

theorem len_any (w : World) {B c bt capT bm : Nat} {ss ts : List Int} (h : Clk w B c bt capT bm ss ts) (_hn : ss.length ≤ 16) :
    Calls Try.prog 23 #[.pointer (some ⟨c, 0, none⟩)] w fun e w' => e = .returned (.int .i64 ss.length) ∧ w = w' := by
  have h0 := h.c0
  clear h
  go_enter Try.func23, Try.ntmps23
  go_wp2
  go_ret
  exact ⟨rfl, rfl⟩

theorem clone64 (w : World) {B c bt capT bm : Nat} {ss ts : List Int} (h : Clk w B c bt capT bm ss ts) (hg : Good ss) :
    Calls Try.prog 34 #[.slice (some ⟨bm, 0, none⟩) ss.length ss.length] w fun e w' => ∃ g cap', e = .returned (.slice (some ⟨g, 0, none⟩) ss.length cap') ∧ w'.ownsRow w.heap.size 2 1 (.slice (some ⟨g, 0, none⟩) ss.length cap') ss.length (vals .i64 ts) ∧ Below w.heap.size w w' := by
  obtain ⟨hn0, hn1, _⟩ := hg
  obtain ⟨i0, hi, hz0, hz1, hz2⟩ := info_parts long_info
  have hq := fun W n c n' c' => Go.Lib.run_eql_slice_nil (P := Try.prog) W 22 2 (some ⟨bm, 0, none⟩) n c n' c' Try.underlying22
  have hown0 : (w.alloc (.cells #[] 2)).ownsRow w.heap.size 2 1 (.slice (some ⟨w.heap.size, 0, none⟩) 0 0) 0 [] :=
    ⟨rfl, .inr ⟨w.heap.size, 0, #[], rfl, Nat.le_refl _, Whole.fresh _ _ _, Nat.le_refl _, Nat.zero_le _, rfl, rfl⟩⟩
  have hsrc : ∀ j u, (vals .i64 ts)[j]? = some u → (w.alloc (.cells #[] 2)).cell? ((⟨bm, 0, none⟩ : Addr).add j) = some u := by
    intro j u hu
    have e : (⟨bm, 0, none⟩ : Addr).add j = ⟨bm, j, none⟩ := by by_cases h0 : j = 0 <;> simp [Addr.add, h0]
    rw [e, (h.times.alloc (.cells #[] 2)).cell j]
    simpa using hu
  have hone : ∀ u ∈ vals .i64 ts, u.oneCell' = true := by intro v hv; obtain ⟨n, _, rfl⟩ := List.mem_map.1 hv; rfl
  have hlen : (vals .i64 ts).length = ss.length * 1 := by simp [vals, h.size]
  have HL := Lib.hid hlen
  clear h hlen
  go_enter Try.func34, Try.ntmps34
  go_wp2_with (at_builtin; refine wpList_append_own _ rfl _ _ 22 rfl w.heap.size 2 i0 _ 1 8 Try.underlying22 hi hz0 hz1 hz2 rfl (by decide) _ _ _ rfl hown0 ⟨bm, 0, none⟩ ss.length ss.length (vals .i64 ts) rfl HL.out hsrc hone ?c3 ?c4 ?c5 ?_)
  case c3 => unfold maxLen; omega
  case c4 => omega
  case c5 => simp
  intro v' w1 hown' hgrow _
  have hown2 : w1.ownsRow w.heap.size 2 1 v' ss.length (vals .i64 ts) := by
    have e : 0 + ss.length = ss.length := Nat.zero_add _
    rw [← e]; rw [e]
    first | exact hown' | (rw [e] at hown'; exact hown')
  clear hown'
  obtain ⟨g', cap', rfl⟩ := row_some hown2 hn0
  have hB1 : Below w.heap.size w w1 := (((Below.refl _ w).alloc (Nat.le_refl _) (.cells #[] 2))).grown hgrow (by simp) (fun r hr => by simp [Value.ownBlock] at hr; omega)
  go_wp2
  go_ret
  exact ⟨g', cap', rfl, hown2, hB1⟩

theorem times_any (w : World) {B c bt capT bm : Nat} {ss ts : List Int} (h : Clk w B c bt capT bm ss ts) (hg : Good ss) :
    Calls Try.prog 20 #[.pointer (some ⟨c, 0, none⟩)] w fun e w' => ∃ g cap', e = .returned (.slice (some ⟨g, 0, none⟩) ss.length cap') ∧ w'.ownsRow w.heap.size 2 1 (.slice (some ⟨g, 0, none⟩) ss.length cap') ss.length (vals .i64 ts) ∧ Below w.heap.size w w' := by
  have h1 := h.c1
  have HC := Lib.hid (clone64 w h hg)
  clear h
  go_enter Try.func20, Try.ntmps20
  go_wp2_with fail
  refine HC.out.mono ?_
  rintro e w1 ⟨g, cap', rfl, hown, hB⟩
  go_wp2
  go_ret
  exact ⟨g, cap', rfl, hown, hB⟩

theorem row_cell {w : World} {B g cap n : Nat} {ts : List Int} (h : w.ownsRow B 2 1 (.slice (some ⟨g, 0, none⟩) n cap) n (vals .i64 ts)) (hl : ts.length = n) {i : Nat} (hi : i < n) : w.cell? ⟨g, i, none⟩ = some (.int .i64 (ts[i]?.getD 0)) := by
  rw [h.cellAt i (by omega)]
  have : i < ts.length := by omega
  simp [vals, this]

/-- The times when the first k have been made less. -/
def lowered (ts : List Int) (least : Int) (k : Nat) : List Int := (ts.take k).map (· - least) ++ ts.drop k
theorem lowered_length (ts : List Int) (least : Int) (k : Nat) : (lowered ts least k).length = ts.length := by simp [lowered]; omega
theorem lowered_get (ts : List Int) (least : Int) (k i : Nat) (hi : i < ts.length) : (lowered ts least k)[i]?.getD 0 = if i < k then ts[i]?.getD 0 - least else ts[i]?.getD 0 := by
  unfold lowered
  by_cases h : i < k
  · rw [List.getElem?_append_left (by simp; omega), if_pos h]; simp [h, hi]
  · rw [List.getElem?_append_right (by simp; omega), if_neg h]
    simp only [List.length_map, List.length_take, List.getElem?_drop]
    congr 2
    omega
theorem lowered_step (ts : List Int) (least : Int) (k : Nat) (hk : k < ts.length) : (lowered ts least k).set k (ts[k]?.getD 0 - least) = lowered ts least (k + 1) := by
  apply List.ext_getElem?
  intro i
  by_cases hi : i < ts.length
  · have h1 := set_get (lowered ts least k) k i (ts[k]?.getD 0 - least) (by rw [lowered_length]; exact hk)
    have h2 := lowered_get ts least (k + 1) i hi
    have h3 := lowered_get ts least k i hi
    have l1 : i < ((lowered ts least k).set k (ts[k]?.getD 0 - least)).length := by rw [List.length_set, lowered_length]; exact hi
    have l2 : i < (lowered ts least (k + 1)).length := by rw [lowered_length]; exact hi
    rw [List.getElem?_eq_getElem l1] at h1 ⊢
    rw [List.getElem?_eq_getElem l2] at h2 ⊢
    simp only [Option.getD_some] at h1 h2
    rw [h1, h2]
    by_cases e : i = k
    · subst e; rw [if_pos rfl, if_pos (by omega)]
    · rw [if_neg e, h3]
      by_cases h : i < k
      · rw [if_pos h, if_pos (by omega)]
      · rw [if_neg h, if_neg (by omega)]
  · rw [List.getElem?_eq_none (by rw [List.length_set, lowered_length]; omega), List.getElem?_eq_none (by rw [lowered_length]; omega)]
theorem lowered_zero (ts : List Int) (least : Int) : lowered ts least 0 = ts := by simp [lowered]

theorem only_put {a w : World} {g : Nat} (h : a.grownBy w (some g)) (i : Nat) (u : Value) : a.grownBy (w.setCell ⟨g, i, none⟩ u) (some g) :=
  ⟨h.os, h.tape, h.output, by simpa [World.setCell] using h.size, fun k hk hne => (Below.heap_setCell w ⟨g, i, none⟩ u k (fun e => hne (by rw [e]))).trans (h.block k hk hne)⟩
theorem only_below {a w : World} {g B : Nat} (h : a.grownBy w (some g)) (hB : B ≤ g) (hg : g ≤ a.heap.size) : Below B a w :=
  ⟨h.os, h.tape, h.output, h.size, fun k hk => h.block k (by omega) (fun e => by injection e; omega)⟩

theorem norm_any (w : World) {B c bt capT bm : Nat} {ss ts : List Int} (h : Clk w B c bt capT bm ss ts) (hg : Good ss) (ht : Timed ts) :
    Calls Try.prog 18 #[.pointer (some ⟨c, 0, none⟩)] w fun e w' => e = .returned (.int .i64 (ts[best ts ss.length]?.getD 0)) ∧ Clk w' B c bt capT bm ss (lowered ts (ts[best ts ss.length]?.getD 0) ss.length) ∧ w.grownBy w' (some bm) := by
  have hn := hg.2.1
  have HX := Lib.hid (next_any w h hg)
  have hbl := best_lt ts ss.length hg.1
  have hl := ht (best ts ss.length)
  generalize best ts ss.length = i at *
  obtain ⟨hl0, hl1⟩ := hl
  have hz := Lib.hid (lowered_zero ts (ts[i]?.getD 0))
  go_enter Try.func18, Try.ntmps18
  go_wp2_with fail
  refine HX.out.mono ?_
  rintro e w1 ⟨rfl, hB1⟩
  have hC := h.below hB1
  have h1 := hC.c1
  have h2 := hC.time hbl
  have hB1' : w.grownBy w1 (some bm) := ⟨hB1.os, hB1.tape, hB1.output, hB1.size, fun k hk _ => hB1.block k hk⟩
  clear HX h hB1
  generalize hle : ts[i]?.getD 0 = least at *
  have HLE := Lib.hid hle
  clear hle
  go_wp2
  rw [← hz.out] at hC
  go_loopw [22] (fun x wr => ∃ k : Nat, k ≤ ss.length ∧ x = .int .i64 k ∧ Clk wr B c bt capT bm ss (lowered ts least k) ∧ w.grownBy wr (some bm)) (fun x _ => ss.length - (intOf x).toNat)
  case atStart => exact ⟨0, Nat.zero_le _, rfl, hC, hB1'⟩
  case round =>
    obtain ⟨k, hk, rfl, hCk, hBk⟩ := hrel
    have hts : ts.length = ss.length := by have := hCk.size; rwa [lowered_length] at this
    clear hC h1 h2 hB1'
    by_cases hlt : k < ss.length
    · have q1 := hCk.c1
      have q2 := hCk.time hlt
      have q3 := hCk.times.free k
      rw [lowered_get _ _ _ _ (by omega), if_neg (by omega)] at q2
      have hp := hCk.put k (ts[k]?.getD 0 - least)
      rw [lowered_step _ _ _ (by omega)] at hp
      have hx := ht k
      generalize ts[k]?.getD 0 = x at *
      obtain ⟨hx0, hx1⟩ := hx
      have HP := Lib.hid hp
      clear hp hCk hts
      go_wp2
      go_roundw
      case rel => exact ⟨k + 1, by omega, by go_num, HP.out, only_put hBk k _⟩
      case measure => simp [intOf]; omega
    · obtain rfl : k = ss.length := by omega
      clear hts
      go_wp2
      go_ret
      rw [HLE.out]
      exact ⟨rfl, hCk, hBk⟩
end Go.Proofs.Ytijcfpdcijpenaa
