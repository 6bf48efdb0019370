/-
  All by the code.
-/
import Derived.Test.YtekjcgckniopdaaBRgH
namespace Go.Proofs.Ytekjcgckniopdaa
open Go.RowKit Go.Shelf Go.Sort
attribute [local go_sem] Oper.semAt_some
set_option maxRecDepth 100000
set_option maxHeartbeats 2000000
set_option linter.unusedVariables false
set_option linter.unusedSimpArgs false

/-- The i-th of all samples. -/
def allF (g : Nat → Nat) (i : Nat) : Int := (stB (blkG g (i / 16)) (pqA g (i / 16)).1 (pqA g (i / 16)).2 (i % 16 + 1)).1
theorem allL_at (g : Nat → Nat) (k i : Nat) (hi : i < 16 * k) : (allL g k)[i]? = some (.int .i16 (allF g i)) := by
  induction k with
  | zero => omega
  | succ k ih =>
    rw [allL]
    by_cases h : i < 16 * k
    · rw [List.getElem?_append_left (by rw [allL_length]; exact h)]
      exact ih h
    · rw [List.getElem?_append_right (by rw [allL_length]; omega), allL_length, outL_at _ _ _ _ _ (by omega)]
      unfold allF
      rw [show i / 16 = k by omega, show i % 16 = i - 16 * k by omega]
/-- What a row owns is read; how much room there is. -/
theorem own_irow2 {w : World} {B n : Nat} {v : Value} {xs : List Value} {f : Nat → Int} (h : w.ownsRow B 23 1 v n xs) (hn : 0 < n) (hf : ∀ i, i < n → xs[i]? = some (.int .i16 (f i))) : ∃ a c, v = .slice a n c ∧ IRow w a n f ∧ n ≤ c ∧ ∀ p, a = some p → B ≤ p.block := by
  rcases h.2 with ⟨_, h0⟩ | ⟨g, cap, cur, rfl, hb, hg, hx⟩
  · exact absurd h0 (by omega)
  · refine ⟨_, _, rfl, .inr ⟨g, 0, rfl, (Array.getElem?_eq_some_iff.1 hg).1, fun i hi => ?_⟩, hx.1, fun p hp => by cases hp; exact hb⟩
    rw [Nat.zero_add, h.cellAt i (by omega)]
    exact hf i hi
/-- No block up to the end is an end; the k-th is the first one. -/
def NoEnd (g : Nat → Nat) (m : Nat) : Prop := ∀ i, i < m → g (9 * i) % 2 ≠ 1
def EndAt (g : Nat → Nat) (n k : Nat) : Prop := k < n / 9 ∧ NoEnd g k ∧ g (9 * k) % 2 = 1
def AllP (g : Nat → Nat) (n : Nat) (e : Ending) (W : World) : Prop :=
  (NoEnd g (n / 9) ∧ e = .returned (.tuple #[.slice none 0 0, .int .i64 0, .bool false, .int .i64 140])) ∨
  ∃ k a c, EndAt g n k ∧ e = .returned (.tuple #[.slice a (16 * (k + 1)) c, .int .i64 ((9 * k + 9 : Nat) : Int), .bool (decide (g (9 * k) / 2 % 2 = 1)), .int .i64 0]) ∧ IRow W a (16 * (k + 1)) (allF g) ∧ 16 * (k + 1) ≤ c
/-- The boxes: of what comes in, of what is given back. -/
structure Ac (w : World) (B1 B2 B3 B4 B5 : Nat) (v1 v2 v3 v4 v5 : Value) (W : World) : Prop where
  b1 : Whole W B1 22 #[v1]
  b2 : Whole W B2 27 #[v2]
  b3 : Whole W B3 3 #[v3]
  b4 : Whole W B4 4 #[v4]
  b5 : Whole W B5 28 #[v5]
  bel : Below w.heap.size w W
theorem Ac.below {w W W' : World} {B1 B2 B3 B4 B5 : Nat} {v1 v2 v3 v4 v5 : Value} (h : Ac w B1 B2 B3 B4 B5 v1 v2 v3 v4 v5 W) (hb : Below W.heap.size W W') : Ac w B1 B2 B3 B4 B5 v1 v2 v3 v4 v5 W' :=
  ⟨h.b1.below hb h.b1.lt, h.b2.below hb h.b2.lt, h.b3.below hb h.b3.lt, h.b4.below hb h.b4.lt, h.b5.below hb h.b5.lt, h.bel.trans (hb.mono h.bel.size)⟩
theorem Ac.grown {w W W' : World} {B1 B2 B3 B4 B5 : Nat} {v1 v2 v3 v4 v5 : Value} {row : Option Nat} (h : Ac w B1 B2 B3 B4 B5 v1 v2 v3 v4 v5 W) (hg : W.grownBy W' row) (hr : ∀ r, row = some r → w.heap.size ≤ r ∧ ∃ o : Obj, W.heap[r]? = some o ∧ o.isCells = false) : Ac w B1 B2 B3 B4 B5 v1 v2 v3 v4 v5 W' :=
  ⟨whole_abides h.b1 hg (fun r e => (hr r e).2), whole_abides h.b2 hg (fun r e => (hr r e).2), whole_abides h.b3 hg (fun r e => (hr r e).2), whole_abides h.b4 hg (fun r e => (hr r e).2), whole_abides h.b5 hg (fun r e => (hr r e).2), h.bel.trans (grown_below hg h.bel.size (fun r e => (hr r e).1))⟩
theorem Ac.set {w W : World} {B1 B2 B3 B4 B5 : Nat} {v1 v2 v3 v4 v5 : Value} (h : Ac w B1 B2 B3 B4 B5 v1 v2 v3 v4 v5 W) (hlo : w.heap.size ≤ B1 ∧ B1 < B2 ∧ B2 < B3 ∧ B3 < B4 ∧ B4 < B5) (u2 u3 u4 u5 : Value) :
    Ac w B1 B2 B3 B4 B5 v1 u2 u3 u4 u5 ((((W.setCell ⟨B2, 0, none⟩ u2).setCell ⟨B3, 0, none⟩ u3).setCell ⟨B4, 0, none⟩ u4).setCell ⟨B5, 0, none⟩ u5) := by
  obtain ⟨h1, h2, h3, h4, h5, hb⟩ := h
  obtain ⟨l1, l2, l3, l4, l5⟩ := hlo
  refine ⟨?_, ?_, ?_, ?_, ?_, ?_⟩
  · exact (((h1.away (p := ⟨B2, 0, none⟩) (by show B1 ≠ B2; omega) u2).away (p := ⟨B3, 0, none⟩) (by show B1 ≠ B3; omega) u3).away (p := ⟨B4, 0, none⟩) (by show B1 ≠ B4; omega) u4).away (p := ⟨B5, 0, none⟩) (by show B1 ≠ B5; omega) u5
  · exact ((((h2.put 0 u2).away (p := ⟨B3, 0, none⟩) (by show B2 ≠ B3; omega) u3).away (p := ⟨B4, 0, none⟩) (by show B2 ≠ B4; omega) u4).away (p := ⟨B5, 0, none⟩) (by show B2 ≠ B5; omega) u5).as (ds := #[u2]) rfl
  · exact ((((h3.away (p := ⟨B2, 0, none⟩) (by show B3 ≠ B2; omega) u2).put 0 u3).away (p := ⟨B4, 0, none⟩) (by show B3 ≠ B4; omega) u4).away (p := ⟨B5, 0, none⟩) (by show B3 ≠ B5; omega) u5).as (ds := #[u3]) rfl
  · exact ((((h4.away (p := ⟨B2, 0, none⟩) (by show B4 ≠ B2; omega) u2).away (p := ⟨B3, 0, none⟩) (by show B4 ≠ B3; omega) u3).put 0 u4).away (p := ⟨B5, 0, none⟩) (by show B4 ≠ B5; omega) u5).as (ds := #[u4]) rfl
  · exact ((((h5.away (p := ⟨B2, 0, none⟩) (by show B5 ≠ B2; omega) u2).away (p := ⟨B3, 0, none⟩) (by show B5 ≠ B3; omega) u3).away (p := ⟨B4, 0, none⟩) (by show B5 ≠ B4; omega) u4).put 0 u5).as (ds := #[u5]) rfl
  · exact (((hb.setCell (p := ⟨B2, 0, none⟩) (by show w.heap.size ≤ B2; omega) u2).setCell (p := ⟨B3, 0, none⟩) (by show w.heap.size ≤ B3; omega) u3).setCell (p := ⟨B4, 0, none⟩) (by show w.heap.size ≤ B4; omega) u4).setCell (p := ⟨B5, 0, none⟩) (by show w.heap.size ≤ B5; omega) u5
theorem cell_of_blk {w w' : World} {b : Nat} (h : w'.heap[b]? = w.heap[b]?) (i : Nat) : w'.cell? ⟨b, i, none⟩ = w.cell? ⟨b, i, none⟩ := by
  simp only [World.cell?, h]
theorem irow_abides {W W' : World} {a : Option Addr} {n : Nat} {f : Nat → Int} {row : Option Nat} (h : IRow W a n f) (hg : W.grownBy W' row) (hr : ∀ r, row = some r → ∃ o : Obj, W.heap[r]? = some o ∧ o.isCells = false) : IRow W' a n f := by
  rcases h with h | ⟨b, o, rfl, hlt, hc⟩
  · exact .inl h
  · refine .inr ⟨b, o, rfl, Nat.lt_of_lt_of_le hlt hg.size, fun i hi => ?_⟩
    have hk : W'.heap[b]? = W.heap[b]? := hg.block b hlt (fun e => by
      obtain ⟨ob, ho, hcl⟩ := hr b e.symm
      have := hc i hi
      unfold World.cell? at this
      simp only [ho] at this
      cases ob <;> simp_all [Obj.isCells])
    exact (cell_of_blk hk (o + i)).trans (hc i hi)
theorem irow_set {W : World} {a : Option Addr} {n : Nat} {f : Nat → Int} {m : Nat} (h : IRow W a n f) (ha : ∀ p, a = some p → m ≤ p.block) (p : Addr) (hp : p.block < m) (v : Value) : IRow (W.setCell p v) a n f := by
  rcases h with h | ⟨b, o, rfl, hlt, hc⟩
  · exact .inl h
  · have hb : m ≤ b := ha _ rfl
    exact .inr ⟨b, o, rfl, Nat.lt_of_lt_of_le hlt (Nat.le_of_eq (World.size_setCell W p v).symm), fun i hi => (World.cell?_setCell_far W p ⟨b, o + i, none⟩ v (by show p.block ≠ b; omega)).trans (hc i hi)⟩
theorem row_fore {W : World} {b o n m : Nat} {g : Nat → Nat} (h : Row W (some ⟨b, o, none⟩) n g) (hm : m ≤ n) (hp : 0 < m) : Row W (some ⟨b, o, none⟩) m g := by
  obtain ⟨h0, h1 | ⟨b', o', e, hlt, hc⟩⟩ := h
  · omega
  · cases e
    exact ⟨fun i hi => h0 i (by omega), .inr ⟨b, o, rfl, hlt, fun i hi => hc i (by omega)⟩⟩
theorem call_all_any (w : World) (a : Option Addr) (n c : Nat) (g : Nat → Nat) (hR : Row w a n g) (hnc : n ≤ c) (hn : n ≤ 1048576) :
    Calls Try.prog 19 #[.slice a n c] w fun e w' => Below w.heap.size w w' ∧ AllP g n e w' := by
  have hab : n = 0 ∨ ∃ b o, a = some ⟨b, o, none⟩ ∧ b < w.heap.size := by
    obtain ⟨_, h | ⟨b, o, ha, hb, _⟩⟩ := hR
    · exact .inl h
    · exact .inr ⟨b, o, ha, hb⟩
  have hRh := Lib.hid hR
  clear hR
  refine (callsIn_wide (n := 9)).1 ?_
  refine callsIn_of_wp_marks Try.func19 rfl trivial ?_ rfl
  simp only [Try.ntmps19, List.size_toArray, List.length_cons, List.length_nil, Nat.reduceAdd, Nat.reduceSub, Array.replicate_succ, Array.replicate_zero, List.push_toArray, List.append_toArray, List.nil_append, List.cons_append]
  gi_wp2_with fail
  have k1 := Whole.fresh w 22 #[.slice a n c]
  have b1 := (Below.refl w.heap.size w).alloc (Nat.le_refl _) (.cells #[.slice a n c] 22)
  have hs1 : (w.alloc (.cells #[.slice a n c] 22)).heap.size = w.heap.size + 1 := alloc_size _ _
  generalize w.alloc (.cells #[.slice a n c] 22) = V1 at *
  have k2 := Whole.fresh V1 27 #[.slice none 0 0]
  have j1 := k1.alloc (.cells #[.slice none 0 0] 27)
  have b2 := b1.alloc b1.size (.cells #[.slice none 0 0] 27)
  have hs2 : (V1.alloc (.cells #[.slice none 0 0] 27)).heap.size = w.heap.size + 1 + 1 := by rw [alloc_size, hs1]
  rw [hs1] at k2
  generalize V1.alloc (.cells #[.slice none 0 0] 27) = V2 at *
  have k3 := Whole.fresh V2 3 #[.int .i64 0]
  have j2 := k2.alloc (.cells #[.int .i64 0] 3)
  have i1 := j1.alloc (.cells #[.int .i64 0] 3)
  have b3 := b2.alloc b2.size (.cells #[.int .i64 0] 3)
  have hs3 : (V2.alloc (.cells #[.int .i64 0] 3)).heap.size = w.heap.size + 1 + 1 + 1 := by rw [alloc_size, hs2]
  rw [hs2] at k3
  generalize V2.alloc (.cells #[.int .i64 0] 3) = V3 at *
  have k4 := Whole.fresh V3 4 #[.bool false]
  have j3 := k3.alloc (.cells #[.bool false] 4)
  have i2 := j2.alloc (.cells #[.bool false] 4)
  have l1 := i1.alloc (.cells #[.bool false] 4)
  have b4 := b3.alloc b3.size (.cells #[.bool false] 4)
  have hs4 : (V3.alloc (.cells #[.bool false] 4)).heap.size = w.heap.size + 1 + 1 + 1 + 1 := by rw [alloc_size, hs3]
  rw [hs3] at k4
  generalize V3.alloc (.cells #[.bool false] 4) = V4 at *
  have k5 := Whole.fresh V4 28 #[.int .i64 0]
  rw [hs4] at k5
  have hA : Ac w w.heap.size (w.heap.size + 1) (w.heap.size + 1 + 1) (w.heap.size + 1 + 1 + 1) (w.heap.size + 1 + 1 + 1 + 1) (.slice a n c) (.slice none 0 0) (.int .i64 0) (.bool false) (.int .i64 0) (V4.alloc (.cells #[.int .i64 0] 28)) :=
    ⟨l1.alloc _, i2.alloc _, j3.alloc _, k4.alloc _, k5, b4.alloc b4.size _⟩
  clear k1 k2 k3 k4 k5 j1 j2 j3 i1 i2 l1 b1 b2 b3 b4 hs1 hs2 hs3 hs4
  generalize V4.alloc (.cells #[.int .i64 0] 28) = W2 at *
  refine ⟨trivial, (callsIn_wide.2 (blocks_any W2 .nilFunc n c a)).mono ?_⟩
  rintro e W3 ⟨rfl, rfl⟩
  have hX := Whole.fresh W2 22 #[.slice a n c]
  have hA3 := hA.grown (World.grownBy_alloc W2 (.cells #[.slice a n c] 22) none) (fun r e => by cases e)
  have h5X : w.heap.size + 1 + 1 + 1 + 1 < W2.heap.size := hA.b5.lt
  clear hA
  generalize hW3 : W2.alloc (.cells #[.slice a n c] 22) = W3 at *
  have hs3 : w.heap.size ≤ W3.heap.size := hA3.bel.size
  generalize hXe : W2.heap.size = X at *
  have hBo : ∃ B1 B2 B3 B4 B5 : Nat, B1 = w.heap.size ∧ B2 = w.heap.size + 1 ∧ B3 = w.heap.size + 1 + 1 ∧ B4 = w.heap.size + 1 + 1 + 1 ∧ B5 = w.heap.size + 1 + 1 + 1 + 1 := ⟨_, _, _, _, _, rfl, rfl, rfl, rfl, rfl⟩
  obtain ⟨B1, B2, B3, B4, B5, e1, e2, e3, e4, e5⟩ := hBo
  rw [← e5, ← e4, ← e3, ← e2, ← e1] at hA3 ⊢
  have hlo : w.heap.size ≤ B1 ∧ B1 < B2 ∧ B2 < B3 ∧ B3 < B4 ∧ B4 < B5 ∧ B5 < X := by omega
  clear e1 e2 e3 e4 e5 h5X hXe
  gi_wp2_with fail
  obtain ⟨b, o, hbo⟩ : ∃ b o, n = 0 ∨ a = some ⟨b, o, none⟩ := by
    rcases hab with h | ⟨b, o, h, _⟩
    · exact ⟨0, 0, .inl h⟩
    · exact ⟨b, o, .inr h⟩
  refine range_told (gf := 41) (lb := #[.pointer (some ⟨X, 0, none⟩)]) rfl (by omega) rfl trivial (enters_of Try.func41 (by kernel_rfl) rfl)
    (blocks_stops W3 hX b o hbo (by omega) hnc _ (by omega)) (fun h k => h.trans k) (fun W l o o' h ho => kx_put W l o o' h ho) (fun _ _ _ _ _ _ _ _ h => h) (fun _ => rfl)
    (fun pre W => pre = List.range pre.length ∧ NoEnd g pre.length ∧ Ac w B1 B2 B3 B4 B5 (.slice a n c) (.slice none 0 0) (.int .i64 0) (.bool false) (.int .i64 0) W ∧ Whole W X 22 #[.slice a n c])
    (fun cc pre W => cc = .ret ∧ ∃ k a2 c2, EndAt g n k ∧ Ac w B1 B2 B3 B4 B5 (.slice a n c) (.slice a2 (16 * (k + 1)) c2) (.int .i64 ((9 * k + 9 : Nat) : Int)) (.bool (decide (g (9 * k) / 2 % 2 = 1))) (.int .i64 0) W ∧ IRow W a2 (16 * (k + 1)) (allF g) ∧ 16 * (k + 1) ≤ c2)
    (fun s A B row h hg hr => ⟨h.1, h.2.1, h.2.2.1.grown hg (fun r e => ⟨Nat.le_trans hs3 (hr r e).1, (hr r e).2⟩), whole_abides h.2.2.2 hg (fun r e => (hr r e).2)⟩)
    (fun c s A B row h hg hr => by
      obtain ⟨h0, k, a2, c2, h1, h2, h3, h4⟩ := h
      exact ⟨h0, k, a2, c2, h1, h2.grown hg (fun r e => ⟨Nat.le_trans hs3 (hr r e).1, (hr r e).2⟩), irow_abides h3 hg (fun r e => (hr r e).2), h4⟩)
    ⟨rfl, fun i hi => absurd hi (Nat.not_lt_zero i), hA3, hX⟩ ?act ?assign ?body ?done ?stop
  case act => exact fun x => { tmps := #[Value.slice a n c, Value.pointer (some { block := B1, off := 0 }), Value.pointer (some { block := B2, off := 0 }), Value.pointer (some { block := B3, off := 0 }), Value.pointer (some { block := B4, off := 0 }), Value.pointer (some { block := B5, off := 0 }), Value.int IntKind.i64 ((9 * x + 9 : Nat) : Int), Value.slice (some { block := b, off := o + 9 * x }) 9 (c - 9 * x), undef, Value.slice a n c, Value.func (Fn.func 41) #[] #[Value.pointer (some { block := X, off := 0 })], Value.int IntKind.i64 ((9 * x + 9 : Nat) : Int), Value.slice (some { block := b, off := o + 9 * x }) 9 (c - 9 * x), undef, undef, undef, undef, undef, undef, undef, undef, undef, undef, undef, undef, undef], defers := [] }
  case assign =>
    intro l pre x W K hv hK
    simp only [encK] at hK ⊢
    clear hv
    gi_wp2
    first | exact hK | (simpa using hK)
  case done =>
    rintro D xs W hD rfl ⟨_, h1, h2, _⟩ hK
    rw [List.length_range] at h1
    have hlo5 : w.heap.size ≤ B1 ∧ B1 < B2 ∧ B2 < B3 ∧ B3 < B4 ∧ B4 < B5 := ⟨hlo.1, hlo.2.1, hlo.2.2.1, hlo.2.2.2.1, hlo.2.2.2.2.1⟩
    have y2 := h2.b2.cell 0
    have y3 := h2.b3.cell 0
    have y4 := h2.b4.cell 0
    have y5 := h2.b5.cell 0
    have z2 := h2.b2.free 0
    have z3 := h2.b3.free 0
    have z4 := h2.b4.free 0
    have z5 := h2.b5.free 0
    simp only [List.getElem?_toArray, List.getElem?_cons_zero] at y2 y3 y4 y5
    have h6 := h2.set hlo5 (.slice none 0 0) (.int .i64 0) (.bool false) (.int .i64 140)
    have n23 : B2 ≠ B3 := by omega
    have n24 : B2 ≠ B4 := by omega
    have n25 : B2 ≠ B5 := by omega
    have n34 : B3 ≠ B4 := by omega
    have n35 : B3 ≠ B5 := by omega
    have n45 : B4 ≠ B5 := by omega
    replace h1 := Lib.hid h1
    have hk6 := (((KeepsOthers.setCell W ⟨B2, 0, none⟩ (.slice none 0 0)).trans (KeepsOthers.setCell _ ⟨B3, 0, none⟩ (.int .i64 0))).trans (KeepsOthers.setCell _ ⟨B4, 0, none⟩ (.bool false))).trans (KeepsOthers.setCell _ ⟨B5, 0, none⟩ (.int .i64 140))
    have hK6 := hk6.same _ _ hK rfl
    generalize hV : (((W.setCell ⟨B2, 0, none⟩ (.slice none 0 0)).setCell ⟨B3, 0, none⟩ (.int .i64 0)).setCell ⟨B4, 0, none⟩ (.bool false)).setCell ⟨B5, 0, none⟩ (.int .i64 140) = V at *
    have hDl : ∃ o : Obj, V.heap[D]? = some o ∧ o.isCells = false := ⟨_, hK6, rfl⟩
    have h7 := h6.grown (grownBy_putObj' V D (.deferred none)) (fun r e => by cases e; exact ⟨by omega, hDl⟩)
    have x2 := h7.b2.cell 0
    have x3 := h7.b3.cell 0
    have x4 := h7.b4.cell 0
    have x5 := h7.b5.cell 0
    simp only [List.getElem?_toArray, List.getElem?_cons_zero] at x2 x3 x4 x5
    have hfb := Lib.hid h7.bel
    replace hK6 := Lib.hid hK6
    replace hV := Lib.hid hV
    clear h2 hA3 hX hbo hab h6 h7 hDl hk6 hK
    gi_wp2_with fail
    rw [hV.out]
    exact ⟨by simp, .inl ⟨_, _, rfl, run_takeDeferred hK6.out, _, by simp [results, Try.f19, go_sem, x2, x3, x4, x5], hfb.out, .inl ⟨h1.out, rfl⟩⟩⟩
  case stop =>
    rintro D cc pre W hD _ ⟨rfl, k, a2, c2, h1, h2, h3, h4⟩ hK
    have hDl : ∃ o : Obj, W.heap[D]? = some o ∧ o.isCells = false := ⟨_, hK, rfl⟩
    have hgp := grownBy_putObj' W D (.deferred none)
    have h6 := h2.grown hgp (fun r e => by cases e; exact ⟨by omega, hDl⟩)
    have h7 := irow_abides h3 hgp (fun r e => by cases e; exact hDl)
    have y2 := h6.b2.cell 0
    have y3 := h6.b3.cell 0
    have y4 := h6.b4.cell 0
    have y5 := h6.b5.cell 0
    simp only [List.getElem?_toArray, List.getElem?_cons_zero] at y2 y3 y4 y5
    have hf := Lib.hid (And.intro h6.bel (And.intro h1 (And.intro h7 h4)))
    replace hK := Lib.hid hK
    clear h2 h3 h4 h1 h6 h7 hA3 hX hbo hab hDl hgp
    gi_wp2_with fail
    exact ⟨by simp, .inl ⟨_, _, rfl, run_takeDeferred hK.out, _, by simp [results, Try.f19, go_sem, y2, y3, y4, y5], hf.out.1, .inr ⟨k, a2, c2, hf.out.2.1, rfl, hf.out.2.2.1, hf.out.2.2.2⟩⟩⟩
  case body =>
    rintro l pre x W ⟨h1, hne, hA, hXX⟩ ⟨hx1, hx2⟩
    have hRW := row_keep (B := w.heap.size) hRh.out hA.bel (fun p hp => by
      rcases hab with h | ⟨b', o', e, hb⟩
      · omega
      · rw [e] at hp; cases hp; exact hb)
    obtain rfl : a = some ⟨b, o, none⟩ := by
      rcases hbo with h | h
      · omega
      · exact h
    have hbl : b < w.heap.size := by
      rcases hab with h | ⟨b', o', e, hb⟩
      · omega
      · cases e; exact hb
    rw [hx1] at hx2 ⊢
    have hlen : (pre ++ [x]).length = pre.length + 1 := by simp
    have hpre1 : pre ++ [x] = List.range (pre ++ [x]).length := by
      rw [hlen, List.range_succ, ← h1, hx1]
    have x0 : W.cell? ⟨b, o + 9 * pre.length, none⟩ = some (.int .u8 (g (9 * pre.length) : Nat)) := by
      obtain ⟨_, h | ⟨b', o', e, hlt, hc⟩⟩ := hRW
      · omega
      · cases e; exact hc _ (by omega)
    have hg0 : g (9 * pre.length) < 256 := hRh.out.1 _ (by omega)
    have HRd := Lib.hid (read_any W (g (9 * pre.length)) hg0)
    unfold headV at HRd
    have hend : ∀ i, i < pre.length + 1 → g (9 * pre.length) % 2 ≠ 1 → g (9 * i) % 2 ≠ 1 := fun i hi he => by
      rcases Nat.lt_or_ge i pre.length with h | h
      · exact hne i h
      · rw [show i = pre.length by omega]; exact he
    replace hlen := Lib.hid hlen
    replace hpre1 := Lib.hid hpre1
    have h1H := Lib.hid h1
    have hlo5 : w.heap.size ≤ B1 ∧ B1 < B2 ∧ B2 < B3 ∧ B3 < B4 ∧ B4 < B5 := ⟨hlo.1, hlo.2.1, hlo.2.2.1, hlo.2.2.2.1, hlo.2.2.2.2.1⟩
    have hhA := Lib.hid (And.intro hA (And.intro hXX hRW))
    have hwW : w.heap.size ≤ W.heap.size := hA.bel.size
    replace hne := Lib.hid hne
    replace hend := Lib.hid hend
    have hx1' := Lib.hid hx1
    clear h1 hx1 hA hXX hRW hA3 hX hab hbo
    generalize hkE : pre.length = k at *
    replace hkE := Lib.hid hkE
    generalize hG : g (9 * k) = G at *
    replace hG := Lib.hid hG
    have hzn : 9 * k + 9 ≤ n := by omega
    generalize hz : 9 * k + 9 = z at *
    generalize ((G / 16 : Nat) : Int) = i1 at *
    generalize ((G / 4 % 4 : Nat) : Int) = i2 at *
    unfold ownPostK
    gi_wp2_with fail
    refine ⟨trivial, (CallsIn.inRound l (callsIn_wide.2 HRd.out)).mono ?_⟩
    rintro e W3 ⟨rfl, hB3⟩
    have hH := Whole.fresh W3 34 #[.int .u8 i1, .int .u8 i2, .bool (decide (G / 2 % 2 = 1)), .bool (decide (G % 2 = 1))]
    have hB4 := hB3.alloc hB3.size (.cells #[.int .u8 i1, .int .u8 i2, .bool (decide (G / 2 % 2 = 1)), .bool (decide (G % 2 = 1))] 34)
    have q2 := hH.cell 2
    have q3 := hH.cell 3
    simp only [List.getElem?_toArray, List.getElem?_cons_zero, List.getElem?_cons_succ] at q2 q3
    have hW3s := hB3.size
    clear HRd x0 hB3
    generalize hl2 : decide (G / 2 % 2 = 1) = l2 at *
    generalize hl1 : decide (G % 2 = 1) = l1 at *
    replace hl2 := Lib.hid hl2
    replace hl1 := Lib.hid hl1
    cases l1 with
    | false =>
      have hn1 : G % 2 ≠ 1 := of_decide_eq_false hl1.out
      have hne1 : NoEnd g (k + 1) := fun i hi => hend.out i hi hn1
      have hA4 := hhA.out.1.below hB4
      have hX4 := hhA.out.2.1.below hB4 hhA.out.2.1.lt
      have hk4 : KeepsOthers W (W3.alloc (.cells #[.int .u8 i1, .int .u8 i2, .bool l2, .bool false] 34)) := ⟨hB4.size, fun i o' hi _ => (hB4.block i (Array.getElem?_eq_some_iff.1 hi).1).trans hi⟩
      have hx4 : Kx X W (W3.alloc (.cells #[.int .u8 i1, .int .u8 i2, .bool l2, .bool false] 34)) := kx_below hB4 hhA.out.2.1.lt
      have hfin := Lib.hid (And.intro hk4 (And.intro hx4 (And.intro hA4 hX4)))
      clear hH hB4 hA4 hX4 hk4 hx4 q2 hhA
      replace hne1 := Lib.hid hne1
      gi_wp2_with fail
      have h1' : pre = List.range pre.length := by rw [hkE.out]; exact h1H.out
      refine ⟨hfin.out.1, hfin.out.2.1, ⟨h1', hkE.out.symm⟩, ?_, hfin.out.2.2.1, hfin.out.2.2.2⟩
      rw [hkE.out]
      exact hne1.out
    | true =>
      have he1 : G % 2 = 1 := of_decide_eq_true hl1.out
      have hHl := hH.lt
      have hA4 := hhA.out.1.below hB4
      have hX4 := hhA.out.2.1.below hB4 hhA.out.2.1.lt
      have hR4 := row_keep hhA.out.2.2 hB4 (fun p hp => by cases hp; exact Nat.lt_of_lt_of_le hbl hwW)
      have hXW : X < W.heap.size := hhA.out.2.1.lt
      have hz0 : (0 : Int) ≤ (z : Int) := by omega
      have hzc : (z : Int) ≤ (c : Int) := by omega
      have hzd : z / 9 = k + 1 := by omega
      have hRz := row_fore hR4 hzn (by omega)
      have hsz4 := alloc_size W3 (.cells #[.int .u8 i1, .int .u8 i2, .bool l2, .bool true] 34)
      clear q3 hhA hR4
      replace hz := Lib.hid hz
      replace hX4 := Lib.hid hX4
      gi_wp2_with fail
      generalize W3.alloc (.cells #[.int .u8 i1, .int .u8 i2, .bool l2, .bool true] 34) = W4 at *
      generalize W3.heap.size = H at *
      have m1 := hA4.b1.cell 0
      simp only [List.getElem?_toArray, List.getElem?_cons_zero] at m1
      have hsd : W4.drew.heap.size = W4.heap.size := rfl
      have HD := Lib.hid (decodeAll_any W4.drew (some ⟨b, o, none⟩) z c g (row_keep (B := W4.heap.size) hRz (Below.drew (Below.refl _ W4)) (fun p hp => by cases hp; exact hRz.2.elim (fun h => by omega) (fun ⟨b', o', e, hlt, _⟩ => by cases e; exact hlt))) (by omega) (by omega))
      replace hA4 := Lib.hid hA4
      replace hH := Lib.hid hH
      replace hB4 := Lib.hid hB4
      refine wpIn_region_held_round (fun V => V.cell? ⟨B1, 0, none⟩ = some (.slice (some ⟨b, o, none⟩) n c) ∧ V.cell? ⟨H, 2, none⟩ = some (.bool l2)) (by kernel_rfl) (by kernel_rfl) ⟨m1, q2⟩ (fun hHeld => ?_)
      refine wpAnyH_take (i := 0) (v := .slice (some ⟨b, o, none⟩) n c) rfl (by kernel_rfl) (by kernel_rfl) (by kernel_rfl) (fun _ _ _ h => h) (Or.inl ⟨by rfl, ?_⟩) (by assumption) ?_
      · intro V hSw
        obtain ⟨hS1, hS2⟩ := hSw
        first | (go_simp; done) | (go_simp; with_reducible rfl)
      simp only [Act.put, List.setIfInBounds_toArray, List.set_cons_zero, List.set_cons_succ]
      refine wpAnyH_take (i := 1) (v := .int .i64 (z : Int)) rfl (by kernel_rfl) (by kernel_rfl) (by kernel_rfl) (fun _ _ _ h => h) (Or.inl ⟨by rfl, ?_⟩) (by assumption) ?_
      · intro V hSw
        obtain ⟨hS1, hS2⟩ := hSw
        first | (go_simp; done) | (go_simp; with_reducible rfl)
      simp only [Act.put, List.setIfInBounds_toArray, List.set_cons_zero, List.set_cons_succ]
      refine wpAnyH_take (i := 2) (v := .slice (some ⟨b, o, none⟩) z c) rfl (by kernel_rfl) (by kernel_rfl) (by kernel_rfl) (fun _ _ _ h => h) (Or.inl ⟨by rfl, ?_⟩) (by assumption) ?_
      · intro V hSw
        obtain ⟨hS1, hS2⟩ := hSw
        first | (go_simp; done) | (go_simp; with_reducible rfl)
      simp only [Act.put, List.setIfInBounds_toArray, List.set_cons_zero, List.set_cons_succ]
      refine wpAnyH_take (i := 4) (v := .int .i64 (z : Int)) rfl (by kernel_rfl) (by kernel_rfl) (by kernel_rfl) (fun _ _ _ h => h) (Or.inl ⟨by rfl, ?_⟩) (by assumption) ?_
      · intro V hSw
        obtain ⟨hS1, hS2⟩ := hSw
        first | (go_simp; done) | (go_simp; with_reducible rfl)
      simp only [Act.put, List.setIfInBounds_toArray, List.set_cons_zero, List.set_cons_succ]
      refine wpAnyH_take (i := 5) (v := .pointer (some ⟨H, 2, none⟩)) rfl (by kernel_rfl) (by kernel_rfl) (by kernel_rfl) (fun _ _ _ h => h) (Or.inl ⟨by rfl, ?_⟩) (by assumption) ?_
      · intro V hSw
        obtain ⟨hS1, hS2⟩ := hSw
        first | (go_simp; done) | (go_simp; with_reducible rfl)
      simp only [Act.put, List.setIfInBounds_toArray, List.set_cons_zero, List.set_cons_succ]
      refine wpAnyH_take (i := 6) (v := .bool l2) rfl (by kernel_rfl) (by kernel_rfl) (by kernel_rfl) (fun _ _ _ h => h) (Or.inl ⟨by rfl, ?_⟩) (by assumption) ?_
      · intro V hSw
        obtain ⟨hS1, hS2⟩ := hSw
        first | (go_simp; done) | (go_simp; with_reducible rfl)
      simp only [Act.put, List.setIfInBounds_toArray, List.set_cons_zero, List.set_cons_succ]
      refine wpAnyH_ready (rs := [3]) (by kernel_rfl) (by simp) ?_
      refine AllReadyH.cons rfl (fun K hK => ?_) AllReadyH.nil
      go_simp
      refine HD.out.mono ?_
      rintro e W5 ⟨s, rfl, hO5, hB5⟩
      rw [hzd] at hO5
      obtain ⟨a2, c2, rfl, hI5, hc2, hp2⟩ := own_irow2 (f := allF g) hO5 (by omega) (fun i hi => allL_at g (k + 1) i hi)
      have hB45 : Below W4.heap.size W4 W5 := (Below.refl _ W4).drew.trans hB5
      have hA5 := hA4.out.below hB45
      have hH5 := hH.out.below hB45 hHl
      have hX5 := hX4.out.below hB45 hX4.out.lt
      have hB05 := hB4.out.trans (hB45.mono hB4.out.size)
      have hk5 : KeepsOthers W W5 := ⟨hB05.size, fun i o' hi _ => (hB05.block i (Array.getElem?_eq_some_iff.1 hi).1).trans hi⟩
      have y2 := hA5.b2.cell 0
      have y3 := hA5.b3.cell 0
      have y4 := hA5.b4.cell 0
      have y5 := hA5.b5.cell 0
      have z2 := hA5.b2.free 0
      have z3 := hA5.b3.free 0
      have z4 := hA5.b4.free 0
      have z5 := hA5.b5.free 0
      have s1 := hA5.b1.cell 0
      have s2 := hH5.cell 2
      simp only [List.getElem?_toArray, List.getElem?_cons_zero, List.getElem?_cons_succ] at y2 y3 y4 y5 s1 s2
      have n23 : B2 ≠ B3 := by omega
      have n24 : B2 ≠ B4 := by omega
      have n25 : B2 ≠ B5 := by omega
      have n34 : B3 ≠ B4 := by omega
      have n35 : B3 ≠ B5 := by omega
      have n45 : B4 ≠ B5 := by omega
      have hS : ∀ (V : World) (p : Addr) (v : Value), p.block ≠ B1 → p.block ≠ H → (V.cell? ⟨B1, 0, none⟩ = some (.slice (some ⟨b, o, none⟩) n c) ∧ V.cell? ⟨H, 2, none⟩ = some (.bool l2)) → ((V.setCell p v).cell? ⟨B1, 0, none⟩ = some (.slice (some ⟨b, o, none⟩) n c) ∧ (V.setCell p v).cell? ⟨H, 2, none⟩ = some (.bool l2)) :=
        fun V p v h1 h2 h => ⟨(World.cell?_setCell_far V p _ v h1).trans h.1, (World.cell?_setCell_far V p _ v h2).trans h.2⟩
      have S6 := hS W5 ⟨B2, 0, none⟩ (.slice a2 (16 * (k + 1)) c2) (by show B2 ≠ B1; omega) (by show B2 ≠ H; omega) ⟨s1, s2⟩
      have S7 := hS _ ⟨B3, 0, none⟩ (.int .i64 (z : Int)) (by show B3 ≠ B1; omega) (by show B3 ≠ H; omega) S6
      have S8 := hS _ ⟨B4, 0, none⟩ (.bool l2) (by show B4 ≠ B1; omega) (by show B4 ≠ H; omega) S7
      have S9 := hS _ ⟨B5, 0, none⟩ (.int .i64 0) (by show B5 ≠ B1; omega) (by show B5 ≠ H; omega) S8
      have hA9 := hA5.set hlo5 (.slice a2 (16 * (k + 1)) c2) (.int .i64 (z : Int)) (.bool l2) (.int .i64 0)
      have hk9 := (((hk5.trans (KeepsOthers.setCell W5 ⟨B2, 0, none⟩ (.slice a2 (16 * (k + 1)) c2))).trans (KeepsOthers.setCell _ ⟨B3, 0, none⟩ (.int .i64 (z : Int)))).trans (KeepsOthers.setCell _ ⟨B4, 0, none⟩ (.bool l2))).trans (KeepsOthers.setCell _ ⟨B5, 0, none⟩ (.int .i64 0))
      have hI9 := irow_set (irow_set (irow_set (irow_set hI5 hp2 ⟨B2, 0, none⟩ (by show B2 < W4.heap.size; omega) (.slice a2 (16 * (k + 1)) c2)) hp2 ⟨B3, 0, none⟩ (by show B3 < W4.heap.size; omega) (.int .i64 (z : Int))) hp2 ⟨B4, 0, none⟩ (by show B4 < W4.heap.size; omega) (.bool l2)) hp2 ⟨B5, 0, none⟩ (by show B5 < W4.heap.size; omega) (.int .i64 0)
      generalize hV : (((W5.setCell ⟨B2, 0, none⟩ (.slice a2 (16 * (k + 1)) c2)).setCell ⟨B3, 0, none⟩ (.int .i64 (z : Int))).setCell ⟨B4, 0, none⟩ (.bool l2)).setCell ⟨B5, 0, none⟩ (.int .i64 0) = V9 at *
      have hfin := Lib.hid (And.intro hA9 (And.intro hk9 (And.intro hI9 hc2)))
      replace hV := Lib.hid hV
      replace S6 := Lib.hid S6
      replace S7 := Lib.hid S7
      replace S8 := Lib.hid S8
      replace S9 := Lib.hid S9
      clear hO5 hB5 hB45 hA5 hH5 hX5 hB05 hk5 hA9 hk9 hI9 hI5 hA4 hH hB4 hX4 HD m1 q2 hHeld hS hRz
      refine hK.out _ _ ⟨s1, s2⟩ (fun hHeld => ?_)
      clear hK K
      try simp only [Act.put, List.setIfInBounds_toArray, List.set_cons_zero, List.set_cons_succ]
      refine wpAnyH_ready (rs := [7]) (by kernel_rfl) (by simp) ?_
      refine AllReadyH.cons rfl (fun K hK => ?_) AllReadyH.nil
      go_simp
      refine hK.out _ _ S6.out (fun hHeld => ?_)
      clear hK K
      try simp only [Act.put, List.setIfInBounds_toArray, List.set_cons_zero, List.set_cons_succ]
      refine wpAnyH_ready (rs := [8]) (by kernel_rfl) (by simp) ?_
      refine AllReadyH.cons rfl (fun K hK => ?_) AllReadyH.nil
      go_simp
      refine hK.out _ _ S7.out (fun hHeld => ?_)
      clear hK K
      try simp only [Act.put, List.setIfInBounds_toArray, List.set_cons_zero, List.set_cons_succ]
      refine wpAnyH_ready (rs := [9]) (by kernel_rfl) (by simp) ?_
      refine AllReadyH.cons rfl (fun K hK => ?_) AllReadyH.nil
      go_simp
      refine hK.out _ _ S8.out (fun hHeld => ?_)
      clear hK K
      try simp only [Act.put, List.setIfInBounds_toArray, List.set_cons_zero, List.set_cons_succ]
      refine wpAnyH_ready (rs := [10]) (by kernel_rfl) (by simp) ?_
      refine AllReadyH.cons rfl (fun K hK => ?_) AllReadyH.nil
      go_simp
      refine hK.out _ _ (by rw [hV.out]; exact S9.out) (fun hHeld => ?_)
      clear hK K
      try simp only [Act.put, List.setIfInBounds_toArray, List.set_cons_zero, List.set_cons_succ]
      refine wpAnyH_done (by kernel_rfl) ?_ _
      simp only [OnlyN]
      rw [hV.out]
      clear hHeld S6 S7 S8 S9 hV s1 s2 y2 y3 y4 y5 z2 z3 z4 z5
      gi_wp2_with fail
      refine ⟨hfin.out.2.1, k, ⟨hx2, hne.out, by rw [hG.out]; exact he1⟩, a2, c2, ?_, hfin.out.2.2.1, hc2⟩
      have e : (z : Int) = 9 * (k : Int) + 9 := by have := hz.out; omega
      have h := hfin.out.1
      rw [e, ← hl2.out] at h
      rw [hG.out]
      exact h
end Go.Proofs.Ytekjcgckniopdaa
