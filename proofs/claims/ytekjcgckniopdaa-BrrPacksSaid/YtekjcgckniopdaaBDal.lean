/-
  Blocks, one behind the other, decoded by the code.
-/
import Derived.Test.YtekjcgckniopdaaBDcF
import Derived.Test.YtekjcgckniopdaaBBks
import Derived.Deep.AppendLies
namespace Go.Proofs.Ytekjcgckniopdaa
open Go.RowKit Go.Shelf
attribute [local go_sem] Oper.semAt_some
set_option maxRecDepth 100000
set_option maxHeartbeats 2000000
set_option linter.unusedVariables false
set_option linter.unusedSimpArgs false

/-- The k-th block of some bytes. -/
def blkG (g : Nat → Nat) (k : Nat) : Nat → Nat := fun i => g (9 * k + i)
/-- The two samples behind k blocks; what they stand for. -/
def pqA (g : Nat → Nat) : Nat → Int × Int
  | 0 => (0, 0)
  | k + 1 => stB (blkG g k) (pqA g k).1 (pqA g k).2 16
def allL (g : Nat → Nat) : Nat → List Value
  | 0 => []
  | k + 1 => allL g k ++ outL (blkG g k) (pqA g k).1 (pqA g k).2 16
theorem smp0 : Smp 0 := ⟨by decide, by decide⟩
theorem pqA_smp (g : Nat → Nat) (k : Nat) : Smp (pqA g k).1 ∧ Smp (pqA g k).2 := by
  induction k with
  | zero => exact ⟨smp0, smp0⟩
  | succ k ih => exact stF_smp _ _ _ _ _ ih.1 ih.2 16
theorem allL_length (g : Nat → Nat) (k : Nat) : (allL g k).length = 16 * k := by
  induction k with
  | zero => rfl
  | succ k ih => rw [allL, List.length_append, ih, outL_length]; omega
theorem row_blk {w : World} {b o n : Nat} {g : Nat → Nat} (h : Row w (some ⟨b, o, none⟩) n g) (k : Nat) (hk : k < n / 9) : Row w (some ⟨b, o + 9 * k, none⟩) 9 (blkG g k) := by
  obtain ⟨h0, h1 | ⟨b', o', e, hlt, hc⟩⟩ := h
  · omega
  · cases e
    refine ⟨fun i hi => h0 _ (by omega), .inr ⟨b, _, rfl, hlt, fun i hi => ?_⟩⟩
    have := hc (9 * k + i) (by omega)
    rw [show o + (9 * k + i) = o + 9 * k + i by omega] at this
    exact this
theorem whole_abides {W W' : World} {x : Nat} {t : TypeId} {cs : Array Value} {row : Option Nat} (h : Whole W x t cs) (hg : W.grownBy W' row) (hr : ∀ r, row = some r → ∃ o : Obj, W.heap[r]? = some o ∧ o.isCells = false) : Whole W' x t cs := by
  refine whole_grown h hg (fun e => ?_)
  obtain ⟨o, ho, hc⟩ := hr x e
  have := h.symm.trans ho
  simp only [Option.some.injEq] at this
  subst this
  simp [Obj.isCells] at hc
theorem own_abides {W W' : World} {B n sz : Nat} {e : TypeId} {v : Value} {xs : List Value} {row : Option Nat} (h : W.ownsRow B e sz v n xs) (hg : W.grownBy W' row) (hr : ∀ r, row = some r → ∃ o : Obj, W.heap[r]? = some o ∧ o.isCells = false) : W'.ownsRow B e sz v n xs := by
  refine h.kept hg ?_
  cases hv : v.ownBlock with
  | none => exact .inl rfl
  | some k =>
    right
    intro e'
    obtain ⟨o, ho, hc⟩ := hr k e'.symm
    obtain ⟨cs, f, h2⟩ := own_type h hv
    have := h2.symm.trans ho
    simp only [Option.some.injEq] at this
    subst this
    simp [Obj.isCells] at hc
theorem F23.others {w w' : World} (h : F23 w w') : KeepsOthers w w' :=
  ⟨h.size, fun k o hk ho => (h.block k (Array.getElem?_eq_some_iff.1 hk).1 (fun cs f e => by
    rw [e] at hk
    simp only [Option.some.injEq] at hk
    subst hk
    simp [Obj.isCells] at ho)).trans hk⟩
/-- What is kept between two rounds. -/
structure Dc (w : World) (g : Nat → Nat) (B3 B4 : Nat) (k : Nat) (W : World) : Prop where
  box : ∃ s, Whole W B3 27 #[s] ∧ W.ownsRow w.heap.size 23 1 s (16 * k) (allL g k)
  pq : Whole W B4 55 #[.int .i64 (pqA g k).1, .int .i64 (pqA g k).2]
  bel : Below w.heap.size w W
theorem Dc.grown {w : World} {g : Nat → Nat} {B3 B4 k : Nat} {W W' : World} {row : Option Nat} (h : Dc w g B3 B4 k W) (hg : W.grownBy W' row) (hr : ∀ r, row = some r → w.heap.size ≤ r ∧ ∃ o : Obj, W.heap[r]? = some o ∧ o.isCells = false) : Dc w g B3 B4 k W' := by
  obtain ⟨s, h1, h2⟩ := h.box
  exact ⟨⟨s, whole_abides h1 hg (fun r e => (hr r e).2), own_abides h2 hg (fun r e => (hr r e).2)⟩, whole_abides h.pq hg (fun r e => (hr r e).2), h.bel.trans (grown_below hg h.bel.size (fun r e => (hr r e).1))⟩
theorem decodeAll_any (w : World) (a : Option Addr) (n c : Nat) (g : Nat → Nat) (hR : Row w a n g) (hnc : n ≤ c) (hn : n ≤ 1048576) :
    Calls Try.prog 31 #[.slice a n c] w fun e w' => ∃ s, e = .returned s ∧ w'.ownsRow w.heap.size 23 1 s (16 * (n / 9)) (allL g (n / 9)) ∧ Below w.heap.size w w' := by
  obtain ⟨j0, hj0, hz0, hz1, hz2⟩ := info_parts info23
  obtain ⟨W0, hmk, hown0, hg0⟩ := run_make_own (P := Try.prog) (w := w) w.heap.size 27 23 j0 (.int .i16 0) 1 Try.underlying27 hj0 hz0 hz1 .i64 .i64 (n / 9 * 16) (by rw [hz2]; omega) (by unfold maxLen; omega) (Nat.le_refl _)
  have hab : n = 0 ∨ ∃ b o, a = some ⟨b, o, none⟩ ∧ b < w.heap.size := by
    obtain ⟨_, h | ⟨b, o, ha, hb, _⟩⟩ := hR
    · exact .inl h
    · exact .inr ⟨b, o, ha, hb⟩
  have hq : ((n : Int) / 9) * 16 = ((n / 9 * 16 : Nat) : Int) := by omega
  have hRh := Lib.hid hR
  have hnb : n / 9 * 16 ≤ 16777216 := by omega
  generalize hN : n / 9 * 16 = N at *
  replace hN := Lib.hid hN
  clear hR
  refine (callsIn_wide (n := 9)).1 ?_
  refine callsIn_of_wp_marks Try.func31 rfl trivial ?_ rfl
  simp only [Try.ntmps31, List.size_toArray, List.length_cons, List.length_nil, Nat.reduceAdd, Nat.reduceSub, Array.replicate_succ, Array.replicate_zero, List.push_toArray, List.append_toArray, List.nil_append, List.cons_append]
  gi_wp2_with fail
  have hB0 : Below w.heap.size w W0 := grown_below hg0 (Nat.le_refl _) (fun r e => by cases e)
  have hw0 : w.heap.size ≤ W0.heap.size := hB0.size
  have k3 := (Whole.fresh W0 27 #[.slice (some ⟨w.heap.size, 0, none⟩) 0 N]).alloc (.cells #[.int .i64 0, .int .i64 0] 55)
  have k4 := Whole.fresh (W0.alloc (.cells #[.slice (some ⟨w.heap.size, 0, none⟩) 0 N] 27)) 55 #[.int .i64 0, .int .i64 0]
  rw [alloc_size] at k4
  have hO := (hown0.alloc (.cells #[.slice (some ⟨w.heap.size, 0, none⟩) 0 N] 27)).alloc (.cells #[.int .i64 0, .int .i64 0] 55)
  have hB2 := (hB0.alloc hw0 (.cells #[.slice (some ⟨w.heap.size, 0, none⟩) 0 N] 27)).alloc (by rw [alloc_size]; omega) (.cells #[.int .i64 0, .int .i64 0] 55)
  have hD2 : Dc w g W0.heap.size (W0.heap.size + 1) 0 _ := ⟨⟨_, k3, hO⟩, k4, hB2⟩
  clear hmk hown0 hg0 hB0 k3 hO hB2
  generalize (W0.alloc (.cells #[.slice (some ⟨w.heap.size, 0, none⟩) 0 N] 27)).alloc (.cells #[.int .i64 0, .int .i64 0] 55) = W2 at *
  generalize W0.heap.size = B3 at *
  refine ⟨trivial, (callsIn_wide.2 (blocks_any W2 .nilFunc n c a)).mono ?_⟩
  rintro e W3 ⟨rfl, rfl⟩
  have hX := Whole.fresh W2 22 #[.slice a n c]
  have hD3 := hD2.grown (World.grownBy_alloc W2 (.cells #[.slice a n c] 22) none) (fun r e => by cases e)
  have h4X : B3 + 1 < W2.heap.size := k4.lt
  clear hD2 k4
  generalize hW3 : W2.alloc (.cells #[.slice a n c] 22) = W3 at *
  have hs3 : w.heap.size ≤ W3.heap.size := hD3.bel.size
  generalize W2.heap.size = X at *
  gi_wp2_with fail
  obtain ⟨b, o, hbo⟩ : ∃ b o, n = 0 ∨ a = some ⟨b, o, none⟩ := by
    rcases hab with h | ⟨b, o, h, _⟩
    · exact ⟨0, 0, .inl h⟩
    · exact ⟨b, o, .inr h⟩
  refine range_told (gf := 41) (lb := #[.pointer (some ⟨X, 0, none⟩)]) rfl (by omega) rfl trivial (enters_of Try.func41 (by kernel_rfl) rfl)
    (blocks_stops W3 hX b o hbo (by omega) hnc _ (by omega)) (fun h k => h.trans k) (fun W l o o' h ho => kx_put W l o o' h ho) (fun _ _ _ _ _ _ _ _ h => h) (fun _ => rfl)
    (fun pre W => pre = List.range pre.length ∧ Dc w g B3 (B3 + 1) pre.length W ∧ Whole W X 22 #[.slice a n c]) (fun _ _ _ => False)
    (fun s A B row h hg hr => ⟨h.1, h.2.1.grown hg (fun r e => ⟨Nat.le_trans hs3 (hr r e).1, (hr r e).2⟩), whole_abides h.2.2 hg (fun r e => (hr r e).2)⟩) (fun c s A B row h hg hr => h) ⟨rfl, hD3, hX⟩ ?act ?assign ?body ?done ?stop
  case act => exact fun x => { tmps := #[Value.slice a n c, undef, Value.slice none 0 0, Value.pointer (some { block := B3, off := 0 }), Value.pointer (some { block := B3 + 1, off := 0 }), undef, Value.slice (some { block := b, off := o + 9 * x }) 9 (c - 9 * x), Value.slice a n c, Value.int IntKind.i64 (n : Nat), Value.int IntKind.i64 ((n : Nat) / 9), Value.int IntKind.i64 (N : Nat), Value.slice (some { block := w.heap.size, off := 0 }) 0 N, Value.slice a n c, Value.func (Fn.func 41) #[] #[Value.pointer (some { block := X, off := 0 })], Value.int IntKind.i64 (9 * (x : Nat) + 9), Value.slice (some { block := b, off := o + 9 * x }) 9 (c - 9 * x), undef, undef, undef, undef, undef, undef, undef, undef], defers := [] }
  case done =>
    rintro D xs W hD rfl ⟨_, h2, _⟩ hK
    rw [List.length_range] at h2
    obtain ⟨s, k3, hown⟩ := h2.box
    have b0 := k3.cell 0
    simp only [List.getElem?_toArray, List.getElem?_cons_zero] at b0
    have hDl : ∃ o : Obj, W.heap[D]? = some o ∧ o.isCells = false := ⟨_, hK, rfl⟩
    have hgp := grownBy_putObj' W D (.deferred none)
    have hO2 := own_abides hown hgp (fun r e => by cases e; exact hDl)
    have hB2 := h2.bel.trans (grown_below hgp h2.bel.size (fun r e => by cases e; omega))
    have hf := Lib.hid (And.intro hO2 hB2)
    replace hK := Lib.hid hK
    clear h2 hown k3 hD3 hX hbo hab hDl hgp hO2 hB2
    gi_wp2_with fail
    exact ⟨by simp, .inl ⟨_, _, rfl, run_takeDeferred hK.out, s, by simp [results, Try.f31, go_sem], _, rfl, hf.out.1, hf.out.2⟩⟩
  case stop => exact fun _ _ _ _ _ _ h _ => h.elim
  case assign =>
    intro l pre x W K hv hK
    simp only [encK] at hK ⊢
    clear hv
    gi_wp2
    first | exact hK | (simpa using hK)
  case body =>
    rintro l pre x W ⟨h1, h2, h3⟩ ⟨hx1, hx2⟩
    obtain ⟨s, k3, hown⟩ := h2.box
    have hRW := row_keep (B := w.heap.size) hRh.out h2.bel (fun p hp => by
      rcases hab with h | ⟨b', o', e, hb⟩
      · omega
      · rw [e] at hp; cases hp; exact hb)
    obtain rfl : a = some ⟨b, o, none⟩ := by
      rcases hbo with h | h
      · omega
      · exact h
    have hbl : b < w.heap.size := by
      rcases hab with h | ⟨b', o', e, hb⟩
      · omega
      · cases e; exact hb
    have hpq := pqA_smp g pre.length
    rw [hx1] at hx2 ⊢
    have HD := decodeF_any W w.heap.size (16 * pre.length) (c - 9 * pre.length) s (allL g pre.length) (some ⟨b, o + 9 * pre.length, none⟩) (blkG g pre.length) (pqA g pre.length).1 (pqA g pre.length).2 hown h2.bel.size (row_blk hRW _ hx2) (fun p hp => by cases hp; exact hbl) hpq.1 hpq.2 (by omega)
    have hnx : stB (blkG g pre.length) (pqA g pre.length).1 (pqA g pre.length).2 16 = pqA g (pre.length + 1) := rfl
    have hnl : allL g pre.length ++ outL (blkG g pre.length) (pqA g pre.length).1 (pqA g pre.length).2 16 = allL g (pre.length + 1) := rfl
    rw [hnx, hnl] at HD
    have b0 := k3.cell 0
    have p0 := h2.pq.cell 0
    have p1 := h2.pq.cell 1
    simp only [List.getElem?_toArray, List.getElem?_cons_zero, List.getElem?_cons_succ] at b0 p0 p1
    have hlen : (pre ++ [x]).length = pre.length + 1 := by simp
    have hpre1 : pre ++ [x] = List.range (pre ++ [x]).length := by
      rw [hlen, List.range_succ, ← h1, hx1]
    replace HD := Lib.hid HD
    replace hlen := Lib.hid hlen
    replace hpre1 := Lib.hid hpre1
    have hh := Lib.hid (And.intro k3 (And.intro h2.pq (And.intro h2.bel h3)))
    have h1H := Lib.hid h1
    clear h2 h3 hown k3 hRW hpq hx1 h1 hbo hab hnx hnl hx2
    generalize hkE : pre.length = k at *
    replace hkE := Lib.hid hkE
    unfold ownPostK
    gi_wp2_with fail
    refine ⟨trivial, (CallsIn.inRound l (callsIn_wide.2 HD.out)).mono ?_⟩
    rintro e W5 ⟨s', rfl, hO5, hB5, hF5⟩
    obtain ⟨gs, cap, rfl, hgs, hgl⟩ := hO5.form (by omega)
    obtain ⟨k3, k4, hb, hx⟩ := hh.out
    have k35 := hF5.whole k3 (by decide)
    have k45 := hF5.whole k4 (by decide)
    have hx5 := hF5.whole hx (by decide)
    have hb5 := hb.trans hB5
    have hk5 := hF5.others
    have hne3 := own_apart hO5 k35 (by decide)
    have hne4 := own_apart hO5 k45 (by decide)
    have c3 := k35.cell 0
    have f3 := k35.free 0
    have c40 := k45.cell 0
    have c41 := k45.cell 1
    have f4 := k45.free
    simp only [List.getElem?_toArray, List.getElem?_cons_zero, List.getElem?_cons_succ] at c3 c40 c41
    have e3 : B3 ≠ B3 + 1 := by omega
    have e3X : X ≠ B3 := by omega
    have e4X : X ≠ B3 + 1 := by omega
    generalize hPe : (pqA g (k + 1)).1 = P at *
    generalize hQe : (pqA g (k + 1)).2 = Q at *
    have hB4l : w.heap.size ≤ B3 + 1 := by omega
    have r3 := (((k35.put 0 (.slice (some ⟨gs, 0, none⟩) (16 * k + 16) cap)).away (p := ⟨B3 + 1, 0, none⟩) e3 (.int .i64 P)).away (p := ⟨B3 + 1, 1, none⟩) e3 (.int .i64 Q)).as (ds := #[.slice (some ⟨gs, 0, none⟩) (16 * k + 16) cap]) rfl
    have r4 := (((k45.away (p := ⟨B3, 0, none⟩) (Ne.symm e3) (.slice (some ⟨gs, 0, none⟩) (16 * k + 16) cap)).put 0 (.int .i64 P)).put 1 (.int .i64 Q)).as (ds := #[.int .i64 P, .int .i64 Q]) rfl
    have rx := ((hx5.away (p := ⟨B3, 0, none⟩) e3X (.slice (some ⟨gs, 0, none⟩) (16 * k + 16) cap)).away (p := ⟨B3 + 1, 0, none⟩) e4X (.int .i64 P)).away (p := ⟨B3 + 1, 1, none⟩) e4X (.int .i64 Q)
    have g1 := only_set (Below.only (Below.refl W5.heap.size W5) B3) 0 (.slice (some ⟨gs, 0, none⟩) (16 * k + 16) cap)
    have ro1 := hO5.kept g1 (.inr hne3)
    have g2 := only_set (only_set (Below.only (Below.refl (W5.setCell ⟨B3, 0, none⟩ (.slice (some ⟨gs, 0, none⟩) (16 * k + 16) cap)).heap.size (W5.setCell ⟨B3, 0, none⟩ (.slice (some ⟨gs, 0, none⟩) (16 * k + 16) cap))) (B3 + 1)) 0 (.int .i64 P)) 1 (.int .i64 Q)
    have ro := ro1.kept g2 (.inr hne4)
    have rb := ((hb5.setCell (p := ⟨B3, 0, none⟩) hw0 (.slice (some ⟨gs, 0, none⟩) (16 * k + 16) cap)).setCell (p := ⟨B3 + 1, 0, none⟩) hB4l (.int .i64 P)).setCell (p := ⟨B3 + 1, 1, none⟩) hB4l (.int .i64 Q)
    have rk := ((hk5.trans (KeepsOthers.setCell W5 ⟨B3, 0, none⟩ (.slice (some ⟨gs, 0, none⟩) (16 * k + 16) cap))).trans (KeepsOthers.setCell _ ⟨B3 + 1, 0, none⟩ (.int .i64 P))).trans (KeepsOthers.setCell _ ⟨B3 + 1, 1, none⟩ (.int .i64 Q))
    generalize hW7 : ((W5.setCell ⟨B3, 0, none⟩ (.slice (some ⟨gs, 0, none⟩) (16 * k + 16) cap)).setCell ⟨B3 + 1, 0, none⟩ (.int .i64 P)).setCell ⟨B3 + 1, 1, none⟩ (.int .i64 Q) = W7 at *
    have rkx : Kx X W W7 := fun cs t f e => by
      have h9 := hx.symm.trans e
      rw [← h9]
      exact rx
    have hdc : Dc w g B3 (B3 + 1) (k + 1) W7 := ⟨⟨_, r3, ro⟩, by rw [hPe, hQe]; exact r4, rb⟩
    have hfin := Lib.hid (And.intro rk (And.intro rkx (And.intro hdc rx)))
    replace hW7 := Lib.hid hW7
    clear r3 r4 rx g1 g2 ro1 ro rb rk rkx hdc k3 k4 hb hx k35 k45 hx5 hb5 hk5 hne3 hne4 hO5 hB5 hF5 hh HD b0 p0 p1
    gi_wp2_with fail
    rw [hW7.out]
    have h1' : pre = List.range pre.length := by rw [hkE.out]; exact h1H.out
    refine ⟨hfin.out.1, hfin.out.2.1, ⟨h1', hkE.out.symm⟩, ?_, hfin.out.2.2.2⟩
    rw [hkE.out]
    exact hfin.out.2.2.1
end Go.Proofs.Ytekjcgckniopdaa
