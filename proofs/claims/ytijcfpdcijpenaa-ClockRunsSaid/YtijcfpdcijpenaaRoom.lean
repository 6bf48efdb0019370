/-
  clock.Room: how far a thread may run.
-/
import Derived.Test.YtijcfpdcijpenaaOrder
import Derived.Test.YtijcfpdcijpenaaTicks
namespace Go.Proofs.Ytijcfpdcijpenaa
open Go.RowKit Go.Shelf
attribute [local go_sem] Oper.semAt_some
set_option maxRecDepth 100000
set_option maxHeartbeats 2000000

/-- What Room answers. -/
def RoomIs (ts ss : List Int) (n i : Nat) (r : Int) : Prop :=
  (∃ j, j < n ∧ j ≠ i ∧ (∀ k, k < n → k ≠ i → ahd ts k j = false) ∧ r = ticksOf (ts[i]?.getD 0) (ts[j]?.getD 0) (ss[i]?.getD 0) i j) ∨ ((∀ k, k < n → k = i) ∧ r = 1073741824)

theorem order_any (b : Nat) (w : World) :
    Calls Try.prog 27 #[.pointer (some ⟨b, 0, none⟩)] w fun e w' => e = .returned (.func (.func 38) #[] #[.pointer (some ⟨w.heap.size, 0, none⟩)]) ∧ w.alloc (.cells #[.pointer (some ⟨b, 0, none⟩)] 30) = w' := by
  go_enter Try.func27, Try.ntmps27
  go_wp2
  go_ret
  exact ⟨rfl, rfl⟩

/-- The first thread of an order that is not i. -/
theorem ord_first {ts : List Int} {n i j : Nat} {L p : List Nat} (hL : Ord ts n L) (hp : (p ++ [j]) <+: L) (hi : ∀ y ∈ p, y = i) : j < n ∧ ∀ k, k < n → k ≠ i → ahd ts k j = false := by
  obtain ⟨q, rfl⟩ := hp
  have hlen : (p ++ [j] ++ q).length = n := by simpa using hL.1.length_eq
  have hj : j ∈ List.range n := hL.1.mem_iff.1 (by simp)
  refine ⟨by simpa using hj, fun k hk hne => ?_⟩
  have hm : k ∈ p ++ [j] ++ q := hL.1.mem_iff.2 (by simpa using hk)
  simp only [List.mem_append, List.mem_cons, List.not_mem_nil, or_false] at hm
  rcases hm with (hm | rfl) | hm
  · exact absurd (hi k hm) hne
  · simp [ahd]
  · obtain ⟨m, hm1, hm2⟩ := List.getElem_of_mem hm
    have h := hL.2 p.length (p.length + 1 + m) (by omega) (by simp at hlen; omega)
    have e1 : (p ++ [j] ++ q)[p.length + 1 + m]?.getD 0 = k := by
      rw [List.getElem?_append_right (by simp)]
      simp [← hm2, hm1]
    have e2 : (p ++ [j] ++ q)[p.length]?.getD 0 = j := by
      rw [List.append_assoc, List.getElem?_append_right (Nat.le_refl _)]
      simp
    rw [e1, e2] at h
    exact h

/-- Two places written one behind the other. -/
theorem two_puts {w : World} {p q : Addr} {u0 v0 : Value} (hp : w.cell? p = some u0) (hq : w.cell? q = some v0) (hne : p.block ≠ q.block) (u v : Value) :
    ((w.setCell p u).setCell q v).cell? p = some u ∧ ((w.setCell p u).setCell q v).cell? q = some v := by
  have h1 : (w.setCell p u).cell? p = some u := World.cell?_setCell_same' _ _ _ (by rw [hp]; rfl)
  have h2 : (w.setCell p u).cell? q = some v0 := (World.cell?_of_block (Below.heap_setCell w p u q.block (fun e => hne e.symm))).trans hq
  exact ⟨(World.cell?_of_block (Below.heap_setCell (w.setCell p u) q v p.block hne)).trans h1, World.cell?_setCell_same' _ _ _ (by rw [h2]; rfl)⟩

theorem room_any (i : Nat) (w : World) {B c bt capT bm : Nat} {ss ts : List Int} (h : Clk w B c bt capT bm ss ts) (hg : Good ss) (ht : Timed ts) (hi : i < ss.length) :
    Calls Try.prog 24 #[.pointer (some ⟨c, 0, none⟩), .int .i64 i] w fun e w' => ∃ r, e = .returned (.tuple #[.int .i64 r, .int .i64 0]) ∧ RoomIs ts ss ss.length i r ∧ Below w.heap.size w w' := by
  refine (callsIn_wide (n := 5)).1 ?_
  refine callsIn_of_wp_marks Try.func24 rfl trivial ?_ rfl
  simp only [Try.ntmps24, List.size_toArray, List.length_cons, List.length_nil, Nat.reduceAdd, Nat.reduceSub, Array.replicate_succ, Array.replicate_zero, List.push_toArray, List.append_toArray, List.nil_append, List.cons_append]
  have HK := Lib.hid (fun W (hW : Clk W B c bt capT bm ss ts) => check_ok i W hW hi)
  gi_wp2_with fail
  refine ⟨trivial, ?_⟩
  refine (callsIn_wide.2 (HK.out _ ((((h.alloc _).alloc _).alloc _).alloc _))).mono ?_; rintro e w' ⟨rfl, rfl⟩
  gi_wp2_with fail
  refine ⟨trivial, ?_⟩
  refine (callsIn_wide.2 (order_any c _)).mono ?_; rintro e w' ⟨rfl, rfl⟩
  gi_wp2_with fail
  clear HK
  have hB0 : Below w.heap.size w (((((w.alloc (Obj.cells #[Value.pointer (some { block := c, off := 0 })] 30)).alloc (Obj.cells #[Value.int IntKind.i64 ↑i] 3)).alloc (Obj.cells #[Value.int IntKind.i64 0] 3)).alloc (Obj.cells #[Value.int IntKind.i64 0] 26)).alloc (Obj.cells #[Value.pointer (some { block := c, off := 0 })] 30)) :=
    (((((Below.refl _ _).alloc (Nat.le_refl _) _).alloc (by simp) _).alloc (by simp; omega) _).alloc (by simp; omega) _).alloc (by simp; omega) _
  have k0 : Whole (((((w.alloc (Obj.cells #[Value.pointer (some { block := c, off := 0 })] 30)).alloc (Obj.cells #[Value.int IntKind.i64 ↑i] 3)).alloc (Obj.cells #[Value.int IntKind.i64 0] 3)).alloc (Obj.cells #[Value.int IntKind.i64 0] 26)).alloc (Obj.cells #[Value.pointer (some { block := c, off := 0 })] 30)) w.heap.size 30 #[.pointer (some ⟨c, 0, none⟩)] := ((((Whole.fresh w _ _).alloc _).alloc _).alloc _).alloc _
  have k1 : Whole (((((w.alloc (Obj.cells #[Value.pointer (some { block := c, off := 0 })] 30)).alloc (Obj.cells #[Value.int IntKind.i64 ↑i] 3)).alloc (Obj.cells #[Value.int IntKind.i64 0] 3)).alloc (Obj.cells #[Value.int IntKind.i64 0] 26)).alloc (Obj.cells #[Value.pointer (some { block := c, off := 0 })] 30)) (w.heap.size + 1) 3 #[.int .i64 i] := by
    have := (((Whole.fresh (w.alloc (Obj.cells #[Value.pointer (some { block := c, off := 0 })] 30)) 3 #[.int .i64 i]).alloc (Obj.cells #[Value.int IntKind.i64 0] 3)).alloc (Obj.cells #[Value.int IntKind.i64 0] 26)).alloc (Obj.cells #[Value.pointer (some { block := c, off := 0 })] 30)
    rwa [World.size_alloc] at this
  have k2 : Whole (((((w.alloc (Obj.cells #[Value.pointer (some { block := c, off := 0 })] 30)).alloc (Obj.cells #[Value.int IntKind.i64 ↑i] 3)).alloc (Obj.cells #[Value.int IntKind.i64 0] 3)).alloc (Obj.cells #[Value.int IntKind.i64 0] 26)).alloc (Obj.cells #[Value.pointer (some { block := c, off := 0 })] 30)) (w.heap.size + 1 + 1) 3 #[.int .i64 0] := by
    have := ((Whole.fresh ((w.alloc (Obj.cells #[Value.pointer (some { block := c, off := 0 })] 30)).alloc (Obj.cells #[Value.int IntKind.i64 ↑i] 3)) 3 #[.int .i64 0]).alloc (Obj.cells #[Value.int IntKind.i64 0] 26)).alloc (Obj.cells #[Value.pointer (some { block := c, off := 0 })] 30)
    rwa [World.size_alloc, World.size_alloc] at this
  have k3 : Whole (((((w.alloc (Obj.cells #[Value.pointer (some { block := c, off := 0 })] 30)).alloc (Obj.cells #[Value.int IntKind.i64 ↑i] 3)).alloc (Obj.cells #[Value.int IntKind.i64 0] 3)).alloc (Obj.cells #[Value.int IntKind.i64 0] 26)).alloc (Obj.cells #[Value.pointer (some { block := c, off := 0 })] 30)) (w.heap.size + 1 + 1 + 1) 26 #[.int .i64 0] := by
    have := (Whole.fresh (((w.alloc (Obj.cells #[Value.pointer (some { block := c, off := 0 })] 30)).alloc (Obj.cells #[Value.int IntKind.i64 ↑i] 3)).alloc (Obj.cells #[Value.int IntKind.i64 0] 3)) 26 #[.int .i64 0]).alloc (Obj.cells #[Value.pointer (some { block := c, off := 0 })] 30)
    rwa [World.size_alloc, World.size_alloc, World.size_alloc] at this
  have k4 : (((((w.alloc (Obj.cells #[Value.pointer (some { block := c, off := 0 })] 30)).alloc (Obj.cells #[Value.int IntKind.i64 ↑i] 3)).alloc (Obj.cells #[Value.int IntKind.i64 0] 3)).alloc (Obj.cells #[Value.int IntKind.i64 0] 26)).alloc (Obj.cells #[Value.pointer (some { block := c, off := 0 })] 30)).cell? ⟨w.heap.size + 1 + 1 + 1 + 1, 0, none⟩ = some (.pointer (some ⟨c, 0, none⟩)) := by
    have := (Whole.fresh ((((w.alloc (Obj.cells #[Value.pointer (some { block := c, off := 0 })] 30)).alloc (Obj.cells #[Value.int IntKind.i64 ↑i] 3)).alloc (Obj.cells #[Value.int IntKind.i64 0] 3)).alloc (Obj.cells #[Value.int IntKind.i64 0] 26)) 30 #[.pointer (some ⟨c, 0, none⟩)]).cell 0
    rw [World.size_alloc, World.size_alloc, World.size_alloc, World.size_alloc] at this
    exact this
  have hsz : (((((w.alloc (Obj.cells #[Value.pointer (some { block := c, off := 0 })] 30)).alloc (Obj.cells #[Value.int IntKind.i64 ↑i] 3)).alloc (Obj.cells #[Value.int IntKind.i64 0] 3)).alloc (Obj.cells #[Value.int IntKind.i64 0] 26)).alloc (Obj.cells #[Value.pointer (some { block := c, off := 0 })] 30)).heap.size = w.heap.size + 5 := by simp
  generalize (((((w.alloc (Obj.cells #[Value.pointer (some { block := c, off := 0 })] 30)).alloc (Obj.cells #[Value.int IntKind.i64 ↑i] 3)).alloc (Obj.cells #[Value.int IntKind.i64 0] 3)).alloc (Obj.cells #[Value.int IntKind.i64 0] 26)).alloc (Obj.cells #[Value.pointer (some { block := c, off := 0 })] 30)) = W0 at *
  have hC0 := h.below hB0
  have e0 := k0.cell 0
  have e1 := k1.cell 0
  have e2 := k2.cell 0
  have e3 := k3.cell 0
  simp only [List.getElem?_toArray, List.getElem?_cons_zero] at e0 e1 e2 e3
  have f2 := k2.free 0
  have f3 := k3.free 0
  clear k0 k1 k2 k3
  refine wpIn_rangeFunc_ownF (Kp := Spares W0.heap.size) rfl (by omega) (gf := 38) (lb := #[.pointer (some ⟨w.heap.size + 1 + 1 + 1 + 1, 0, none⟩)]) rfl trivial (enters_of Try.func38 (by kernel_rfl) rfl)
    (order_stops (w.heap.size + 1 + 1 + 1 + 1) W0 hC0 hg k4 (by omega) _ (by omega)) Spares.trans (fun W l o o' _ h1 h2 _ => spares_b W l o o' h1 h2) (Below.refl _ _) (fun _ => rfl)
    (fun (pre : List (Fin ss.length)) W => ((∀ y ∈ pre, y.1 = i) ∧ W.cell? ⟨w.heap.size, 0, none⟩ = some (.pointer (some ⟨c, 0, none⟩)) ∧ W.cell? ⟨w.heap.size + 1, 0, none⟩ = some (.int .i64 i) ∧
      (W.cell? ⟨w.heap.size + 1 + 1, 0, none⟩ = some (.int .i64 0) ∧ W.frozen? ⟨w.heap.size + 1 + 1, 0, none⟩ = false) ∧ W.cell? ⟨w.heap.size + 1 + 1 + 1, 0, none⟩ = some (.int .i64 0) ∧ W.frozen? ⟨w.heap.size + 1 + 1 + 1, 0, none⟩ = false) ∧ Below w.heap.size w W)
    (fun cd (pre : List (Fin ss.length)) W => (cd = .ret ∧ ∃ (p : List (Fin ss.length)) (j : Fin ss.length), pre = p ++ [j] ∧ (∀ y ∈ p, y.1 = i) ∧ j.1 ≠ i ∧ W.cell? ⟨w.heap.size + 1 + 1, 0, none⟩ = some (.int .i64 (ticksOf (ts[i]?.getD 0) (ts[j.1]?.getD 0) (ss[i]?.getD 0) i j.1)) ∧ W.cell? ⟨w.heap.size + 1 + 1 + 1, 0, none⟩ = some (.int .i64 0)) ∧ Below w.heap.size w W)
    (OwnFrom.and (Own.from (fun s A B row hs hg hr => ⟨hs.1, cell_kept hs.2.1 hg hr, cell_kept hs.2.2.1 hg hr, ⟨cell_kept hs.2.2.2.1.1 hg hr, (frozen_kept hs.2.2.2.1.1 hg hr).trans hs.2.2.2.1.2⟩, cell_kept hs.2.2.2.2.1 hg hr, (frozen_kept hs.2.2.2.2.1 hg hr).trans hs.2.2.2.2.2⟩) _) (ownFrom_below (Nat.le_refl _) (by omega)))
    (fun cd => OwnFrom.and (Own.from (fun s A B row hs hg hr => by obtain ⟨h1, p, j, h2, h3, h4, h5, h6⟩ := hs; exact ⟨h1, p, j, h2, h3, h4, cell_kept h5 hg hr, cell_kept h6 hg hr⟩) _) (ownFrom_below (Nat.le_refl _) (by omega)))
    ⟨⟨by simp, e0, e1, ⟨e2, f2⟩, e3, f3⟩, hB0⟩
    (fun (x : Fin ss.length) => { tmps := #[Value.pointer (some { block := c, off := 0 }), Value.int IntKind.i64 ↑i,
          Value.pointer (some { block := w.heap.size, off := 0 }),
          Value.pointer (some { block := w.heap.size + 1, off := 0 }),
          Value.pointer (some { block := w.heap.size + 1 + 1, off := 0 }),
          Value.pointer (some { block := w.heap.size + 1 + 1 + 1, off := 0 }), Value.int IntKind.i64 0, Value.int .i64 (x.1 : Nat),
          Value.pointer (some { block := c, off := 0 }), Value.int IntKind.i64 ↑i, Value.int IntKind.i64 0,
          Value.int IntKind.i64 0, Value.bool false, undef, Value.pointer (some { block := c, off := 0 }),
          Value.func (Fn.func 38) #[] #[Value.pointer (some { block := w.heap.size + 1 + 1 + 1 + 1, off := 0 })], Value.int .i64 (x.1 : Nat),
          undef, undef, undef, undef, undef, undef, undef], defers := [] }) ?assign ?body ?done ?stop
  case assign =>
    intro l x W K hK
    gi_wp2
    exact hK
  case body =>
    rintro l pre x W ⟨⟨hp, g0, g1, ⟨g2, g2'⟩, g3, g3'⟩, hB⟩ hpl
    have hC := h.below hB
    by_cases hx : x.1 = i
    · have t1 : ((x.1 : Int) != (i : Int)) = false := by rw [hx]; simp
      have hp' : ∀ y ∈ pre ++ [x], y.1 = i := by
        intro y hy
        simp only [List.mem_append, List.mem_cons, List.not_mem_nil, or_false] at hy
        rcases hy with hy | rfl
        · exact hp y hy
        · exact hx
      have HP := Lib.hid hp'
      clear hp' hx hp
      gi_wp2
      exact ⟨KeepsOthers.refl _, Spares.refl _ _, ⟨HP.out, g0, g1, ⟨g2, g2'⟩, g3, g3'⟩, hB⟩
    · have t1 : ((x.1 : Int) != (i : Int)) = true := by rw [bne_iff_ne]; omega
      have HT := Lib.hid (fun W (hW : Clk W B c bt capT bm ss ts) => ticks_any i x.1 W hW hg ht hi x.2)
      have HP := Lib.hid hp
      have HX := Lib.hid hx
      have h1n : 1 ≤ 5 - 1 - 1 := by omega
      clear hp hx
      gi_wp2_with fail
      refine ⟨trivial, ?_⟩
      refine (CallsIn.inRound l (callsIn_wide.2 (HT.out _ hC))).mono ?_
      rintro e w' ⟨rfl, q, hw⟩
      have b0 : Below w.heap.size w w' := by rw [hw]; exact below_drewN hB q
      have b2 : w'.cell? ⟨w.heap.size + 1 + 1, 0, none⟩ = some (.int .i64 0) := by rw [hw]; exact g2
      have b2' : w'.frozen? ⟨w.heap.size + 1 + 1, 0, none⟩ = false := by rw [hw]; exact g2'
      have b3 : w'.cell? ⟨w.heap.size + 1 + 1 + 1, 0, none⟩ = some (.int .i64 0) := by rw [hw]; exact g3
      have b3' : w'.frozen? ⟨w.heap.size + 1 + 1 + 1, 0, none⟩ = false := by rw [hw]; exact g3'
      have hk : KeepsOthers W w' := by rw [hw]; exact ⟨Nat.le_refl _, fun _ _ h _ => h⟩
      clear hw g0 g1 g2 g2' g3 g3' hB hC HT h
      generalize hr : ticksOf (ts[i]?.getD 0) (ts[x.1]?.getD 0) (ss[i]?.getD 0) i x.1 = r
      have HR := Lib.hid hr
      clear hr
      gi_wp2
      obtain ⟨c2, c3⟩ := two_puts b2 b3 (by simp) (.int .i64 r) (.int .i64 0)
      exact ⟨(hk.trans (KeepsOthers.setCell _ _ _)).trans (KeepsOthers.setCell _ _ _), ⟨rfl, pre, x, rfl, HP.out, HX.out, by rw [HR.out]; exact c2, c3⟩,
        (b0.setCell (p := ⟨w.heap.size + 1 + 1, 0, none⟩) (by simp; omega) _).setCell (p := ⟨w.heap.size + 1 + 1 + 1, 0, none⟩) (by simp; omega) _⟩
  case done =>
    rintro D ys W hD hys ⟨⟨hp, g0, g1, ⟨g2, g2'⟩, g3, g3'⟩, hB⟩ hK
    have HY := Lib.hid hys
    have HP := Lib.hid hp
    clear hys hp
    gi_wp2
    obtain ⟨c2, c3⟩ := two_puts g2 g3 (by simp) (.int .i64 1073741824) (.int .i64 0)
    have hB2 := (hB.setCell (p := ⟨w.heap.size + 1 + 1, 0, none⟩) (by simp; omega) (.int .i64 1073741824)).setCell (p := ⟨w.heap.size + 1 + 1 + 1, 0, none⟩) (by simp; omega) (.int .i64 0)
    have hK2 := ((KeepsOthers.setCell W ⟨w.heap.size + 1 + 1, 0, none⟩ (.int .i64 1073741824)).trans (KeepsOthers.setCell _ ⟨w.heap.size + 1 + 1 + 1, 0, none⟩ (.int .i64 0))).same D _ hK rfl
    generalize (W.setCell ⟨w.heap.size + 1 + 1, 0, none⟩ (.int .i64 1073741824)).setCell ⟨w.heap.size + 1 + 1 + 1, 0, none⟩ (.int .i64 0) = W2 at *
    refine ⟨by simp, .inl ⟨_, _, rfl, run_takeDeferred hK2, ?_⟩⟩
    have c5 := cell_kept c2 (grownBy_putObj' _ D (.deferred none)) (fun r e => by cases e; exact ⟨_, hK2, rfl⟩)
    have c6 := cell_kept c3 (grownBy_putObj' _ D (.deferred none)) (fun r e => by cases e; exact ⟨_, hK2, rfl⟩)
    refine ⟨.tuple #[.int .i64 1073741824, .int .i64 0], by simp [results, Try.f24, go_sem, c5, c6], 1073741824, rfl, .inr ⟨fun k hk => ?_, rfl⟩, hB2.trans (belowK_b (w := w) (Nat.le_refl _) _ D _ _ (by omega) hK2 rfl rfl)⟩
    have hm := HY.out.1.mem_iff.2 (List.mem_range.2 hk)
    obtain ⟨y, hy, rfl⟩ := List.mem_map.1 hm
    exact HP.out y hy
  case stop =>
    rintro D cd pre W hD ⟨L, hL, hpre⟩ ⟨⟨rfl, p, j, rfl, hp, hji, g2, g3⟩, hB⟩ hK
    have HL := Lib.hid hL
    have HP := Lib.hid hp
    have HJ := Lib.hid hji
    clear hL hp hji
    gi_wp2
    refine ⟨by simp, .inl ⟨_, _, rfl, run_takeDeferred hK, ?_⟩⟩
    have c5 := cell_kept g2 (grownBy_putObj' _ D (.deferred none)) (fun r e => by cases e; exact ⟨_, hK, rfl⟩)
    have c6 := cell_kept g3 (grownBy_putObj' _ D (.deferred none)) (fun r e => by cases e; exact ⟨_, hK, rfl⟩)
    obtain ⟨q1, q2⟩ := ord_first (i := i) (j := j.1) (p := p.map (·.1)) HL.out (by have := hpre.map (fun x : Fin ss.length => x.1); simpa using this) (by intro y hy; obtain ⟨z, hz, rfl⟩ := List.mem_map.1 hy; exact HP.out z hz)
    refine ⟨.tuple #[.int .i64 (ticksOf (ts[i]?.getD 0) (ts[j.1]?.getD 0) (ss[i]?.getD 0) i j.1), .int .i64 0], by simp [results, Try.f24, go_sem, c5, c6], _, rfl, .inl ⟨j.1, q1, HJ.out, q2, rfl⟩, hB.trans (belowK_b (w := w) (Nat.le_refl _) _ D _ _ (by omega) hK rfl rfl)⟩
end Go.Proofs.Ytijcfpdcijpenaa
