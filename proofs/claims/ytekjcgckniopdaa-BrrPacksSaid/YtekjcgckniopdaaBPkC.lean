/-
  Pack by the code: the blocks of the pieces.
-/
import Derived.Test.YtekjcgckniopdaaBPcs
import Derived.Test.YtekjcgckniopdaaBNrW
namespace Go.Proofs.Ytekjcgckniopdaa
open Go.RowKit Go.Shelf Go.Sort
open Go.Proofs.Ytekjcgckniopdaa.brrNearest (info5 row_news)
attribute [local go_sem] Oper.semAt_some
set_option maxRecDepth 100000
set_option maxHeartbeats 2000000
set_option linter.unusedVariables false
set_option linter.unusedSimpArgs false

/-- The two samples ahead of the i-th block; the i-th block. -/
def pkS (s : Nat → Int) (n : Nat) : Nat → Int × Int
  | 0 => (0, 0)
  | i + 1 => stB (encB (pieF s n i) (pkS s n i).1 (pkS s n i).2) (pkS s n i).1 (pkS s n i).2 16
def pkB (s : Nat → Int) (n i : Nat) : Nat → Nat := encB (pieF s n i) (pkS s n i).1 (pkS s n i).2
def nine (g : Nat → Nat) : List Value := (List.range 9).map fun j => .int .u8 (g j : Nat)
def pkL (s : Nat → Int) (n : Nat) : Nat → List Value
  | 0 => []
  | i + 1 => pkL s n i ++ nine (pkB s n i)
theorem pkS_smp (s : Nat → Int) (n i : Nat) : Smp (pkS s n i).1 ∧ Smp (pkS s n i).2 := by
  induction i with
  | zero => exact ⟨smp0, smp0⟩
  | succ i ih => exact stF_smp _ _ _ _ _ ih.1 ih.2 16
theorem attD_past (s : Nat → Int) (p q : Int) (t : Nat) (ht : t < 52) : ∃ F M, attD s p q t = attA F M (stB (bytD s p q t) p q 16).1 (stB (bytD s p q t) p q 16).2 (bytD s p q t) := by
  have h := blkB_st s p q (t % 13) (t / 13) (by omega) 16 (Nat.le_refl _)
  unfold bytD
  rw [h]
  exact ⟨_, _, rfl⟩
theorem pkB_lt (s : Nat → Int) (n i j : Nat) : pkB s n i j < 256 := by
  have := topF_le (pieF s n i) (pkS s n i).1 (pkS s n i).2 51
  exact bytD_lt _ _ _ _ _ (by omega)
theorem nine_one (g : Nat → Nat) : ∀ v ∈ nine g, v.oneCell' = true := by
  intro u hu
  unfold nine at hu
  rw [List.mem_map] at hu
  obtain ⟨i, _, rfl⟩ := hu
  rfl
theorem nine_at (g : Nat → Nat) (j : Nat) (hj : j < 9) : (nine g)[j]? = some (.int .u8 (g j : Nat)) := by
  unfold nine
  rw [List.getElem?_map, List.getElem?_range hj]
  rfl
theorem pkL_length (s : Nat → Int) (n m : Nat) : (pkL s n m).length = 9 * m := by
  induction m with
  | zero => rfl
  | succ m ih => rw [pkL, List.length_append, ih]; simp [nine]; omega
theorem pkL_at (s : Nat → Int) (n m i : Nat) (hi : i < 9 * m) : (pkL s n m)[i]? = some (.int .u8 (pkB s n (i / 9) (i % 9) : Nat)) := by
  induction m with
  | zero => omega
  | succ m ih =>
    rw [pkL]
    by_cases h : i < 9 * m
    · rw [List.getElem?_append_left (by rw [pkL_length]; exact h)]
      exact ih h
    · rw [List.getElem?_append_right (by rw [pkL_length]; omega), pkL_length, nine_at _ _ (by omega)]
      rw [show i / 9 = m by omega, show i % 9 = i - 9 * m by omega]
/-- The bytes of all blocks, the last one an end. -/
def pkG (s : Nat → Int) (n j : Nat) : Nat := pkB s n (j / 9) (j % 9) + if j = 9 * pieN n - 9 then 1 else 0
theorem pkB_head (s : Nat → Int) (n i : Nat) : pkB s n i 0 % 2 = 0 ∧ pkB s n i 0 / 2 % 2 = 0 := by
  have h := topF_le (pieF s n i) (pkS s n i).1 (pkS s n i).2 51
  obtain ⟨_, _, e⟩ := blkB_head (pieF s n i) (pkS s n i).1 (pkS s n i).2 (topF (pieF s n i) (pkS s n i).1 (pkS s n i).2 51 % 13) (topF (pieF s n i) (pkS s n i).1 (pkS s n i).2 51 / 13) (by omega)
  have e2 : pkB s n i 0 = topF (pieF s n i) (pkS s n i).1 (pkS s n i).2 51 % 13 * 16 + topF (pieF s n i) (pkS s n i).1 (pkS s n i).2 51 / 13 * 4 := e
  rw [e2]
  omega
theorem or_one : ∀ b : Fin 256, b.val % 2 = 0 → bits BinOp.or IntKind.u8 ((b : Nat) : Int) 1 = ((b.val + 1 : Nat) : Int) := by decide +kernel
theorem step_append_ran {P : Program} {ops : Array Oper} {o : Oper} {a : Act} {w w' : World} {K : Act → World → Prop} {Q : Exit → Act → World → Prop} {E : Prop}
    (hgd : o.guard = none) (s x : Operand) (t : TypeId) (ho : o.op = .call { callee := .builtin .append, args := #[s, x], argTypes := #[t, t] })
    (v u v' : Value) (hs : a.eval s = v) (hx : a.eval x = u) (hr : (Builtin.append_ #[t, t] o.type #[v, u]).run P w = .ok v' w') (hK : K (a.put o.dst v') w') :
    if Region.wanted o (yielded ops a.tmps) = true then Oper.wp P o a w K Q else E := by
  have hw : Region.wanted o (yielded ops a.tmps) = true := by simp [Region.wanted, hgd]
  rw [if_pos hw]
  unfold Oper.wp
  simp [execOp, ho, resolve, invoke, builtin, hs, hx, hr, Result.andThen]
  exact hK
/-- What is kept between two rounds. -/
structure Dp (w : World) (s : Nat → Int) (n B3 B4 i : Nat) (W : World) : Prop where
  box : ∃ v, Whole W B3 22 #[v] ∧ W.ownsRow w.heap.size 5 1 v (9 * i) (pkL s n i)
  pq : Whole W B4 55 #[.int .i64 (pkS s n i).1, .int .i64 (pkS s n i).2]
  bel : Below w.heap.size w W
theorem Dp.grown {w : World} {s : Nat → Int} {n B3 B4 i : Nat} {W W' : World} {row : Option Nat} (h : Dp w s n B3 B4 i W) (hg : W.grownBy W' row) (hr : ∀ r, row = some r → w.heap.size ≤ r ∧ ∃ o : Obj, W.heap[r]? = some o ∧ o.isCells = false) : Dp w s n B3 B4 i W' := by
  obtain ⟨s, h1, h2⟩ := h.box
  exact ⟨⟨s, whole_abides h1 hg (fun r e => (hr r e).2), own_abides h2 hg (fun r e => (hr r e).2)⟩, whole_abides h.pq hg (fun r e => (hr r e).2), h.bel.trans (grown_below hg h.bel.size (fun r e => (hr r e).1))⟩
theorem cpack_any (w : World) (a : Option Addr) (n c : Nat) (s : Nat → Int) (hI : IRow w a n s) (hs : ∀ i, Smp (s i)) (hnc : n ≤ c) (hn : n ≤ 1048576) :
    Calls Try.prog 22 #[.slice a n c] w fun e w' => ∃ gs c, e = .returned (.slice (some ⟨gs, 0, none⟩) (9 * pieN n) c) ∧ Row w' (some ⟨gs, 0, none⟩) (9 * pieN n) (pkG s n) ∧ 9 * pieN n ≤ c ∧ Below w.heap.size w w' := by
  have hab : ∀ p, n = 0 ∨ (a = some p → p.block < w.heap.size) := by
    intro p
    rcases hI with h | ⟨b, o, ha, hb, _⟩
    · exact .inl h
    · exact .inr (fun e => by rw [ha] at e; cases e; exact hb)
  refine (callsIn_wide (n := 9)).1 ?_
  refine callsIn_of_wp_marks Try.func22 rfl trivial ?_ rfl
  simp only [Try.ntmps22, List.size_toArray, List.length_cons, List.length_nil, Nat.reduceAdd, Nat.reduceSub, Array.replicate_succ, Array.replicate_zero, List.push_toArray, List.append_toArray, List.nil_append, List.cons_append]
  gi_wp2_with fail
  have k3 := (Whole.fresh w 22 #[.slice none 0 0]).alloc (.cells #[.int .i64 0, .int .i64 0] 55)
  have k4 := Whole.fresh (w.alloc (.cells #[.slice none 0 0] 22)) 55 #[.int .i64 0, .int .i64 0]
  rw [alloc_size] at k4
  have hB2 := ((Below.refl w.heap.size w).alloc (Nat.le_refl _) (.cells #[.slice none 0 0] 22)).alloc (by rw [alloc_size]; omega) (.cells #[.int .i64 0, .int .i64 0] 55)
  have hD2 : Dp w s n w.heap.size (w.heap.size + 1) 0 _ := ⟨⟨_, k3, World.ownsRow_nil _ _ _ _⟩, k4, hB2⟩
  have hI2 := hI.below hB2
  clear k3 hB2
  generalize (w.alloc (.cells #[.slice none 0 0] 22)).alloc (.cells #[.int .i64 0, .int .i64 0] 55) = W2 at *
  generalize hB3 : w.heap.size = B3 at *
  refine ⟨trivial, (callsIn_wide.2 (pieces_any W2 n c a)).mono ?_⟩
  rintro e W3 ⟨rfl, rfl⟩
  have hX := Whole.fresh W2 27 #[.slice a n c]
  have hBX := (Below.refl W2.heap.size W2).alloc (Nat.le_refl _) (.cells #[.slice a n c] 27)
  have hD3 := hD2.grown (World.grownBy_alloc W2 (.cells #[.slice a n c] 27) none) (fun r e => by cases e)
  have hI3 := hI2.below hBX
  have h4X : B3 + 1 < W2.heap.size := k4.lt
  clear hD2 k4 hI2 hBX
  generalize hW3 : W2.alloc (.cells #[.slice a n c] 27) = W3 at *
  have hs3 : w.heap.size ≤ W3.heap.size := hD3.bel.size
  generalize W2.heap.size = X at *
  gi_wp2_with fail
  refine range_told (gf := 45) (lb := #[.pointer (some ⟨X, 0, none⟩)]) rfl (by omega) rfl trivial (enters_of Try.func45 (by kernel_rfl) rfl)
    (pieces_stops W3 hX hI3 hn hnc _ (by omega)) (fun h k => h.trans k) (fun W l o o' h ho => ks_put W l o o' h ho) (fun pre x W l o o' h ho hv => ⟨hv.1, irow_abides hv.2 (grownBy_putObj' W l o') (fun r e => by cases e; exact ⟨o, h, ho⟩)⟩) (fun _ => rfl)
    (fun pre W => Dp w s n B3 (B3 + 1) pre.length W ∧ Whole W X 27 #[.slice a n c]) (fun _ _ _ => False)
    (fun s A B row h hg hr => ⟨h.1.grown hg (fun r e => ⟨Nat.le_trans hs3 (hr r e).1, (hr r e).2⟩), whole_abides h.2 hg (fun r e => (hr r e).2)⟩) (fun c s A B row h hg hr => h) ⟨hD3, hX⟩ ?act ?assign ?body ?done ?stop
  case act => exact fun G => { tmps := #[Value.slice a n c, undef, Value.slice none 0 0, Value.pointer (some { block := B3, off := 0 }), Value.pointer (some { block := B3 + 1, off := 0 }), Value.slice (some { block := G, off := 0 }) 16 16, undef, Value.slice a n c, Value.func (Fn.func 45) #[] #[Value.pointer (some { block := X, off := 0 })], Value.slice (some { block := G, off := 0 }) 16 16, undef, undef, undef, undef, undef, undef, undef, undef, undef, undef, undef, undef, undef, undef, undef, undef, undef, undef], defers := [] }
  case stop => exact fun _ _ _ _ _ _ h _ => h.elim
  case assign =>
    intro l pre x W K hv hK
    simp only [encP] at hK ⊢
    clear hv
    gi_wp2
    first | exact hK | (simpa using hK)
  case done =>
    rintro D xs W hD hxs ⟨h2, _⟩ hK
    rw [hxs] at h2
    have hm := pieN_pos n
    have hm2 : pieN n ≤ 65537 := by unfold pieN; split <;> omega
    obtain ⟨v, k3, hown⟩ := h2.box
    obtain ⟨gs, cap, rfl, hgs, hgsl⟩ := hown.form (by omega)
    have hcap : 9 * pieN n ≤ cap := by
      rcases hown.2 with ⟨h, _⟩ | ⟨g', cap', cur, h, _, _, hc, _⟩
      · cases h
      · cases h; exact hc
    have b0 := k3.cell 0
    simp only [List.getElem?_toArray, List.getElem?_cons_zero] at b0
    have hcl : ∀ j, j < 9 * pieN n → W.cell? ⟨gs, j, none⟩ = some (.int .u8 (pkB s n (j / 9) (j % 9) : Nat)) := fun j hj => by
      rw [hown.cellAt j (by omega)]
      exact pkL_at s n _ j hj
    have hL := hcl (9 * pieN n - 9) (by omega)
    rw [show (9 * pieN n - 9) % 9 = 0 by omega] at hL
    have hev := (pkB_head s n ((9 * pieN n - 9) / 9)).1
    have hlt0 := pkB_lt s n ((9 * pieN n - 9) / 9) 0
    have hor := or_one ⟨_, hlt0⟩ hev
    have hfr : W.frozen? ⟨gs, 9 * pieN n - 9, none⟩ = false := hown.frozenAt _
    have e1 : ((9 * pieN n : Nat) : Int) - 9 = ((9 * pieN n - 9 : Nat) : Int) := by omega
    have e2 : 9 * pieN n - 9 < 9 * pieN n := by omega
    have hne : gs ≠ B3 := by
      intro e
      have := own_apart hown k3 (by decide)
      simp [Value.ownBlock, e] at this
    have hGL : pkG s n (9 * pieN n - 9) = pkB s n ((9 * pieN n - 9) / 9) 0 + 1 := by
      unfold pkG
      rw [if_pos rfl, show (9 * pieN n - 9) % 9 = 0 by omega]
    have hGo : ∀ j, j ≠ 9 * pieN n - 9 → pkG s n j = pkB s n (j / 9) (j % 9) := fun j hj => by
      unfold pkG
      rw [if_neg hj]
      rfl
    have hGlt : ∀ j, pkG s n j < 256 := fun j => by
      by_cases h : j = 9 * pieN n - 9
      · rw [h, hGL]; omega
      · rw [hGo j h]; exact pkB_lt _ _ _ _
    simp only at hor
    rw [← hGL] at hor
    generalize hh0 : pkB s n ((9 * pieN n - 9) / 9) 0 = h0 at *
    have hLv : pkG s n (9 * pieN n - 9) = pkG s n (9 * pieN n - 9) := rfl
    generalize hgl : pkG s n (9 * pieN n - 9) = gl at *
    have hbel := h2.bel
    clear h2 hD3 hI3 hxs hI hab hev hlt0
    have k13 := k3.away (p := ⟨gs, 9 * pieN n - 9, none⟩) (Ne.symm hne) (.int .u8 (gl : Nat))
    have b13 := k13.cell 0
    simp only [List.getElem?_toArray, List.getElem?_cons_zero] at b13
    have hk13 := (KeepsOthers.setCell W ⟨gs, 9 * pieN n - 9, none⟩ (.int .u8 (gl : Nat))).same _ _ hK rfl
    have hrow : Row (W.setCell ⟨gs, 9 * pieN n - 9, none⟩ (.int .u8 (gl : Nat))) (some ⟨gs, 0, none⟩) (9 * pieN n) (pkG s n) := by
      refine ⟨fun j _ => hGlt j, .inr ⟨gs, 0, rfl, by rw [World.size_setCell]; exact hgsl, fun j hj => ?_⟩⟩
      rw [Nat.zero_add]
      by_cases h : j = 9 * pieN n - 9
      · rw [h, hgl]
        exact World.cell?_setCell_same _ _ _ hL
      · rw [hGo j h]
        exact (World.cell?_setCell_other W ⟨gs, 9 * pieN n - 9, none⟩ ⟨gs, j, none⟩ _ (fun e => h (by injection e with _ e; exact e.symm))).trans (hcl j hj)
    have hbel13 := hbel.setCell (p := ⟨gs, 9 * pieN n - 9, none⟩) hgs (.int .u8 (gl : Nat))
    generalize hW13 : W.setCell ⟨gs, 9 * pieN n - 9, none⟩ (.int .u8 (gl : Nat)) = W13 at *
    have hDl : ∃ o : Obj, W13.heap[D]? = some o ∧ o.isCells = false := ⟨_, hk13, rfl⟩
    have hgp := grownBy_putObj' W13 D (.deferred none)
    have hBf := hbel13.trans (grown_below hgp hbel13.size (fun r e => by cases e; omega))
    have hRf : Row (W13.putObj D (.deferred none)) (some ⟨gs, 0, none⟩) (9 * pieN n) (pkG s n) := by
      obtain ⟨h0', h | ⟨b', o', e, hlt, hc⟩⟩ := hrow
      · exact absurd h (by omega)
      · cases e
        have hne2 : gs ≠ D := by
          intro e
          obtain ⟨ob, ho, hno⟩ := hDl
          have := hc 0 (by omega)
          rw [e] at this
          unfold World.cell? at this
          simp only [ho] at this
          cases ob <;> simp_all [Obj.isCells]
        have hb : (W13.putObj D (.deferred none)).heap[gs]? = W13.heap[gs]? := World.putObj_heap_other hne2
        exact ⟨h0', .inr ⟨gs, 0, rfl, Nat.lt_of_lt_of_le hlt hgp.size, fun j hj => (cell_of_blk hb _).trans (hc j hj)⟩⟩
    have hf := Lib.hid (And.intro hRf (And.intro hcap hBf))
    replace hk13 := Lib.hid hk13
    replace hW13 := Lib.hid hW13
    clear hrow hbel13 hRf hBf hgp hDl hcl hGo hGlt hbel k13 hgl hGL hh0 hLv hK k3 hown
    have hw : wrap64 ((9 * pieN n - 9 : Nat) : Int) = ((9 * pieN n - 9 : Nat) : Int) := by simp only [wrap64]; omega
    generalize 9 * pieN n - 9 = L at *
    generalize hN : 9 * pieN n = N at *
    replace hN := Lib.hid hN
    gi_wp2_with fail
    rw [hW13.out]
    exact ⟨by simp, .inl ⟨_, _, rfl, run_takeDeferred hk13.out, _, by simp [results, Try.f22, go_sem]; rfl, gs, cap, by rw [hN.out], by rw [hN.out]; exact hf.out.1, by rw [hN.out]; exact hf.out.2.1, hf.out.2.2⟩⟩
  case body =>
    rintro l pre x W ⟨h1, h2⟩ ⟨hx1, hx2⟩
    obtain ⟨j0, hj0, hz0, hz1, hz2⟩ := info_parts info5
    obtain ⟨v, k3, hown⟩ := h1.box
    have hpq := pkS_smp s n pre.length
    have HN := nearestBlock_any W (some ⟨x, 0, none⟩) 16 (pieF s n pre.length) _ _ hx2 (fun j => pieF_smp hs n _ j) hpq.1 hpq.2
    obtain ⟨F, M, hAD⟩ := attD_past (pieF s n pre.length) (pkS s n pre.length).1 (pkS s n pre.length).2 (topF (pieF s n pre.length) (pkS s n pre.length).1 (pkS s n pre.length).2 51) (by have := topF_le (pieF s n pre.length) (pkS s n pre.length).1 (pkS s n pre.length).2 51; omega)
    rw [hAD] at HN
    have hE : bytD (pieF s n pre.length) (pkS s n pre.length).1 (pkS s n pre.length).2 (topF (pieF s n pre.length) (pkS s n pre.length).1 (pkS s n pre.length).2 51) = pkB s n pre.length := rfl
    rw [hE] at HN
    have hE2 : stB (pkB s n pre.length) (pkS s n pre.length).1 (pkS s n pre.length).2 16 = pkS s n (pre.length + 1) := rfl
    rw [hE2] at HN
    have hgl := pkB_lt s n pre.length
    have hnl : pkL s n pre.length ++ nine (pkB s n pre.length) = pkL s n (pre.length + 1) := rfl
    have p0 := h1.pq.cell 0
    have p1 := h1.pq.cell 1
    simp only [List.getElem?_toArray, List.getElem?_cons_zero, List.getElem?_cons_succ] at p0 p1
    have hlen : (pre ++ [x]).length = pre.length + 1 := by simp
    have hpb : 9 * pre.length + 9 ≤ 33554432 := by
      have : pieN n ≤ 65537 := by unfold pieN; split <;> omega
      omega
    have hh := Lib.hid (And.intro k3 (And.intro h1.pq (And.intro h1.bel (And.intro h2 hown))))
    replace HN := Lib.hid HN
    replace hlen := Lib.hid hlen
    clear h1 h2 hown k3 hpq hAD hE hE2 hx1 hx2 hX hI3 hD3
    generalize hkE : pre.length = k at *
    replace hkE := Lib.hid hkE
    generalize hPe : (pkS s n (k + 1)).1 = P' at *
    generalize hQe : (pkS s n (k + 1)).2 = Q' at *
    generalize (pkS s n k).1 = P at *
    generalize (pkS s n k).2 = Q at *
    generalize pkB s n k = g at *
    unfold ownPostK
    gi_wp2_with fail
    refine ⟨trivial, (CallsIn.inRound l (callsIn_wide.2 HN.out)).mono ?_⟩
    rintro e W5 ⟨rfl, hB5⟩
    have cV : attA F M P' Q' g = #[.int .i64 F, .int .i64 M, .int .i64 P', .int .i64 Q', .int .u8 (g 0 : Nat), .int .u8 (g 1 : Nat), .int .u8 (g 2 : Nat), .int .u8 (g 3 : Nat), .int .u8 (g 4 : Nat), .int .u8 (g 5 : Nat), .int .u8 (g 6 : Nat), .int .u8 (g 7 : Nat), .int .u8 (g 8 : Nat)] := rfl
    have hA6 := Whole.fresh W5 69 (attA F M P' Q' g)
    have hB6 := hB5.alloc hB5.size (.cells (attA F M P' Q' g) 69)
    have hAl := hA6.lt
    rw [cV]
    have hB5s := hB5.size
    clear HN p0 p1 hB5
    generalize hW6 : W5.alloc (.cells (attA F M P' Q' g) 69) = W6 at *
    rw [cV] at hW6
    replace hW6 := Lib.hid hW6
    replace hA6 := Lib.hid hA6
    replace hB6 := Lib.hid hB6
    replace cV := Lib.hid cV
    gi_wp2_with fail
    rw [hW6.out]
    generalize W5.heap.size = A at *
    obtain ⟨k3, hpq, hbel, hXX, hown⟩ := hh.out
    have k36 := k3.below hB6.out k3.lt
    have pq6 := hpq.below hB6.out hpq.lt
    have hX6 := hXX.below hB6.out hXX.lt
    have hXl := hXX.lt
    have h4l := hpq.lt
    have hbel6 := hbel.trans (hB6.out.mono hbel.size)
    have own6 : W6.drew.ownsRow w.heap.size 5 1 v (9 * k) (pkL s n k) := hown.kept (w' := W6) (row := none) ⟨hB6.out.os, hB6.out.tape, hB6.out.output, hB6.out.size, fun k hk _ => hB6.out.block k hk⟩ (by cases hv : v.ownBlock <;> simp)
    have hnews : ∀ j u, (nine g)[j]? = some u → W6.drew.cell? ((⟨A, 4, none⟩ : Addr).add j) = some u := row_news (n := 9) (g := fun j => g j) (ad := ⟨A, 4, none⟩) (w := W6.drew) ⟨fun j _ => hgl j, .inr ⟨A, 4, rfl, hAl, fun j hj => (hA6.out.cell (4 + j)).trans (attA_at F M P' Q' g j hj)⟩⟩
    obtain ⟨v', w9, hr, hown9, hgrow, _⟩ := run_append_own (P := Try.prog) (w := W6.drew) w.heap.size 22 22 5 j0 _ 1 1 Try.underlying22 hj0 hz0 hz1 hz2 rfl (by decide) v (9 * k) (pkL s n k) own6 ⟨A, 4, none⟩ 9 9 (nine g) (by simp [nine]) hnews (nine_one g) (by unfold maxLen; omega) (by omega) hbel6.size
    obtain ⟨gs, cap, rfl, hgs, hgsl⟩ := hown9.form (by omega)
    have y3 := k36.cell 0
    simp only [List.getElem?_toArray, List.getElem?_cons_zero] at y3
    have k39 := whole_grown (show Whole W6.drew B3 22 #[v] from k36) hgrow (own_apart own6 (show Whole W6.drew B3 22 #[v] from k36) (by decide))
    have pq9 := whole_grown (show Whole W6.drew (B3 + 1) 55 _ from pq6) hgrow (own_apart own6 (show Whole W6.drew (B3 + 1) 55 _ from pq6) (by decide))
    have hX9 := whole_grown (show Whole W6.drew X 27 _ from hX6) hgrow (own_apart own6 (show Whole W6.drew X 27 _ from hX6) (by decide))
    have hA9 := whole_grown (show Whole W6.drew A 69 _ from hA6.out) hgrow (own_apart own6 (show Whole W6.drew A 69 _ from hA6.out) (by decide))
    have hbel9 := (show Below w.heap.size w W6.drew from hbel6.drew).trans (grown_below hgrow hbel6.size (own_le own6))
    have hk9 : KeepsOthers W w9 := (show KeepsOthers W W6.drew from ⟨hB6.out.size, fun i o' hi _ => (hB6.out.block i (Array.getElem?_eq_some_iff.1 hi).1).trans hi⟩).trans ⟨hgrow.size, fun i o' hi ho => (hgrow.block i (Array.getElem?_eq_some_iff.1 hi).1 (fun e => by
      obtain ⟨cs, f, ho2⟩ := own_type own6 e.symm
      have := hi.symm.trans ho2
      simp only [Option.some.injEq] at this
      subst this
      simp [Obj.isCells] at ho)).trans hi⟩
    have hne3 := own_apart hown9 k39 (by decide)
    have hne4 := own_apart hown9 pq9 (by decide)
    have e3 : B3 ≠ B3 + 1 := by omega
    have e3X : X ≠ B3 := by omega
    have e4X : X ≠ B3 + 1 := by omega
    have e3A : A ≠ B3 := by omega
    have hB4l : w.heap.size ≤ B3 + 1 := by omega
    have hB3l : w.heap.size ≤ B3 := by omega
    have hA10 := hA9.away (p := ⟨B3, 0, none⟩) e3A (.slice (some ⟨gs, 0, none⟩) (9 * k + 9) cap)
    have pq10 := pq9.away (p := ⟨B3, 0, none⟩) (Ne.symm e3) (.slice (some ⟨gs, 0, none⟩) (9 * k + 9) cap)
    have r3 := (((k39.put 0 (.slice (some ⟨gs, 0, none⟩) (9 * k + 9) cap)).away (p := ⟨B3 + 1, 0, none⟩) e3 (.int .i64 P')).away (p := ⟨B3 + 1, 1, none⟩) e3 (.int .i64 Q')).as (ds := #[.slice (some ⟨gs, 0, none⟩) (9 * k + 9) cap]) rfl
    have r4 := ((pq10.put 0 (.int .i64 P')).put 1 (.int .i64 Q')).as (ds := #[.int .i64 P', .int .i64 Q']) rfl
    have rx := ((hX9.away (p := ⟨B3, 0, none⟩) e3X (.slice (some ⟨gs, 0, none⟩) (9 * k + 9) cap)).away (p := ⟨B3 + 1, 0, none⟩) e4X (.int .i64 P')).away (p := ⟨B3 + 1, 1, none⟩) e4X (.int .i64 Q')
    have g1 := only_set (Below.only (Below.refl w9.heap.size w9) B3) 0 (.slice (some ⟨gs, 0, none⟩) (9 * k + 9) cap)
    have ro1 := hown9.kept g1 (.inr hne3)
    have g2 := only_set (only_set (Below.only (Below.refl (w9.setCell ⟨B3, 0, none⟩ (.slice (some ⟨gs, 0, none⟩) (9 * k + 9) cap)).heap.size (w9.setCell ⟨B3, 0, none⟩ (.slice (some ⟨gs, 0, none⟩) (9 * k + 9) cap))) (B3 + 1)) 0 (.int .i64 P')) 1 (.int .i64 Q')
    have ro := ro1.kept g2 (.inr hne4)
    have rb := ((hbel9.setCell (p := ⟨B3, 0, none⟩) hB3l (.slice (some ⟨gs, 0, none⟩) (9 * k + 9) cap)).setCell (p := ⟨B3 + 1, 0, none⟩) hB4l (.int .i64 P')).setCell (p := ⟨B3 + 1, 1, none⟩) hB4l (.int .i64 Q')
    have rk := ((hk9.trans (KeepsOthers.setCell w9 ⟨B3, 0, none⟩ (.slice (some ⟨gs, 0, none⟩) (9 * k + 9) cap))).trans (KeepsOthers.setCell _ ⟨B3 + 1, 0, none⟩ (.int .i64 P'))).trans (KeepsOthers.setCell _ ⟨B3 + 1, 1, none⟩ (.int .i64 Q'))
    have c9 := k39.cell 0
    have f9 := k39.free 0
    have a2 := hA10.cell 2
    have a3 := hA10.cell 3
    have c0 := pq10.cell 0
    have c1 := pq10.cell 1
    have f4 := pq10.free
    rw [cV.out] at a2 a3
    simp only [List.getElem?_toArray, List.getElem?_cons_zero, List.getElem?_cons_succ] at c9 a2 a3 c0 c1
    generalize hW10 : w9.setCell ⟨B3, 0, none⟩ (.slice (some ⟨gs, 0, none⟩) (9 * k + 9) cap) = W10 at *
    generalize hW12 : (W10.setCell ⟨B3 + 1, 0, none⟩ (.int .i64 P')).setCell ⟨B3 + 1, 1, none⟩ (.int .i64 Q') = W12 at *
    have rks : Ks n a X W W12 := ⟨fun cs t f e => by
      have h9 := hXX.symm.trans e
      rw [← h9]
      exact rx, fun hn0 p hp cs t f e => by
      have hb : p.block < w.heap.size := by
        rcases hab p with h | h
        · exact absurd h hn0
        · have := h hp; omega
      exact (rb.block p.block hb).trans ((hbel.block p.block hb).symm.trans e)⟩
    rw [hnl] at ro
    have hdc : Dp w s n B3 (B3 + 1) (k + 1) W12 := ⟨⟨_, r3, ro⟩, by rw [hPe, hQe]; exact r4, rb⟩
    have hfin := Lib.hid (And.intro rk (And.intro rks (And.intro hdc rx)))
    replace hW10 := Lib.hid hW10
    replace hW12 := Lib.hid hW12
    clear r3 r4 rx g1 g2 ro1 ro rb rk rks hdc hA9 pq9 hX9 hbel9 hk9 hne3 hne4 k39 pq10 hA10 k36 pq6 hX6 own6 hown hown9 hgrow hnews hbel6 k3 hpq hbel hXX hh
    refine wpIn_region_held_round (fun _ => True) (by kernel_rfl) (by kernel_rfl) trivial (fun hHeld => ?_)
    refine wpAnyH_take (i := 1) (v := .pointer (some ⟨A, 4, none⟩)) rfl (by kernel_rfl) (by kernel_rfl) (by kernel_rfl) (fun _ _ _ h => h) (Or.inl ⟨by rfl, ?_⟩) trivial ?_
    · intro V hSw
      first | (go_simp; done) | (go_simp; with_reducible rfl)
    try simp only [Act.put, List.setIfInBounds_toArray, List.set_cons_zero, List.set_cons_succ]
    refine wpAnyH_take (i := 2) (v := .slice (some ⟨A, 4, none⟩) 9 9) rfl (by kernel_rfl) (by kernel_rfl) (by kernel_rfl) (fun _ _ _ h => h) (Or.inl ⟨by rfl, ?_⟩) trivial ?_
    · intro V hSw
      first | (go_simp; done) | (go_simp; with_reducible rfl)
    try simp only [Act.put, List.setIfInBounds_toArray, List.set_cons_zero, List.set_cons_succ]
    refine wpAnyH_ready (rs := [0]) (by kernel_rfl) (by simp) ?_
    refine AllReadyH.cons rfl (fun K hK => ?_) AllReadyH.nil
    go_simp
    refine hK.out _ _ trivial (fun hHeld => ?_)
    clear hK K
    try simp only [Act.put, List.setIfInBounds_toArray, List.set_cons_zero, List.set_cons_succ]
    refine wpAnyH_ready (rs := [3]) (by kernel_rfl) (by simp) ?_
    refine AllReadyH.cons rfl (fun K hK => ?_) AllReadyH.nil
    refine step_append_ran rfl _ _ 22 (by rfl) _ _ _ (by rfl) (by rfl) hr ?_
    refine hK.out _ _ trivial (fun hHeld => ?_)
    clear hK K
    try simp only [Act.put, List.setIfInBounds_toArray, List.set_cons_zero, List.set_cons_succ]
    refine wpAnyH_ready (rs := [4]) (by kernel_rfl) (by simp) ?_
    refine AllReadyH.cons rfl (fun K hK => ?_) AllReadyH.nil
    go_simp
    refine hK.out _ _ trivial (fun hHeld => ?_)
    clear hK K
    try simp only [Act.put, List.setIfInBounds_toArray, List.set_cons_zero, List.set_cons_succ]
    refine wpAnyH_done (by kernel_rfl) ?_ _
    simp only [OnlyN]
    rw [hW10.out]
    clear c9 f9 y3 hr
    gi_wp2_with fail
    rw [hW12.out]
    exact ⟨hfin.out.1, hfin.out.2.1, by rw [hkE.out]; exact hfin.out.2.2.1, hfin.out.2.2.2⟩
end Go.Proofs.Ytekjcgckniopdaa
