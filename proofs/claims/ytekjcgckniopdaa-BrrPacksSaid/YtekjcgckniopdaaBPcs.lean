/-
  Pieces of sixteen samples: what the code's iterator hands out.
-/
import Derived.Test.YtekjcgckniopdaaBRAm
import Derived.Laws.CopyOwn
namespace Go.Proofs.Ytekjcgckniopdaa
open Go.RowKit Go.Shelf Go.Sort
attribute [local go_sem] Oper.semAt_some
set_option maxRecDepth 100000
set_option maxHeartbeats 2000000
set_option linter.unusedVariables false
set_option linter.unusedSimpArgs false

/-- The i-th piece: noughts behind the samples. -/
def pieF (s : Nat → Int) (n i : Nat) (j : Nat) : Int := if 16 * i + j < n then s (16 * i + j) else 0
/-- How many pieces there are: one at least. -/
def pieN (n : Nat) : Nat := if n = 0 then 1 else (n + 15) / 16
theorem pieN_pos (n : Nat) : 0 < pieN n := by unfold pieN; split <;> omega
theorem pieN_lt {n i : Nat} : (i = 0 ∨ 16 * i < n) ↔ i < pieN n := by
  unfold pieN
  split <;> omega
theorem pieF_smp {s : Nat → Int} (hs : ∀ i, Smp (s i)) (n i j : Nat) : Smp (pieF s n i j) := by
  unfold pieF
  split
  · exact hs _
  · exact smp0
def encP (G : Nat) : Array Value := #[.slice (some ⟨G, 0, none⟩) 16 16]
def zer : List Value := [.int .i16 0, .int .i16 0, .int .i16 0, .int .i16 0, .int .i16 0, .int .i16 0, .int .i16 0, .int .i16 0, .int .i16 0, .int .i16 0, .int .i16 0, .int .i16 0, .int .i16 0, .int .i16 0, .int .i16 0, .int .i16 0]
theorem zer_at (j : Nat) (hj : j < 16) : zer[j]? = some (.int .i16 0) := by
  rcases (show j = 0 ∨ j = 1 ∨ j = 2 ∨ j = 3 ∨ j = 4 ∨ j = 5 ∨ j = 6 ∨ j = 7 ∨ j = 8 ∨ j = 9 ∨ j = 10 ∨ j = 11 ∨ j = 12 ∨ j = 13 ∨ j = 14 ∨ j = 15 by omega) with rfl | rfl | rfl | rfl | rfl | rfl | rfl | rfl | rfl | rfl | rfl | rfl | rfl | rfl | rfl | rfl <;> rfl
/-- What is copied into a piece. -/
def cpy (s : Nat → Int) (n y : Nat) : List Value := (List.range (Nat.min (n - y) 16)).map fun j => .int .i16 (s (y + j))
theorem cpy_length (s : Nat → Int) (n y : Nat) : (cpy s n y).length = Nat.min (n - y) 16 := by simp [cpy]
theorem cpy_le (s : Nat → Int) (n y : Nat) : (cpy s n y).length ≤ 16 := by rw [cpy_length]; exact Nat.min_le_right _ _
theorem cpy_one (s : Nat → Int) (n y : Nat) : ∀ v ∈ cpy s n y, v.oneCell' = true := by
  intro u hu
  unfold cpy at hu
  rw [List.mem_map] at hu
  obtain ⟨i, _, rfl⟩ := hu
  rfl
theorem cpy_at (s : Nat → Int) (n y j : Nat) (v : Value) (h : (cpy s n y)[j]? = some v) : y + j < n ∧ v = .int .i16 (s (y + j)) := by
  unfold cpy at h
  rw [List.getElem?_map] at h
  have hj : j < Nat.min (n - y) 16 := by
    rcases Nat.lt_or_ge j (Nat.min (n - y) 16) with h' | h'
    · exact h'
    · rw [List.getElem?_eq_none (by simpa using h')] at h
      cases h
  rw [List.getElem?_range hj] at h
  simp only [Option.map_some, Option.some.injEq] at h
  have := Nat.lt_of_lt_of_le hj (Nat.min_le_left _ _)
  exact ⟨by omega, h.symm⟩
theorem pie_at (s : Nat → Int) (n i j : Nat) (hj : j < 16) : (splice zer 0 (cpy s n (16 * i)))[j]? = some (.int .i16 (pieF s n i j)) := by
  unfold splice pieF
  have hl := cpy_length s n (16 * i)
  have hmin : Nat.min (n - 16 * i) 16 = if n - 16 * i ≤ 16 then n - 16 * i else 16 := Nat.min_def
  rw [List.take_zero, List.nil_append]
  by_cases h : 16 * i + j < n
  · have hjl : j < (cpy s n (16 * i)).length := by rw [hl, hmin]; split <;> omega
    rw [if_pos h, List.getElem?_append_left hjl]
    unfold cpy
    rw [List.getElem?_map, List.getElem?_range (by rw [← hl]; exact hjl)]
    rfl
  · have hjl : (cpy s n (16 * i)).length ≤ j := by rw [hl, hmin]; split <;> omega
    rw [if_neg h, List.getElem?_append_right hjl, List.getElem?_drop]
    exact zer_at _ (by omega)
theorem cpy_src {V : World} {a : Option Addr} {n : Nat} {s : Nat → Int} (y : Nat) (hI : IRow V a n s) (h : 0 < (cpy s n y).length) : ∃ b o, a = some ⟨b, o, none⟩ ∧ ∀ j v, (cpy s n y)[j]? = some v → V.cell? ((⟨b, o + y, none⟩ : Addr).add j) = some v := by
  have hn : n ≠ 0 := by
    intro e
    have h0 : (cpy s n y)[0]? = some ((cpy s n y)[0]) := List.getElem?_eq_getElem h
    have := (cpy_at s n y 0 _ h0).1
    omega
  rcases hI with h0 | ⟨b, o, rfl, hlt, hc⟩
  · exact absurd h0 hn
  · refine ⟨b, o, rfl, fun j v hv => ?_⟩
    obtain ⟨h1, rfl⟩ := cpy_at s n y j v hv
    rw [Addr.add_lit, show o + y + j = o + (y + j) by omega]
    exact hc _ h1
/-- The box and the samples stay as they are. -/
def Ks (n : Nat) (a : Option Addr) (X : Nat) (A B : World) : Prop := Kx X A B ∧ (n ≠ 0 → ∀ p, a = some p → Kx p.block A B)
theorem Ks.trans {n : Nat} {a : Option Addr} {X : Nat} {A B C : World} (h : Ks n a X A B) (k : Ks n a X B C) : Ks n a X A C := ⟨h.1.trans k.1, fun hn p hp => (h.2 hn p hp).trans (k.2 hn p hp)⟩
theorem ks_put {n : Nat} {a : Option Addr} {X : Nat} (W : World) (l : Nat) (o o' : Obj) (h : W.heap[l]? = some o) (ho : o.isCells = false) : Ks n a X W (W.putObj l o') := ⟨kx_put W l o o' h ho, fun _ p _ => kx_put W l o o' h ho⟩
theorem irow_kx {W W' : World} {a : Option Addr} {n : Nat} {f : Nat → Int} (h : IRow W a n f) (hk : n ≠ 0 → ∀ p, a = some p → Kx p.block W W') : IRow W' a n f := by
  rcases h with h | ⟨b, o, rfl, hlt, hc⟩
  · exact .inl h
  · by_cases hn : n = 0
    · exact .inl hn
    · have h0 := hc 0 (by omega)
      have hb : ∃ cs t f, W.heap[b]? = some (.cells cs t f) := by
        unfold World.cell? at h0
        cases ho : W.heap[b]? with
        | none => simp [ho] at h0
        | some ob => cases ob <;> simp_all
      obtain ⟨cs, t, fz, hb⟩ := hb
      have hb' := hk hn ⟨b, o, none⟩ rfl cs t fz hb
      exact .inr ⟨b, o, rfl, (Array.getElem?_eq_some_iff.1 hb').1, fun i hi => (cell_of_blk (hb'.trans hb.symm) (o + i)).trans (hc i hi)⟩
theorem pieces_any (w : World) (n c : Nat) (a : Option Addr) : Calls Try.prog 35 #[.slice a n c] w fun e w' => e = .returned (.func (.func 45) #[] #[.pointer (some ⟨w.heap.size, 0, none⟩)]) ∧ w' = w.alloc (.cells #[.slice a n c] 27) := by
  go_enter Try.func35, Try.ntmps35
  go_wp2_with fail
  go_ret
  exact ⟨rfl, rfl⟩
theorem pieces_stops {X n c : Nat} {a : Option Addr} {s : Nat → Int} (w : World) (h : Whole w X 27 #[.slice a n c]) (hI : IRow w a n s) (hn : n ≤ 1048576) (hnc : n ≤ c) (d : Nat) (hd : 1 ≤ d) :
    SeqV Fence.wide d 45 #[.pointer (some ⟨X, 0, none⟩)] encP (fun pre G V => pre.length < pieN n ∧ IRow V (some ⟨G, 0, none⟩) 16 (pieF s n pre.length)) (Ks n a X) (fun xs => xs.length = pieN n) (fun pre => pre.length ≤ pieN n) w := by
  intro lo J Jx W hW hJ hJx hY h0
  have hX := h.below hW h.lt
  replace hY := Lib.hid hY
  have hIW := Lib.hid (hI.below hW)
  clear h hW hI
  refine callsIn_of_wp Try.func45 rfl trivial ?_ rfl
  simp only [Try.ntmps45, List.size_toArray, List.length_cons, List.length_nil, Nat.reduceAdd, Nat.reduceSub, Array.replicate_succ, Array.replicate_zero, List.push_toArray, List.append_toArray, List.nil_append, List.cons_append]
  gi_wp2_with fail
  gi_loopw [3] (fun s3 wr => ∃ pre : List Nat, pre.length ≤ pieN n ∧ s3 = .int .i64 ((16 * pre.length : Nat) : Int) ∧ J pre wr ∧ Whole wr X 27 #[.slice a n c] ∧ IRow wr a n s) (fun s3 _ => n + 16 - (intOf s3).toNat)
  case atStart => exact ⟨[], Nat.zero_le _, rfl, h0, hX, hIW.out⟩
  case round =>
    obtain ⟨pre, hp, rfl, hJi, hXi, hIi⟩ := hrel
    clear h0 hX
    have x0 := hXi.cell 0
    simp only [List.getElem?_toArray, List.getElem?_cons_zero] at x0
    generalize hi : pre.length = i at *
    by_cases hlt : i < pieN n
    · have ht := pieN_lt.2 hlt
      by_cases hi0 : i = 0
      · subst hi0
        rw [Nat.mul_zero]
        gi_wp2_with fail
        have hG := Whole.fresh wr 84 zer.toArray
        have hBG := (Below.refl wr.heap.size wr).alloc (Nat.le_refl _) (.cells zer.toArray 84)
        have hGs := alloc_size wr (.cells zer.toArray 84)
        have hXG := hXi.alloc (.cells zer.toArray 84)
        have x1 := hXG.cell 0
        simp only [List.getElem?_toArray, List.getElem?_cons_zero] at x1
        have hIG := Lib.hid (hIi.below hBG)
        have hIr := Lib.hid hIi
        have hXr := Lib.hid hXi
        have hXlt := hXi.lt
        replace hXG := Lib.hid hXG
        unfold zer at hG hBG hGs hXG hIG x1
        clear hXi hIi
        generalize wr.alloc (.cells _ 84) = V1 at *
        generalize hGe : wr.heap.size = G at *
        refine wpIn_wide.2 ?_
        refine wp_region_held_drew (S := fun V => V.cell? ⟨X, 0, none⟩ = some (.slice a n c)) (by kernel_rfl) x1 (fun hHeld => ?_)
        refine wpAnyH_take (i := 0) (v := .slice (some ⟨G, 0, none⟩) 16 16) rfl (by kernel_rfl) (by kernel_rfl) (by kernel_rfl) (fun _ _ _ h => h) (Or.inl ⟨by rfl, ?_⟩) (by assumption) ?_
        · intro V hSw
          first | (go_simp; done) | (go_simp; with_reducible rfl) | (go_simp; intro h; exact absurd h (Nat.ne_of_gt y3))
        try simp only [Act.put, List.setIfInBounds_toArray, List.set_cons_zero, List.set_cons_succ]
        refine wpAnyH_take (i := 1) (v := .slice a n c) rfl (by kernel_rfl) (by kernel_rfl) (by kernel_rfl) (fun _ _ _ h => h) (Or.inl ⟨by rfl, ?_⟩) (by assumption) ?_
        · intro V hSw
          first | (go_simp; done) | (go_simp; with_reducible rfl) | (go_simp; intro h; exact absurd h (Nat.ne_of_gt y3))
        try simp only [Act.put, List.setIfInBounds_toArray, List.set_cons_zero, List.set_cons_succ]
        refine wpAnyH_take (i := 2) (v := .int .i64 (0)) rfl (by kernel_rfl) (by kernel_rfl) (by kernel_rfl) (fun _ _ _ h => h) (Or.inl ⟨by rfl, ?_⟩) (by assumption) ?_
        · intro V hSw
          first | (go_simp; done) | (go_simp; with_reducible rfl) | (go_simp; intro h; exact absurd h (Nat.ne_of_gt y3))
        try simp only [Act.put, List.setIfInBounds_toArray, List.set_cons_zero, List.set_cons_succ]
        refine wpAnyH_take (i := 3) (v := .slice a n c) rfl (by kernel_rfl) (by kernel_rfl) (by kernel_rfl) (fun _ _ _ h => h) (Or.inl ⟨by rfl, ?_⟩) (by assumption) ?_
        · intro V hSw
          first | (go_simp; done) | (go_simp; with_reducible rfl) | (go_simp; intro h; exact absurd h (Nat.ne_of_gt y3))
        try simp only [Act.put, List.setIfInBounds_toArray, List.set_cons_zero, List.set_cons_succ]
        refine wpAnyH_ready (rs := [4]) (by kernel_rfl) (by simp) ?_
        refine AllReadyH.cons rfl (fun K hK => ?_) AllReadyH.nil
        refine step_copy_splice rfl _ _ 27 27 rfl 23 Try.underlying27 (by kernel_rfl) (some ⟨G, 0, none⟩) (a) 16 16 (n) (c) rfl rfl G 0 zer 84 hG (cpy s n 0) (cpy_length s n _) (fun h => ?_) ?_ (cpy_one s n _) G wr hBG.drew (Nat.le_refl _) ?_
        · obtain ⟨b', o', e, hs⟩ := cpy_src 0 hIG.out h
          first | (cases e; exact ⟨rfl, _, rfl, hs⟩) | (subst e; exact ⟨rfl, _, rfl, hs⟩)
        · have := cpy_le s n 0
          show 0 + _ ≤ 16
          omega
        intro w' hw' hbw
        have hXw := hXr.out.below hbw hXlt
        have s1 := hXw.cell 0
        simp only [List.getElem?_toArray, List.getElem?_cons_zero] at s1
        have hIw := hIr.out.below (hGe ▸ hbw)
        refine hK.out _ _ s1 (fun hHeld => ?_)
        clear hK K
        try simp only [Act.put, List.setIfInBounds_toArray, List.set_cons_zero, List.set_cons_succ]
        refine wpAnyH_done (by kernel_rfl) ?_ _
        have hgr : wr.grownBy w' none := ⟨hbw.os, hbw.tape, hbw.output, hbw.size, fun k hk _ => hbw.block k (hGe ▸ hk)⟩
        have hJw := hJ pre wr w' none hJi hgr (fun r e => by cases e)
        have hWw : Whole w' G 84 (splice zer 0 (cpy s n 0)).toArray := hw'.out
        have hPw : IRow w' (some ⟨G, 0, none⟩) 16 (pieF s n pre.length) := .inr ⟨G, 0, rfl, hWw.lt, fun j hj => by
          rw [Nat.zero_add]
          refine (hWw.cell j).trans ?_
          rw [List.getElem?_toArray, hi]
          exact pie_at s n 0 j hj⟩
        have hyi := hY.out pre G w' hJw ⟨by rw [hi]; exact hlt, hPw⟩
        obtain ⟨fn, tmps, assign, body, hy, hR⟩ := hyi
        simp only [encP] at hy
        replace hR := Lib.hid hR
        replace hJw := Lib.hid hJw
        replace hXw := Lib.hid hXw
        replace hIw := Lib.hid hIw
        clear hw' hbw hHeld hgr hWw hPw hJi s1 hG hBG hGs hIG hIr hXG hXr x0 x1
        gi_wp2_with fail
        refine hR.out.mono ?_
        rintro e W3 (⟨rfl, hJ3, hk3⟩ | ⟨rfl, hJx3⟩)
        · have hX3 := Lib.hid (hk3.1 _ _ _ hXw.out)
          have hI3 := Lib.hid (irow_kx hIw.out hk3.2)
          clear hR hy hk3
          gi_wp2
          go_roundw
          case rel => exact ⟨pre ++ [G], by rw [List.length_append, hi]; exact hlt, by rw [List.length_append, hi]; rfl, hJ3, hX3.out, hI3.out⟩
          case measure => simp [intOf]
        · clear hR hy
          gi_wp2
          refine bodyPost_ret (results_none rfl _ _ _) rfl ?_
          exact ⟨⟨_, rfl⟩, .inr ⟨pre ++ [G], by rw [List.length_append, hi]; exact hlt, hJx3⟩⟩
      · have hyn : 16 * i < n := by omega
        obtain ⟨b, o, rfl, hbl, hbc⟩ : ∃ b o, a = some ⟨b, o, none⟩ ∧ b < wr.heap.size ∧ ∀ j, j < n → wr.cell? ⟨b, o + j, none⟩ = some (.int .i16 (s j)) := by
          rcases hIi with h | h
          · omega
          · exact h
        have t6 : (((16 * i : Nat) : Int) == 0) = false := beq_eq_false_iff_ne.2 (by omega)
        have y0 : (0 : Int) ≤ ((16 * i : Nat) : Int) := by omega
        have y1 : ((16 * i : Nat) : Int) ≤ (n : Int) := by omega
        have y2 : ((16 * i : Nat) : Int) < (n : Int) := by omega
        have y3 : 16 * i < c := by omega
        generalize hy : 16 * i = y at *
        have hy0 := Lib.hid hy
        clear hy
        gi_wp2_with fail
        have hG := Whole.fresh wr 84 zer.toArray
        have hBG := (Below.refl wr.heap.size wr).alloc (Nat.le_refl _) (.cells zer.toArray 84)
        have hGs := alloc_size wr (.cells zer.toArray 84)
        have hXG := hXi.alloc (.cells zer.toArray 84)
        have x1 := hXG.cell 0
        simp only [List.getElem?_toArray, List.getElem?_cons_zero] at x1
        have hIG := Lib.hid (hIi.below hBG)
        have hIr := Lib.hid hIi
        have hXr := Lib.hid hXi
        have hXlt := hXi.lt
        replace hXG := Lib.hid hXG
        unfold zer at hG hBG hGs hXG hIG x1
        clear hXi hIi
        generalize wr.alloc (.cells _ 84) = V1 at *
        generalize hGe : wr.heap.size = G at *
        refine wpIn_wide.2 ?_
        refine wp_region_held_drew (S := fun V => V.cell? ⟨X, 0, none⟩ = some (.slice (some ⟨b, o, none⟩) n c)) (by kernel_rfl) x1 (fun hHeld => ?_)
        refine wpAnyH_take (i := 0) (v := .slice (some ⟨G, 0, none⟩) 16 16) rfl (by kernel_rfl) (by kernel_rfl) (by kernel_rfl) (fun _ _ _ h => h) (Or.inl ⟨by rfl, ?_⟩) (by assumption) ?_
        · intro V hSw
          first | (go_simp; done) | (go_simp; with_reducible rfl) | (go_simp; intro h; exact absurd h (Nat.ne_of_gt y3))
        try simp only [Act.put, List.setIfInBounds_toArray, List.set_cons_zero, List.set_cons_succ]
        refine wpAnyH_take (i := 1) (v := .slice (some ⟨b, o, none⟩) n c) rfl (by kernel_rfl) (by kernel_rfl) (by kernel_rfl) (fun _ _ _ h => h) (Or.inl ⟨by rfl, ?_⟩) (by assumption) ?_
        · intro V hSw
          first | (go_simp; done) | (go_simp; with_reducible rfl) | (go_simp; intro h; exact absurd h (Nat.ne_of_gt y3))
        try simp only [Act.put, List.setIfInBounds_toArray, List.set_cons_zero, List.set_cons_succ]
        refine wpAnyH_take (i := 2) (v := .int .i64 (y : Int)) rfl (by kernel_rfl) (by kernel_rfl) (by kernel_rfl) (fun _ _ _ h => h) (Or.inl ⟨by rfl, ?_⟩) (by assumption) ?_
        · intro V hSw
          first | (go_simp; done) | (go_simp; with_reducible rfl) | (go_simp; intro h; exact absurd h (Nat.ne_of_gt y3))
        try simp only [Act.put, List.setIfInBounds_toArray, List.set_cons_zero, List.set_cons_succ]
        refine wpAnyH_take (i := 3) (v := .slice (some ⟨b, o + y, none⟩) (n - y) (c - y)) rfl (by kernel_rfl) (by kernel_rfl) (by kernel_rfl) (fun _ _ _ h => h) (Or.inl ⟨by rfl, ?_⟩) (by assumption) ?_
        · intro V hSw
          first | (go_simp; done) | (go_simp; with_reducible rfl) | (go_simp; intro h; exact absurd h (Nat.ne_of_gt y3))
        try simp only [Act.put, List.setIfInBounds_toArray, List.set_cons_zero, List.set_cons_succ]
        refine wpAnyH_ready (rs := [4]) (by kernel_rfl) (by simp) ?_
        refine AllReadyH.cons rfl (fun K hK => ?_) AllReadyH.nil
        refine step_copy_splice rfl _ _ 27 27 rfl 23 Try.underlying27 (by kernel_rfl) (some ⟨G, 0, none⟩) (some ⟨b, o + y, none⟩) 16 16 (n - y) (c - y) rfl rfl G 0 zer 84 hG (cpy s n y) (cpy_length s n _) (fun h => ?_) ?_ (cpy_one s n _) G wr hBG.drew (Nat.le_refl _) ?_
        · obtain ⟨b', o', e, hs⟩ := cpy_src y hIG.out h
          first | (cases e; exact ⟨rfl, _, rfl, hs⟩) | (subst e; exact ⟨rfl, _, rfl, hs⟩)
        · have := cpy_le s n y
          show 0 + _ ≤ 16
          omega
        intro w' hw' hbw
        have hXw := hXr.out.below hbw hXlt
        have s1 := hXw.cell 0
        simp only [List.getElem?_toArray, List.getElem?_cons_zero] at s1
        have hIw := hIr.out.below (hGe ▸ hbw)
        refine hK.out _ _ s1 (fun hHeld => ?_)
        clear hK K
        try simp only [Act.put, List.setIfInBounds_toArray, List.set_cons_zero, List.set_cons_succ]
        refine wpAnyH_done (by kernel_rfl) ?_ _
        have hgr : wr.grownBy w' none := ⟨hbw.os, hbw.tape, hbw.output, hbw.size, fun k hk _ => hbw.block k (hGe ▸ hk)⟩
        have hJw := hJ pre wr w' none hJi hgr (fun r e => by cases e)
        have hWw : Whole w' G 84 (splice zer 0 (cpy s n y)).toArray := hw'.out
        have hPw : IRow w' (some ⟨G, 0, none⟩) 16 (pieF s n pre.length) := .inr ⟨G, 0, rfl, hWw.lt, fun j hj => by
          rw [Nat.zero_add]
          refine (hWw.cell j).trans ?_
          rw [List.getElem?_toArray, hi]
          rw [← hy0.out]; exact pie_at s n i j hj⟩
        have hyi := hY.out pre G w' hJw ⟨by rw [hi]; exact hlt, hPw⟩
        obtain ⟨fn, tmps, assign, body, hyy, hR⟩ := hyi
        simp only [encP] at hyy
        replace hR := Lib.hid hR
        replace hJw := Lib.hid hJw
        replace hXw := Lib.hid hXw
        replace hIw := Lib.hid hIw
        clear hw' hbw hHeld hgr hWw hPw hJi s1 hG hBG hGs hIG hIr hXG hXr x0 x1
        gi_wp2_with fail
        refine hR.out.mono ?_
        rintro e W3 (⟨rfl, hJ3, hk3⟩ | ⟨rfl, hJx3⟩)
        · have hX3 := Lib.hid (hk3.1 _ _ _ hXw.out)
          have hI3 := Lib.hid (irow_kx hIw.out hk3.2)
          clear hR hyy hk3
          gi_wp2
          go_roundw
          case rel => exact ⟨pre ++ [G], by rw [List.length_append, hi]; exact hlt, by rw [List.length_append, hi]; rw [← hy0.out]; first | done | (show _ = Value.int .i64 ((16 * (i + 1) : Nat) : Int); first | done | rfl | (congr 1; first | done | omega)), hJ3, hX3.out, hI3.out⟩
          case measure => simp only [intOf]; omega
        · clear hR hyy
          gi_wp2
          refine bodyPost_ret (results_none rfl _ _ _) rfl ?_
          exact ⟨⟨_, rfl⟩, .inr ⟨pre ++ [G], by rw [List.length_append, hi]; exact hlt, hJx3⟩⟩
    · have ht : ¬ (i = 0 ∨ 16 * i < n) := fun h => hlt (pieN_lt.1 h)
      have t1 : (((16 * i : Nat) : Int) == 0) = false := beq_eq_false_iff_ne.2 (by omega)
      have t2 : ¬ (16 * i < n) := by omega
      have hpe : pre.length = pieN n := by omega
      replace hpe := Lib.hid hpe
      clear hXi ht hlt hp
      generalize 16 * i = y at *
      gi_wp2_with fail
      go_end0
      exact ⟨⟨_, rfl⟩, .inl ⟨pre, hpe.out, hJi⟩⟩
end Go.Proofs.Ytekjcgckniopdaa
