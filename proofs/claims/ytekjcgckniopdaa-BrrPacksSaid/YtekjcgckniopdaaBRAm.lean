/-
  All by the document: the loop.
-/
import Derived.Test.YtekjcgckniopdaaBRAl
namespace Go.Proofs.Ytekjcgckniopdaa
open Go.RowKit Go.Shelf Go.Sort
set_option maxRecDepth 100000
set_option maxHeartbeats 2000000
set_option linter.unusedVariables false
set_option linter.unusedSimpArgs false

theorem results_four {fn : Func} {t u v x : Tmp} (h : fn.results = #[.tmp t, .tmp u, .tmp v, .tmp x]) (tmps : Array Value) (P : Program) (w : World) :
    (results fn tmps).run P w = .ok (.tuple #[tmps.getD t undef, tmps.getD u undef, tmps.getD v undef, tmps.getD x undef]) w := by
  simp [results, h]
theorem own_mono {w : World} {B B' n sz : Nat} {e : TypeId} {v : Value} {xs : List Value} (h : w.ownsRow B e sz v n xs) (hB : B' ≤ B) : w.ownsRow B' e sz v n xs :=
  ⟨h.1, h.2.imp id (fun ⟨g, cap, cur, e, hb, r⟩ => ⟨g, cap, cur, e, Nat.le_trans hB hb, r⟩)⟩
theorem rall_any (w : World) (a : Option Addr) (n c : Nat) (g : Nat → Nat) (hR : Row w a n g) (hnc : n ≤ c) (hn : n ≤ 1048576) :
    Calls Try.prog 18 #[.slice a n c] w fun e w' => Below w.heap.size w w' ∧ AllP g n e w' := by
  obtain ⟨j0, hj0, hz0, hz1, hz2⟩ := info_parts info23
  have hab : ∃ b o, n = 0 ∨ (a = some ⟨b, o, none⟩ ∧ b < w.heap.size) := by
    obtain ⟨_, h | ⟨b, o, ha, hb, _⟩⟩ := hR
    · exact ⟨0, 0, .inl h⟩
    · exact ⟨b, o, .inr ⟨ha, hb⟩⟩
  obtain ⟨b, o, hab⟩ := hab
  have hRh := Lib.hid hR
  replace hab := Lib.hid hab
  clear hR
  go_enter Try.func18, Try.ntmps18
  go_wp2_with fail
  go_loopw [6, 7] (fun s6 s7 wr => ∃ i : Nat, i ≤ n / 9 ∧ s7 = .int .i64 ((9 * i : Nat) : Int) ∧ wr.ownsRow w.heap.size 23 1 s6 (16 * i) (allL g i) ∧ Below w.heap.size w wr ∧ NoEnd g i) (fun _ s7 _ => n - (intOf s7).toNat)
  case atStart => exact ⟨0, Nat.zero_le _, rfl, World.ownsRow_nil _ _ _ _, Below.refl _ _, fun i hi => absurd hi (Nat.not_lt_zero i)⟩
  case round =>
    obtain ⟨i, hi, rfl, hown, hB, hne⟩ := hrel
    by_cases hlt : i < n / 9
    · obtain ⟨rfl, hbl⟩ : a = some ⟨b, o, none⟩ ∧ b < w.heap.size := by
        rcases hab.out with h | h
        · omega
        · exact h
      have hRW := row_keep (B := w.heap.size) hRh.out hB (fun p hp => by cases hp; exact hbl)
      have hq := pqA_smp g i
      have hws : w.heap.size ≤ wr.heap.size := hB.size
      have HA1 : ∀ V, Below wr.heap.size wr V → _ := fun V h => (rahead_any V w.heap.size i u6 g (hown.kept (row := none) ⟨h.os, h.tape, h.output, h.size, fun k hk _ => h.block k hk⟩ (by cases hv : Value.ownBlock _ <;> simp)) (by omega)).1
      have HA2 : ∀ V, Below wr.heap.size wr V → _ := fun V h => (rahead_any V w.heap.size i u6 g (hown.kept (row := none) ⟨h.os, h.tape, h.output, h.size, fun k hk _ => h.block k hk⟩ (by cases hv : Value.ownBlock _ <;> simp)) (by omega)).2
      have HD : ∀ V, Below wr.heap.size wr V → Calls Try.prog 12 #[.slice (some ⟨b, o + 9 * i, none⟩) 9 (c - 9 * i), .int .i16 (pqA g i).1, .int .i16 (pqA g i).2] V fun e w' => ∃ s', e = .returned (.tuple #[s', .int .i64 0]) ∧ w'.ownsRow wr.heap.size 23 1 s' 16 (outL (blkG g i) (pqA g i).1 (pqA g i).2 16) ∧ Below wr.heap.size wr w' := fun V h => by
        have hRV := row_keep (B := wr.heap.size) hRW h (fun p hp => by cases hp; exact Nat.lt_of_lt_of_le hbl hws)
        refine (rdecode_any V (some ⟨b, o + 9 * i, none⟩) (c - 9 * i) (blkG g i) _ _ (row_blk hRV i hlt) hq.1 hq.2).mono ?_
        rintro e w' ⟨s', e1, e2, e3⟩
        exact ⟨s', e1, own_mono e2 h.size, h.trans (e3.mono h.size)⟩
      have hnl : allL g i ++ outL (blkG g i) (pqA g i).1 (pqA g i).2 16 = allL g (i + 1) := rfl
      have hone := outL_one (blkG g i) (pqA g i).1 (pqA g i).2 16
      have hlo : (outL (blkG g i) (pqA g i).1 (pqA g i).2 16).length = 16 := outL_length _ _ _ _
      generalize outL (blkG g i) (pqA g i).1 (pqA g i).2 16 = news at *
      generalize (pqA g i).1 = P at *
      generalize (pqA g i).2 = Q at *
      have t1 : decide (((9 * i : Nat) : Int) + 9 ≤ (n : Int)) = true := decide_eq_true (by omega)
      have hz9 : 9 * i + 9 ≤ n := by omega
      have e1 : ((9 * i : Nat) : Int) + 9 = ((9 * i + 9 : Nat) : Int) := by omega
      have e2 : 9 * i + 9 - 9 * i = 9 := by omega
      replace HA1 := Lib.hid HA1
      replace HA2 := Lib.hid HA2
      replace HD := Lib.hid HD
      replace hnl := Lib.hid hnl
      have hh := Lib.hid (And.intro hown (And.intro hB hRW))
      clear hown hB hRW hq
      replace hne := Lib.hid hne
      generalize hzz : 9 * i + 9 = z at *
      generalize hyy : 9 * i = y at *
      have i1 : (0 : Int) ≤ (y : Int) := by omega
      have hcy : y < c := by omega
      have hG0 : g y < 256 := hRh.out.1 y (by omega)
      have hyn : y < n := by omega
      have hi16 : 16 * i + 16 ≤ 33554432 := by omega
      have hzi : z = 9 * (i + 1) := by omega
      have hms : n - z < n - y := by omega
      have hzz2 : z = 9 * i + 9 := by omega
      replace hzi := Lib.hid hzi
      replace hms := Lib.hid hms
      replace hzz2 := Lib.hid hzz2
      have i2 : (y : Int) ≤ (z : Int) := by omega
      have i3 : (z : Int) ≤ (c : Int) := by omega
      have hw : wrap64 (z : Int) = (z : Int) := by simp only [wrap64]; omega
      have hw' : IntKind.i64.wrap (z : Int) = (z : Int) := by simp only [IntKind.wrap_i64]; omega
      have hw2 : IntKind.i64.wrap ((y : Int) + 9) = (z : Int) := by rw [e1]; exact hw'
      replace hzz := Lib.hid hzz
      replace hyy := Lib.hid hyy
      go_upto_region 5 with (fail)
      refine wp_region_held_drew (S := fun V => Below wr.heap.size wr V) (by kernel_rfl) (Below.refl _ _).drew (fun hHeld => ?_)
      refine wpAnyH_take (i := 0) (v := .slice (some ⟨b, o, none⟩) n c) rfl (by kernel_rfl) (by kernel_rfl) (by kernel_rfl) (fun _ _ _ h => h) (Or.inl ⟨by rfl, ?_⟩) (by assumption) ?_
      · intro V hSw
        first | (go_simp; done) | (go_simp; with_reducible rfl) | (go_simp; intro h; exact absurd h (Nat.ne_of_gt hcy))
      simp only [Act.put, List.setIfInBounds_toArray, List.set_cons_zero, List.set_cons_succ]
      refine wpAnyH_take (i := 1) (v := .int .i64 (y : Int)) rfl (by kernel_rfl) (by kernel_rfl) (by kernel_rfl) (fun _ _ _ h => h) (Or.inl ⟨by rfl, ?_⟩) (by assumption) ?_
      · intro V hSw
        first | (go_simp; done) | (go_simp; with_reducible rfl) | (go_simp; intro h; exact absurd h (Nat.ne_of_gt hcy))
      simp only [Act.put, List.setIfInBounds_toArray, List.set_cons_zero, List.set_cons_succ]
      refine wpAnyH_take (i := 2) (v := .int .i64 (y : Int)) rfl (by kernel_rfl) (by kernel_rfl) (by kernel_rfl) (fun _ _ _ h => h) (Or.inl ⟨by rfl, ?_⟩) (by assumption) ?_
      · intro V hSw
        first | (go_simp; done) | (go_simp; with_reducible rfl) | (go_simp; intro h; exact absurd h (Nat.ne_of_gt hcy))
      simp only [Act.put, List.setIfInBounds_toArray, List.set_cons_zero, List.set_cons_succ]
      refine wpAnyH_take (i := 3) (v := .int .i64 (z : Int)) rfl (by kernel_rfl) (by kernel_rfl) (by kernel_rfl) (fun _ _ _ h => h) (Or.inl ⟨by rfl, ?_⟩) (by assumption) ?_
      · intro V hSw
        first | (go_simp; done) | (go_simp; with_reducible rfl) | (go_simp; intro h; exact absurd h (Nat.ne_of_gt hcy))
      simp only [Act.put, List.setIfInBounds_toArray, List.set_cons_zero, List.set_cons_succ]
      refine wpAnyH_take (i := 4) (v := .slice (some ⟨b, o + y, none⟩) 9 (c - y)) rfl (by kernel_rfl) (by kernel_rfl) (by kernel_rfl) (fun _ _ _ h => h) (Or.inl ⟨by rfl, ?_⟩) (by assumption) ?_
      · intro V hSw
        first | (go_simp; done) | (go_simp; with_reducible rfl) | (go_simp; intro h; exact absurd h (Nat.ne_of_gt hcy))
      simp only [Act.put, List.setIfInBounds_toArray, List.set_cons_zero, List.set_cons_succ]
      refine wpAnyH_take (i := 5) (v := u6) rfl (by kernel_rfl) (by kernel_rfl) (by kernel_rfl) (fun _ _ _ h => h) (Or.inl ⟨by rfl, ?_⟩) (by assumption) ?_
      · intro V hSw
        first | (go_simp; done) | (go_simp; with_reducible rfl) | (go_simp; intro h; exact absurd h (Nat.ne_of_gt hcy))
      simp only [Act.put, List.setIfInBounds_toArray, List.set_cons_zero, List.set_cons_succ]
      refine wpAnyH_take (i := 7) (v := u6) rfl (by kernel_rfl) (by kernel_rfl) (by kernel_rfl) (fun _ _ _ h => h) (Or.inl ⟨by rfl, ?_⟩) (by assumption) ?_
      · intro V hSw
        first | (go_simp; done) | (go_simp; with_reducible rfl) | (go_simp; intro h; exact absurd h (Nat.ne_of_gt hcy))
      simp only [Act.put, List.setIfInBounds_toArray, List.set_cons_zero, List.set_cons_succ]
      refine wpAnyH_ready (rs := [6]) (by kernel_rfl) (by simp) ?_
      refine AllReadyH.cons rfl (fun K hK => ?_) AllReadyH.nil
      go_simp
      refine (HA1.out _ hHeld).mono ?_
      rintro e W5 ⟨rfl, rfl⟩
      refine hK.out _ _ hHeld (fun hHeld => ?_)
      clear hK K
      try simp only [Act.put, List.setIfInBounds_toArray, List.set_cons_zero, List.set_cons_succ]
      refine wpAnyH_ready (rs := [8]) (by kernel_rfl) (by simp) ?_
      refine AllReadyH.cons rfl (fun K hK => ?_) AllReadyH.nil
      go_simp
      refine (HA2.out _ hHeld).mono ?_
      rintro e W5 ⟨rfl, rfl⟩
      refine hK.out _ _ hHeld (fun hHeld => ?_)
      clear hK K
      try simp only [Act.put, List.setIfInBounds_toArray, List.set_cons_zero, List.set_cons_succ]
      refine wpAnyH_ready (rs := [9]) (by kernel_rfl) (by simp) ?_
      refine AllReadyH.cons rfl (fun K hK => ?_) AllReadyH.nil
      go_simp
      refine (HD.out _ hHeld).mono ?_
      rintro e W5 ⟨s', rfl, hO5, hB5⟩
      refine hK.out _ _ hB5 (fun hHeld => ?_)
      clear hK K
      try simp only [Act.put, List.setIfInBounds_toArray, List.set_cons_zero, List.set_cons_succ]
      refine wpAnyH_take (i := 10) (v := (.tuple #[s', .int .i64 0])) rfl (by kernel_rfl) (by kernel_rfl) (by kernel_rfl) (fun _ _ _ h => h) (Or.inl ⟨by rfl, ?_⟩) (by assumption) ?_
      · intro V hSw
        first | (go_simp; done) | (go_simp; with_reducible rfl) | (go_simp; intro h; exact absurd h (Nat.ne_of_gt hcy))
      simp only [Act.put, List.setIfInBounds_toArray, List.set_cons_zero, List.set_cons_succ]
      refine wpAnyH_take (i := 11) (v := s') rfl (by kernel_rfl) (by kernel_rfl) (by kernel_rfl) (fun _ _ _ h => h) (Or.inl ⟨by rfl, ?_⟩) (by assumption) ?_
      · intro V hSw
        first | (go_simp; done) | (go_simp; with_reducible rfl) | (go_simp; intro h; exact absurd h (Nat.ne_of_gt hcy))
      simp only [Act.put, List.setIfInBounds_toArray, List.set_cons_zero, List.set_cons_succ]
      refine wpAnyH_take (i := 12) (v := .int .i64 0) rfl (by kernel_rfl) (by kernel_rfl) (by kernel_rfl) (fun _ _ _ h => h) (Or.inl ⟨by rfl, ?_⟩) (by assumption) ?_
      · intro V hSw
        first | (go_simp; done) | (go_simp; with_reducible rfl) | (go_simp; intro h; exact absurd h (Nat.ne_of_gt hcy))
      simp only [Act.put, List.setIfInBounds_toArray, List.set_cons_zero, List.set_cons_succ]
      refine wpAnyH_take (i := 13) (v := s') rfl (by kernel_rfl) (by kernel_rfl) (by kernel_rfl) (fun _ _ _ h => h) (Or.inl ⟨by rfl, ?_⟩) (by assumption) ?_
      · intro V hSw
        first | (go_simp; done) | (go_simp; with_reducible rfl) | (go_simp; intro h; exact absurd h (Nat.ne_of_gt hcy))
      simp only [Act.put, List.setIfInBounds_toArray, List.set_cons_zero, List.set_cons_succ]
      refine wpAnyH_take (i := 14) (v := .int .i64 0) rfl (by kernel_rfl) (by kernel_rfl) (by kernel_rfl) (fun _ _ _ h => h) (Or.inl ⟨by rfl, ?_⟩) (by assumption) ?_
      · intro V hSw
        first | (go_simp; done) | (go_simp; with_reducible rfl) | (go_simp; intro h; exact absurd h (Nat.ne_of_gt hcy))
      simp only [Act.put, List.setIfInBounds_toArray, List.set_cons_zero, List.set_cons_succ]
      refine wpAnyH_done (by kernel_rfl) ?_ _
      obtain ⟨hown, hB, hRW⟩ := hh.out
      have hown5 := hown.kept (w' := W5) (row := none) ⟨hB5.os, hB5.tape, hB5.output, hB5.size, fun k hk _ => hB5.block k hk⟩ (by cases hv : Value.ownBlock _ <;> simp)
      have hB05 := hB.trans (hB5.mono hws)
      have hBs : w.heap.size ≤ W5.heap.size := hB05.size
      obtain ⟨gs, cap, rfl, hlen, hnw⟩ := own_news hO5 (by decide)
      replace hh := Lib.hid hB05
      clear hown hB hRW hO5 hB5 HA1 HA2 HD hB05
      go_wp2_with (at_builtin; refine wpList_append_own _ rfl _ _ 27 rfl w.heap.size 23 j0 _ 1 2 Try.underlying27 hj0 hz0 hz1 hz2 rfl (by decide) _ _ _ rfl hown5 ⟨gs, 0, none⟩ 16 cap news rfl (by simp [hlo]) hnw hone (by clear hw hw' hw2; unfold maxLen; omega) (by clear hw hw' hw2; omega) (by assumption) ?_)
      intro v' w9 hown9 hgrow _
      have hB9 := hh.out.trans (grown_below hgrow hBs (own_le hown5))
      rw [hnl.out] at hown9
      have hR9 := row_keep (B := w.heap.size) hRh.out hB9 (fun p hp => by cases hp; exact hbl)
      have x0 : w9.cell? ⟨b, o + y, none⟩ = some (.int .u8 (g y : Nat)) := by
        obtain ⟨_, h | ⟨b', o', e, hl, hc⟩⟩ := hR9
        · exact absurd h (Nat.ne_of_gt (Nat.lt_of_le_of_lt (Nat.zero_le _) hyn))
        · cases e; exact hc y hyn
      have HRd := Lib.hid (rread_any w9 (g y) hG0)
      unfold headV at HRd
      have hGy : g y = g (9 * i) := by rw [hyy.out]
      replace hGy := Lib.hid hGy
      generalize g y = G at *
      generalize ((G / 16 : Nat) : Int) = i1' at *
      generalize ((G / 4 % 4 : Nat) : Int) = i2' at *
      replace hown9 := Lib.hid hown9
      replace hB9 := Lib.hid hB9
      clear hown5 hgrow hR9 hnw hh
      go_wp2_with fail
      refine HRd.out.mono ?_
      rintro e W3 ⟨rfl, hB3⟩
      have hH := Whole.fresh W3 34 #[.int .u8 i1', .int .u8 i2', .bool (decide (G / 2 % 2 = 1)), .bool (decide (G % 2 = 1))]
      have hB4 := hB3.alloc hB3.size (.cells #[.int .u8 i1', .int .u8 i2', .bool (decide (G / 2 % 2 = 1)), .bool (decide (G % 2 = 1))] 34)
      have q2 := hH.cell 2
      have q3 := hH.cell 3
      simp only [List.getElem?_toArray, List.getElem?_cons_zero, List.getElem?_cons_succ] at q2 q3
      generalize hl2 : decide (G / 2 % 2 = 1) = l2 at *
      generalize hl1 : decide (G % 2 = 1) = l1 at *
      replace hl2 := Lib.hid hl2
      replace hl1 := Lib.hid hl1
      have hown4 := hown9.out.kept (w' := W3.alloc (.cells #[.int .u8 i1', .int .u8 i2', .bool l2, .bool l1] 34)) (row := none) ⟨hB4.os, hB4.tape, hB4.output, hB4.size, fun k hk _ => hB4.block k hk⟩ (by cases hv : Value.ownBlock _ <;> simp)
      have hB44 := hB9.out.trans (hB4.mono hB9.out.size)
      replace hown4 := Lib.hid hown4
      replace hB44 := Lib.hid hB44
      clear HRd x0 hB3 hB4 hH hown9 hB9
      cases l1 with
      | false =>
        have hn1 : G % 2 ≠ 1 := of_decide_eq_false hl1.out
        have hne1 : NoEnd g (i + 1) := fun j hj => by
          rcases Nat.lt_or_ge j i with h | h
          · exact hne.out j h
          · rw [show j = i from Nat.le_antisymm (Nat.le_of_lt_succ hj) h, ← hGy.out]; exact hn1
        replace hne1 := Lib.hid hne1
        go_wp2_with fail
        exact ⟨⟨i + 1, hlt, by rw [hzi.out], by rw [show 16 * (i + 1) = 16 * i + 16 from Nat.mul_succ 16 i]; exact hown4.out, hB44.out, hne1.out⟩, by simp only [intOf, Int.toNat_natCast]; exact hms.out⟩
      | true =>
        have he1 : G % 2 = 1 := of_decide_eq_true hl1.out
        go_upto_region 9 with (fail)
        generalize W3.alloc (.cells #[.int .u8 i1', .int .u8 i2', .bool l2, .bool true] 34) = W4 at *
        generalize W3.heap.size = H at *
        go_quiet (fail)
        have hB6 := below_drewN hB44.out nq
        have hown6 := hown4.out.kept (w' := W4.drewN nq) (row := none) ⟨rfl, rfl, rfl, Nat.le_refl _, fun _ _ _ => rfl⟩ (by cases hv : Value.ownBlock _ <;> simp)
        obtain ⟨a2, c2, rfl, hI6, hc2, _⟩ := own_irow2 (f := allF g) hown6 (Nat.succ_pos _) (fun j hj => allL_at g (i + 1) j (by rw [Nat.mul_succ]; exact hj))
        have hf := Lib.hid (And.intro hB6 (And.intro hI6 hc2))
        clear hown4 hB44 hB6 hown6 hI6 q2 q3
        generalize W4.drewN nq = W6 at *
        go_wp2_with fail
        refine bodyPost_ret (results_four rfl _ _ _) rfl ⟨hf.out.1, .inr ⟨i, a2, c2, ⟨hlt, hne.out, by rw [← hGy.out]; exact he1⟩, ?_, hf.out.2.1, hc2⟩⟩
        rw [← hGy.out, hl2.out, ← hzz2.out]
        rfl
    · obtain rfl : i = n / 9 := by omega
      have t1 : decide (((9 * (n / 9) : Nat) : Int) + 9 ≤ (n : Int)) = false := decide_eq_false (by omega)
      have hh := Lib.hid (And.intro hB hne)
      clear hown hB
      go_wp2_with fail
      exact bodyPost_ret (results_four rfl _ _ _) rfl ⟨hh.out.1, .inl ⟨hh.out.2, rfl⟩⟩
end Go.Proofs.Ytekjcgckniopdaa
