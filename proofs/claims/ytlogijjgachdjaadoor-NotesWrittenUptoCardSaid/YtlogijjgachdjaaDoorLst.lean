/-
  List, by the code.
-/
import Derived.Test.YtlogijjgachdjaaDoorLstK
import Derived.Test.YtlogijjgachdjaaDoorRLst
import Derived.Deep.AppendLies
namespace Go.Proofs.YtlogijjgachdjaaDoor
open Go.RowKit
set_option maxRecDepth 100000
set_option maxHeartbeats 4000000
set_option linter.unusedVariables false

attribute [local irreducible] nmF fmF szF cyF txL nmL wdF plF nuF opL pcL byL hxL lstG restL lnI lnQ okN
theorem list_any (a : Option Addr) (n cap at_ : Nat) (f : Nat → Nat) (w : World) (hR : Row w a n f) (hcap : n ≤ cap) (hat : at_ < 65536) (hn : n ≤ 1048576) :
    Calls Tryd.prog 17 #[.slice a n cap, .int .u16 at_] w fun e w' => ∃ v B, e = .returned v ∧ w.heap.size ≤ B ∧ w'.ownsRow B 9 1 v (lstG n at_ f n 0).length (strV (lstG n at_ f n 0)) ∧ Below w.heap.size w w' := by
  by_cases hn0 : n = 0
  · subst hn0
    have e0 : lstG 0 at_ f 0 0 = [] := lstG_end _ _ _ _ _ (Nat.le_refl _)
    rw [e0]
    clear hR e0
    have HF := fun W => first_nil a cap W
    unfold zeroNote at HF
    replace HF := Lib.hid HF
    go_enter Tryd.func17, Tryd.ntmps17
    go_wp2_with fail
    refine (writers_any _).mono ?_
    rintro e W1 ⟨mb, rfl, hmb, hWr, hb1⟩
    clear hWr
    go_wp2_with fail
    with_reducible refine (HF.out _).mono ?_
    rintro e W2 ⟨rfl, hb2⟩
    have hB2 := (hb1.trans (hb2.mono hb1.size)).alloc (hb1.trans (hb2.mono hb1.size)).size (.cells #[.int .u8 0, .string ⟨#[]⟩, .string ⟨#[]⟩, .int .i64 0, .int .i64 0] 25)
    go_wp2_with fail
    go_loopw [0, 1, 5, 7, 8] (fun s0 s1 s5 s7 s8 wr => s0 = .slice a 0 cap ∧ s1 = .int .u16 at_ ∧ s5 = .slice none 0 0 ∧ s8 = .bool false ∧ Below w.heap.size w wr) (fun _ _ _ _ _ _ => 0)
    case atStart => exact ⟨rfl, rfl, rfl, rfl, hB2⟩
    case round =>
      obtain ⟨rfl, rfl, rfl, rfl, hB⟩ := hrel
      go_wp2_with fail
      go_loopw [1, 5, 47] (fun s1 s5 s47 wr => s5 = .slice none 0 0 ∧ s47 = .int .i64 0 ∧ Below w.heap.size w wr) (fun _ _ _ _ => 0)
      case atStart => exact ⟨rfl, rfl, hB⟩
      case round =>
        obtain ⟨rfl, rfl, hB⟩ := hrel
        go_wp2_with fail
        go_ret
        exact ⟨_, _, rfl, Nat.le_refl _, World.ownsRow_nil _ _ _ _, hB⟩
  · obtain ⟨hb, h0 | ⟨g, o, rfl, hg, hc⟩⟩ := hR
    · omega
    generalize hALL : lstG n at_ f n 0 = ALL
    replace hALL := Lib.hid hALL
    replace hb := Lib.hid hb
    replace hc := Lib.hid hc
    go_enter Tryd.func17, Tryd.ntmps17
    go_wp2_with fail
    refine (writers_any _).mono ?_
    rintro e W1 ⟨mb, rfl, hmb, hWr, hb1⟩
    have hc1 : ∀ i, i < n → W1.cell? ⟨g, o + i, none⟩ = some (.int .u8 (f i : Nat)) := fun i hi => (hb1.cell (p := ⟨g, o + i, none⟩) hg).trans (hc.out i hi)
    have hg1 : g < W1.heap.size := Nat.lt_of_lt_of_le hg hb1.size
    have HF := firstk_any g o n cap f W1 hg1 hb.out hc1
    have HT := fun k hok W hB => writtenk_any g o n cap at_ mb f W1 hWr hg1 hcap hb.out hc1 k hok W hB
    have HX : ∀ x W, x < 65536 → Calls Tryd.prog 32 #[.int .u16 (x : Nat), .int .i64 4] W fun e w' => e = .returned (.string (bsOf (hxL x 4))) ∧ Below W.heap.size W w' := fun x W hx => hex_any x 4 W hx (by decide) (by decide)
    have HX2 : ∀ x W, x < 65536 → Calls Tryd.prog 32 #[.int .u16 (x : Nat), .int .i64 2] W fun e w' => e = .returned (.string (bsOf (hxL x 2))) ∧ Below W.heap.size W w' := fun x W hx => hex_any x 2 W hx (by decide) (by decide)
    obtain ⟨c0, nm0, fm0, sz0, cy0, hcc0, HF0⟩ := HF 0 (Nat.zero_le _)
    replace HF0 := HF0 (some ⟨g, o, none⟩) cap (fun _ => rfl)
    simp only [Nat.sub_zero] at HF0
    obtain ⟨b0, hb0⟩ : ∃ b0, okN n (fun j => f (0 + j)) = b0 := ⟨_, rfl⟩
    rw [hb0] at HF0
    replace hb0 := Lib.hid hb0
    replace hcc0 := Lib.hid hcc0
    replace HF := Lib.hid HF
    replace HT := Lib.hid HT
    replace HX := Lib.hid HX
    replace HX2 := Lib.hid HX2
    replace HF0 := Lib.hid HF0
    replace hc1 := Lib.hid hc1
    clear hc hWr
    go_wp2_with fail
    with_reducible refine (HF0.out _ (Below.refl _ _)).mono ?_
    rintro e W2 ⟨rfl, hb2⟩
    have hX := Whole.fresh W2 25 #[.int .u8 c0, .string nm0, .string fm0, .int .i64 sz0, .int .i64 cy0]
    have hB2 := hb2.alloc hb2.size (.cells #[.int .u8 c0, .string nm0, .string fm0, .int .i64 sz0, .int .i64 cy0] 25)
    have hY2 := hb2.size
    clear hb2 HF0
    go_wp2_with fail
    go_loopw [0, 1, 5, 7, 8] (fun s0 s1 s5 s7 s8 wr => ∃ (k m : Nat) (acc : List (List Nat)) (Y c : Nat) (nm fm : ByteArray) (sz cy : Nat) (a' : Option Addr) (cp : Nat), k ≤ n ∧ n ≤ k + m ∧ acc.length ≤ k ∧ Hid (acc ++ lstG n at_ f m k = ALL) ∧ Hid (okN (n - k) (fun j => f (k + j)) = true → c = f k ∧ nm = nmF c ∧ fm = fmF c ∧ sz = szF c ∧ cy = cyF c) ∧ s0 = .slice a' (n - k) cp ∧ Hid (k < n → a' = some ⟨g, o + k, none⟩ ∧ cp = cap - k) ∧ s1 = .int .u16 ((at_ + k) % 65536 : Nat) ∧ wr.ownsRow W1.heap.size 9 1 s5 acc.length (strV acc) ∧ s7 = .pointer (some ⟨Y, 0, none⟩) ∧ s8 = .bool (okN (n - k) (fun j => f (k + j))) ∧ Whole wr Y 25 #[.int .u8 c, .string nm, .string fm, .int .i64 sz, .int .i64 cy] ∧ s5.ownBlock ≠ some Y ∧ W1.heap.size ≤ Y ∧ Below W1.heap.size W1 wr) (fun s0 _ _ _ _ _ => match s0 with | .slice _ l _ => l | _ => 0)
    case atStart => exact ⟨0, n, [], _, c0, nm0, fm0, sz0, cy0, _, _, by omega, by omega, Nat.le_refl _, hALL, hcc0, rfl, Lib.hid fun _ => ⟨rfl, rfl⟩, by rw [Nat.add_zero, Nat.mod_eq_of_lt hat], World.ownsRow_nil _ _ _ _, rfl, congrArg Value.bool hb0.out.symm, hX, by simp [Value.ownBlock], hY2, hB2⟩
    case round =>
      obtain ⟨k, m, acc, Y, c, nm, fm, sz, cy, a', cp, hk, hm, hal, hacc, hcc, rfl, hacp, rfl, ho, rfl, rfl, hX, hne, hY, hB⟩ := hrel
      clear hb0 hcc0
      cases hok : okN (n - k) (fun j => f (k + j)) with
      | true =>
        obtain ⟨hkn, hsz⟩ := ok_size hok
        obtain ⟨rfl, rfl⟩ := hacp.out hkn
        clear hacp
        obtain ⟨rfl, rfl, rfl, rfl, rfl⟩ := hcc.out hok
        obtain ⟨m, rfl⟩ : ∃ m', m = m' + 1 := ⟨m - 1, by omega⟩
        have hac := hacc.out
        rw [lstG, if_neg (by omega), hok, if_pos rfl] at hac
        have hsp := szF_pos (f k) (hb.out k hkn)
        have hsl := szF_le (f k) (hb.out k hkn)
        have hTk := HT.out k hok
        obtain ⟨c2, nm2, fm2, sz2, cy2, hcc2, HF2⟩ := HF.out (k + szF (f k)) (by omega)
        have htl := txL_len (f k) ((at_ + k) % 65536) (n - k) (fun j => f (k + j)) (hb.out k hkn) hsz (fun j hj => hb.out _ (by omega))
        have hln : lnI at_ f k = hxL ((at_ + k) % 65536) 4 ++ [32] ++ txL (f k) ((at_ + k) % 65536) (fun j => f (k + j)) := by unfold lnI; rfl
        have hHk := fun W => HX.out ((at_ + k) % 65536) W (Nat.mod_lt _ (by decide))
        have hxl := hxL_len ((at_ + k) % 65536) 4
        have hwa : IntKind.u16.wrap (((at_ + k) % 65536 : Nat) + IntKind.u16.wrap (szF (f k) : Int)) = ((at_ + (k + szF (f k))) % 65536 : Nat) := by
          simp only [IntKind.wrap_u16]
          omega
        have hwb : IntKind.u16.wrap (((at_ + k) % 65536 : Nat) + (szF (f k) : Int)) = ((at_ + (k + szF (f k))) % 65536 : Nat) := by
          simp only [IntKind.wrap_u16]
          omega
        obtain ⟨b2, hb2⟩ : ∃ b2, okN (n - (k + szF (f k))) (fun j => f (k + szF (f k) + j)) = b2 := ⟨_, rfl⟩
        rw [hb2] at HF2
        rw [← Nat.sub_sub] at HF2
        generalize lnI at_ f k = ln at *
        generalize txL (f k) ((at_ + k) % 65536) (fun j => f (k + j)) = tx at *
        generalize hxL ((at_ + k) % 65536) 4 = hx4 at *
        generalize hak2 : (at_ + (k + szF (f k))) % 65536 = ak2 at *
        generalize (at_ + k) % 65536 = ak at *
        generalize nmF (f k) = nm at *
        generalize fmF (f k) = fm at *
        generalize cyF (f k) = cy at *
        generalize szF (f k) = sz at *
        generalize f k = c at *
        have e1 : bsOf ln = bsOf hx4 ++ ⟨#[32]⟩ ++ bsOf tx := by rw [hln, bsOf_append, bsOf_append, show bsOf [32] = ⟨#[32]⟩ by decide +kernel]
        have z1 : (bsOf hx4).size = 4 := by rw [bsOf_size, hxl]
        have z2 : (bsOf tx).size ≤ 47 := by rw [bsOf_size]; exact htl
        have q1 : (9223372036854775807 < (bsOf hx4).size + 1) = False := by rw [eq_iff_iff, iff_false]; omega
        have q3 : (9223372036854775807 < (bsOf hx4).size + 1 + (bsOf tx).size) = False := by rw [eq_iff_iff, iff_false]; omega
        have q4 : (9223372036854775807 < (bsOf hx4).size + (1 + (bsOf tx).size)) = False := by rw [eq_iff_iff, iff_false]; omega
        obtain ⟨j0, hj0, hz0, hz1, hz2⟩ := info_parts info_partsS
        generalize hLN : bsOf hx4 ++ (⟨#[32]⟩ : ByteArray) ++ bsOf tx = LN at *
        have keepS : ∀ W, Whole W Y 25 #[.int .u8 c, .string nm, .string fm, .int .i64 sz, .int .i64 cy] → W.cell? ⟨Y, 0, none⟩ = some (.int .u8 c) ∧ W.cell? ⟨Y, 1, none⟩ = some (.string nm) ∧ W.cell? ⟨Y, 2, none⟩ = some (.string fm) ∧ W.cell? ⟨Y, 3, none⟩ = some (.int .i64 sz) ∧ W.cell? ⟨Y, 4, none⟩ = some (.int .i64 cy) :=
          fun W h => ⟨h.cell 0, h.cell 1, h.cell 2, h.cell 3, h.cell 4⟩
        replace keepS := Lib.hid keepS
        have hXd := hX.drew
        have hBd := hB.drew
        have hod := ho.drew
        have hSd := keepS.out _ hXd
        replace hTk := Lib.hid hTk
        replace hHk := Lib.hid hHk
        replace HF2 := Lib.hid HF2
        replace hac := Lib.hid hac
        replace e1 := Lib.hid e1
        replace hcc2 := Lib.hid hcc2
        replace hb2 := Lib.hid hb2
        replace hak2 := Lib.hid hak2
        replace hne := Lib.hid hne
        clear hln hcc hok z1 z2 hacc
        go_wp2_with fail
        go_region_held3 (fun W => W.cell? ⟨Y, 0, none⟩ = some (.int .u8 c) ∧ W.cell? ⟨Y, 1, none⟩ = some (.string nm) ∧ W.cell? ⟨Y, 2, none⟩ = some (.string fm) ∧ W.cell? ⟨Y, 3, none⟩ = some (.int .i64 sz) ∧ W.cell? ⟨Y, 4, none⟩ = some (.int .i64 cy))
          (first | (with_reducible exact hSd) | (with_reducible exact hS4) | (with_reducible exact hS5) | (with_reducible exact hS6) | (with_reducible exact hS9) | go_keep)
          (first
            | (go_at_call 32; with_reducible refine (hHk.out _).mono ?_; rintro e W4 ⟨rfl, hb4⟩; have hB4 := hBd.trans (hb4.mono hBd.size); have hX4 := hXd.below hb4 hXd.lt; have ho4 := own_below hod hb4; have hS4 := keepS.out _ hX4)
            | (go_at_call 30; refine (hTk.out _ hB4).mono ?_; rintro e W5 ⟨rfl, hb5⟩; have hB5 := hB4.trans (hb5.mono hB4.size); have hX5 := hX4.below hb5 hX4.lt; have ho5 := own_below ho4 hb5; have hS5 := keepS.out _ hX5; have hX6 : Whole (W5.alloc (.cells #[.string LN] 9)) Y 25 _ := hX5.alloc _; have hS6 := keepS.out _ hX6; have ho6 := ho5.alloc (.cells #[.string LN] 9); have hB6 := hB5.alloc hB5.size (.cells #[.string LN] 9); have hs5 := hB5.size; have hs6 := hB6.size)
            | (refine step_append_lies _ (by rfl) _ _ _ (by rfl) W1.heap.size 9 j0 _ 1 16 Tryd.underlying39 hj0 hz0 hz1 hz2 rfl (by decide) _ _ _ (by rfl) ho6 ⟨W5.heap.size, 0, none⟩ 1 1 [.string LN] (by rfl) (by rfl) (World.news_of_block (cs := #[.string LN]) (t := 9) (fr := (0, 0)) (heap_alloc_new _ _)) (by simp [Value.oneCell']) (by decide) (by unfold maxLen; omega) (by omega) (by simp; omega) (W5.heap.size + 1) (by simp) ?_; intro g9 cap9 w9 hown9 hgrow hat9 hlt9; have hB9 := hB6.grown hgrow hB6.size (fun r e => (ho6.lt r e).1); have hX9 := whole_grown hX6 hgrow (Ne.symm hne.out); have hS9 := keepS.out _ hX9))
        all_goals
          rw [← e1.out, strV_snoc] at hown9
          obtain ⟨x0, x1, x2, x3, x4⟩ := hS9
          have hX10 := Whole.fresh w9 25 #[.int .u8 c, .string nm, .string fm, .int .i64 sz, .int .i64 cy]
          have hB10 := hB9.alloc hB9.size (.cells #[.int .u8 c, .string nm, .string fm, .int .i64 sz, .int .i64 cy] 25)
          have ho10 := hown9.alloc (.cells #[.int .u8 c, .string nm, .string fm, .int .i64 sz, .int .i64 cy] 25)
          have hs9 := hB9.size
          have hY2b : W1.heap.size ≤ w9.heap.size := hs9
          have hne2 : (Value.slice (some ⟨g9, 0, none⟩) (acc.length + 1) cap9).ownBlock ≠ some w9.heap.size := by
            show some g9 ≠ some w9.heap.size
            intro e
            injection e with e
            omega
          replace hne2 := Lib.hid hne2
          have hszi : (sz : Int) ≤ ((n - k : Nat) : Int) := by omega
          have hszi2 : sz ≤ n - k := hsz
          clear hXd hBd hod hSd hX hB ho hX4 hB4 ho4 hS4 hX5 hB5 ho5 hS5 hX6 hB6 ho6 hS6 hgrow hB9 hX9 hown9 hLN e1 q1 q3 q4
          have hcz0 : (cap - k = sz) ∨ (sz < cap - k ∧ ¬ cap - k = sz) := by omega
          rcases hcz0 with hcz | ⟨hcz1, hcz⟩
          all_goals
           go_wp2_with fail
           generalize w9.alloc (.cells #[.int .u8 c, .string nm, .string fm, .int .i64 sz, .int .i64 cy] 25) = W10 at *
           generalize w9.heap.size = Y2 at *
           refine (HF2.out _ _ (by first | (intro h; omega) | (intro h; rw [Nat.add_assoc])) _ hB10).mono ?_
           rintro e W12 ⟨rfl, hb12⟩
           have hX12 := hX10.below hb12 hX10.lt
           have hB12 := hB10.trans (hb12.mono hB10.size)
           have ho12 := own_below ho10 hb12
           clear hX10 hB10 ho10 x0 x1 x2 x3 x4 hb12
           have f0 := hX12.free 0
           have f1 := hX12.free 1
           have f2 := hX12.free 2
           have f3 := hX12.free 3
           have f4 := hX12.free 4
           have y0 := hX12.cell 0
           have y1 := hX12.cell 1
           have y2 := hX12.cell 2
           have y3 := hX12.cell 3
           have y4 := hX12.cell 4
           simp only [List.getElem?_toArray, List.getElem?_cons_zero, List.getElem?_cons_succ] at y0 y1 y2 y3 y4
           have hZ := Lib.hid (((((hX12.put 0 (.int .u8 (c2 : Nat))).put 1 (.string nm2)).put 2 (.string fm2)).put 3 (.int .i64 (sz2 : Nat))).put 4 (.int .i64 (cy2 : Nat)))
           have hBz := Lib.hid (((((hB12.setCell (p := ⟨Y2, 0, none⟩) hY2b (.int .u8 (c2 : Nat))).setCell (p := ⟨Y2, 1, none⟩) hY2b (.string nm2)).setCell (p := ⟨Y2, 2, none⟩) hY2b (.string fm2)).setCell (p := ⟨Y2, 3, none⟩) hY2b (.int .i64 (sz2 : Nat))).setCell (p := ⟨Y2, 4, none⟩) hY2b (.int .i64 (cy2 : Nat)))
           have hoz := Lib.hid (own_set (own_set (own_set (own_set (own_set ho12 Y2 0 (.int .u8 (c2 : Nat)) hne2.out) Y2 1 (.string nm2) hne2.out) Y2 2 (.string fm2) hne2.out) Y2 3 (.int .i64 (sz2 : Nat)) hne2.out) Y2 4 (.int .i64 (cy2 : Nat)) hne2.out)
           clear hX12 hB12 ho12
           go_wp2_with fail
           go_roundw
           case rel => exact ⟨k + sz, m, acc ++ [ln], Y2, c2, nm2, fm2, sz2, cy2, _, _, by omega, by omega, by rw [List.length_append, List.length_singleton]; omega, Lib.hid (by rw [List.append_assoc]; exact hac.out), hcc2, by rw [Nat.sub_sub], Lib.hid (by first | (intro h; omega) | (intro h; exact ⟨by rw [Nat.add_assoc], by omega⟩)), by rw [hak2.out], by rw [List.length_append]; exact hoz.out, rfl, by rw [hb2.out], hZ.out, hne2.out, hY2b, hBz.out⟩
           case measure => simp; omega
      | false =>
        have hac : acc ++ restL at_ f (n - k) k = ALL := by
          have h := hacc.out
          by_cases hkn : k < n
          · obtain ⟨m, rfl⟩ : ∃ m', m = m' + 1 := ⟨m - 1, by omega⟩
            rw [lstG, if_neg (by omega), hok, if_neg (by decide)] at h
            exact h
          · rw [lstG_end _ _ _ _ _ (by omega), List.append_nil] at h
            rw [show n - k = 0 by omega, show restL at_ f 0 k = [] by unfold restL; rfl, List.append_nil]
            exact h
        replace hac := Lib.hid hac
        replace hc1 := Lib.hid hc1.out
        replace hne := Lib.hid hne
        clear hacc hcc HF HT hok hX hm
        go_wp2_with fail
        go_loopw [1, 5, 47] (fun s1 s5 s47 wr => ∃ (i q : Nat) (ac : List (List Nat)), i ≤ n - k ∧ Hid (n - k = i + q) ∧ ac.length ≤ k + i ∧ Hid (ac ++ restL at_ f q (k + i) = ALL) ∧ s1 = .int .u16 ((at_ + (k + i)) % 65536 : Nat) ∧ s47 = .int .i64 i ∧ wr.ownsRow W1.heap.size 9 1 s5 ac.length (strV ac) ∧ Below W1.heap.size W1 wr) (fun _ _ s47 _ => n - k - (intOf s47).toNat)
        case atStart => exact ⟨0, n - k, acc, by omega, Lib.hid (by omega), by omega, hac, rfl, rfl, ho, hB⟩
        case round =>
          obtain ⟨i, q, ac, hi, hq, hal2, hac2, rfl, rfl, ho, hB⟩ := hrel
          clear hac
          by_cases hlt2 : i < n - k
          · obtain ⟨rfl, rfl⟩ := hacp.out (by omega)
            obtain ⟨q, rfl⟩ : ∃ q', q = q' + 1 := ⟨q - 1, by have := hq.out; omega⟩
            have hfi := hb.out (k + i) (by omega)
            have hci := (hB.cell (p := ⟨g, o + (k + i), none⟩) hg1).trans (hc1.out (k + i) (by omega))
            rw [← Nat.add_assoc] at hci
            have hti : decide ((i : Int) < ((n - k : Nat) : Int)) = true := decide_eq_true (by omega)
            have hac := hac2.out
            rw [restL] at hac
            clear hac2 hacp
            have hln : lnQ at_ f (k + i) = hxL ((at_ + (k + i)) % 65536) 4 ++ [32, 63, 32] ++ hxL (f (k + i)) 2 := by unfold lnQ; rfl
            have hH4 := fun W => HX.out ((at_ + (k + i)) % 65536) W (Nat.mod_lt _ (by decide))
            have hH2 := fun W => HX2.out (f (k + i)) W (by omega)
            have hwn : IntKind.u16.wrap (((at_ + (k + i)) % 65536 : Nat) + (1 : Int)) = ((at_ + (k + (i + 1))) % 65536 : Nat) := by
              simp only [IntKind.wrap_u16]
              omega
            have hxl := hxL_len ((at_ + (k + i)) % 65536) 4
            have hxl2 := hxL_len (f (k + i)) 2
            have hx : (at_ + (k + i)) % 65536 < 65536 := Nat.mod_lt _ (by decide)
            generalize lnQ at_ f (k + i) = ln at *
            generalize hxL ((at_ + (k + i)) % 65536) 4 = hx4 at *
            generalize hxL (f (k + i)) 2 = hx2 at *
            generalize f (k + i) = fi at *
            generalize hak : (at_ + (k + (i + 1))) % 65536 = an at *
            replace hak := Lib.hid hak
            generalize (at_ + (k + i)) % 65536 = ai at *
            have hw2 : IntKind.u16.wrap (fi : Int) = (fi : Int) := by simp only [IntKind.wrap_u16]; omega
            have e1 : bsOf ln = bsOf hx4 ++ ⟨#[32, 63, 32]⟩ ++ bsOf hx2 := by rw [hln, bsOf_append, bsOf_append, show bsOf [32, 63, 32] = ⟨#[32, 63, 32]⟩ by decide +kernel]
            have z1 : (bsOf hx4).size = 4 := by rw [bsOf_size, hxl]
            have z2 : (bsOf hx2).size = 2 := by rw [bsOf_size, hxl2]
            have q1 : (9223372036854775807 < (bsOf hx4).size + 3) = False := by rw [eq_iff_iff, iff_false]; omega
            have q3 : (9223372036854775807 < (bsOf hx4).size + 3 + (bsOf hx2).size) = False := by rw [eq_iff_iff, iff_false]; omega
            have q4 : (9223372036854775807 < (bsOf hx4).size + (3 + (bsOf hx2).size)) = False := by rw [eq_iff_iff, iff_false]; omega
            obtain ⟨j0, hj0, hz0, hz1, hz2⟩ := info_parts info_partsS
            generalize hLN : bsOf hx4 ++ (⟨#[32, 63, 32]⟩ : ByteArray) ++ bsOf hx2 = LN at *
            replace hH4 := Lib.hid hH4
            replace hH2 := Lib.hid hH2
            replace hac := Lib.hid hac
            replace e1 := Lib.hid e1
            clear hln z1 z2 hx
            go_wp2_with fail
            with_reducible refine (hH4.out _).mono ?_
            rintro e W4 ⟨rfl, hb4⟩
            have hB4 := hB.trans (hb4.mono hB.size)
            have ho4 := own_below ho hb4
            clear hb4 hB ho hci
            go_wp2_with fail
            with_reducible refine (hH2.out _).mono ?_
            rintro e W5 ⟨rfl, hb5⟩
            have ho3 := (own_below ho4 hb5).alloc (.cells #[.string LN] 9)
            have hB5 := hB4.trans (hb5.mono hB4.size)
            have hB3 := hB5.alloc hB5.size (.cells #[.string LN] 9)
            have hs3 := hB3.size
            have hs5 := hB5.size
            go_wp2_with (at_builtin; refine wpList_append_own _ rfl _ _ 39 rfl W1.heap.size 9 j0 _ 1 16 Tryd.underlying39 hj0 hz0 hz1 hz2 rfl (by decide) _ _ _ rfl ho3 ⟨W5.heap.size, 0, none⟩ 1 1 [.string LN] rfl rfl (cell_one_new _ _ _) (by simp [Value.oneCell']) (by unfold maxLen; omega) (by omega) (by simp; omega) ?_)
            intro v' w9 hown9 hgrow _
            have hB9 := hB3.grown hgrow hB3.size (fun r e => (ho3.lt r e).1)
            rw [← e1.out, strV_snoc] at hown9
            clear ho3 hB3 hB5 hb5 ho4 hB4 hgrow
            go_wp2_with fail
            go_roundw
            case rel => exact ⟨i + 1, q, ac ++ [ln], by omega, Lib.hid (by have := hq.out; omega), by rw [List.length_append, List.length_singleton]; omega, Lib.hid (by rw [List.append_assoc]; exact hac.out), by rw [hak.out], by go_num, by rw [List.length_append]; exact hown9, hB9⟩
            case measure => simp [intOf]; omega
          · obtain rfl : i = n - k := by omega
            obtain rfl : q = 0 := by have := hq.out; omega
            have hac := hac2.out
            rw [show restL at_ f 0 (k + (n - k)) = [] by unfold restL; rfl, List.append_nil] at hac
            have hti : decide (((n - k : Nat) : Int) < ((n - k : Nat) : Int)) = false := decide_eq_false (by omega)
            subst hac
            clear hq hal2 hac2 hi hal hk hlt2 hacp
            go_wp2_with fail
            go_ret
            exact ⟨_, _, rfl, hb1.size, ho, hb1.trans (hB.mono hb1.size)⟩
end Go.Proofs.YtlogijjgachdjaaDoor
