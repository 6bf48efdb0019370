/-
  List, by the document.
-/
import Derived.Test.YtlogijjgachdjaaDoorLstF
import Derived.Test.YtlogijjgachdjaaDoorRHex
import Derived.Deep.AppendLies
namespace Go.Proofs.YtlogijjgachdjaaDoor
open Go.RowKit
set_option maxRecDepth 100000
set_option maxHeartbeats 4000000
set_option linter.unusedVariables false

theorem txL_len (c at_ n : Nat) (f : Nat → Nat) (hc : c < 256) (hn : szF c ≤ n) (hb : ∀ j, j < n → f j < 256) : (txL c at_ f).length ≤ 47 := by
  have h1 := nmL_le c hc
  have h2 := fmL_le c hc
  have h3 := (pcL_lt (fmL c) c f ((at_ + szF c) % 65536) (fmL c).length hc (fun i hi => (nuF_lt c hc f n hn hb i hi).1) _ (Nat.le_refl _)).2
  unfold txL
  rw [List.length_append]
  omega
theorem wrap_at (at_ k : Nat) : IntKind.u16.wrap ((at_ : Int) + IntKind.u16.wrap (k : Int)) = ((at_ + k) % 65536 : Nat) := by
  simp only [IntKind.wrap_u16]
  omega
attribute [local irreducible] nmF fmF szF cyF txL nmL wdF plF nuF opL pcL byL hxL lstG restL lnI lnQ okN
theorem rlist_any (a : Option Addr) (n cap at_ : Nat) (f : Nat → Nat) (w : World) (hR : Row w a n f) (hcap : n ≤ cap) (hat : at_ < 65536) (hn : n ≤ 1048576) :
    Calls Tryd.prog 18 #[.slice a n cap, .int .u16 at_] w fun e w' => ∃ v, e = .returned v ∧ w'.ownsRow w.heap.size 9 1 v (lstG n at_ f n 0).length (strV (lstG n at_ f n 0)) ∧ Below w.heap.size w w' := by
  by_cases hn0 : n = 0
  · subst hn0
    have e0 : lstG 0 at_ f 0 0 = [] := lstG_end _ _ _ _ _ (Nat.le_refl _)
    rw [e0]
    clear hR
    go_enter Tryd.func18, Tryd.ntmps18
    go_wp2_with fail
    go_loopw [5, 6] (fun s5 s6 wr => s5 = .slice none 0 0 ∧ s6 = .int .i64 0 ∧ wr = w) (fun _ _ _ => 0)
    case atStart => exact ⟨rfl, rfl, rfl⟩
    case round =>
      obtain ⟨rfl, rfl, rfl⟩ := hrel
      go_wp2_with fail
      go_ret
      exact ⟨_, rfl, World.ownsRow_nil _ _ _ _, Below.refl _ _⟩
  · obtain ⟨hb, h0 | ⟨g, o, rfl, hg, hc⟩⟩ := hR
    · omega
    have hT : ∀ k W, k < n → Below w.heap.size w W → Calls Tryd.prog 14 #[.slice (some ⟨g, o + k, none⟩) (n - k : Nat) (cap - k : Nat), .int .u16 ((at_ + k) % 65536 : Nat)] W fun e w' => e = .returned (textV (okN (n - k) (fun j => f (k + j))) (txL (f k) ((at_ + k) % 65536) (fun j => f (k + j))) (szF (f k))) ∧ Below W.heap.size W w' :=
      fun k W hk hB => rtext_any _ (n - k) (cap - k) ((at_ + k) % 65536) (fun j => f (k + j)) W (Row.shift (Nat.lt_of_lt_of_le hg hB.size) hb (fun i hi => (hB.cell (p := ⟨g, o + i, none⟩) hg).trans (hc i hi)) k) (by omega) (Nat.mod_lt _ (by decide))
    have hH : ∀ x s W, x < 65536 → s ≤ 10 → Calls Tryd.prog 33 #[.int .i64 (x : Nat), .int .i64 (s : Nat)] W fun e w' => e = .returned (.string (bsOf (hxL x s))) ∧ w' = W := fun x s W hx hs => rhex_any x s W hs (by omega)
    generalize hALL : lstG n at_ f n 0 = ALL
    replace hALL := Lib.hid hALL
    replace hT := Lib.hid hT
    replace hH := Lib.hid hH
    replace hb := Lib.hid hb
    replace hc := Lib.hid hc
    go_enter Tryd.func18, Tryd.ntmps18
    go_wp2_with fail
    go_loopw [5, 6] (fun s5 s6 wr => ∃ (k m : Nat) (acc : List (List Nat)), k ≤ n ∧ n ≤ k + m ∧ acc.length ≤ k ∧ Hid (acc ++ lstG n at_ f m k = ALL) ∧ s6 = .int .i64 k ∧ wr.ownsRow w.heap.size 9 1 s5 acc.length (strV acc) ∧ Below w.heap.size w wr) (fun _ s6 _ => n - (intOf s6).toNat)
    case atStart => exact ⟨0, n, [], by omega, by omega, Nat.le_refl _, Lib.hid hALL.out, rfl, World.ownsRow_nil _ _ _ _, Below.refl _ _⟩
    case round =>
      obtain ⟨k, m, acc, hk, hm, hal, hacc, rfl, ho, hB⟩ := hrel
      by_cases hlt : k < n
      · obtain ⟨m, rfl⟩ : ∃ m', m = m' + 1 := ⟨m - 1, by omega⟩
        have hTk := fun W hB => hT.out k W hlt hB
        have hfk := hb.out k hlt
        have hu := wrap_at at_ k
        have htk : decide ((k : Int) < (n : Int)) = true := decide_eq_true (by omega)
        have hx : (at_ + k) % 65536 < 65536 := Nat.mod_lt _ (by decide)
        have hnk : ((n - k : Nat) : Int) = (n : Int) - (k : Int) := by omega
        have hac := hacc.out
        rw [lstG, if_neg (by omega)] at hac
        clear hacc
        cases hok : okN (n - k) (fun j => f (k + j)) with
        | true =>
          rw [hok, if_pos rfl] at hac
          have hsz : szF (f k) ≤ n - k := by
            have := hok
            unfold okN at this
            rw [Bool.and_eq_true, decide_eq_true_eq, decide_eq_true_eq] at this
            exact this.2
          have hsp := szF_pos (f k) hfk
          have hln : lnI at_ f k = hxL ((at_ + k) % 65536) 4 ++ [32] ++ txL (f k) ((at_ + k) % 65536) (fun j => f (k + j)) := by unfold lnI; rfl
          have htl := txL_len (f k) ((at_ + k) % 65536) (n - k) (fun j => f (k + j)) hfk hsz (fun j hj => hb.out _ (by omega))
          have hHk := fun W => hH.out ((at_ + k) % 65536) 4 W hx (by decide)
          rw [hok] at hTk
          unfold textV at hTk
          rw [if_pos rfl] at hTk
          generalize lnI at_ f k = ln at *
          generalize txL (f k) ((at_ + k) % 65536) (fun j => f (k + j)) = tx at *
          generalize szF (f k) = sz at *
          have hxl := hxL_len ((at_ + k) % 65536) 4
          generalize hxL ((at_ + k) % 65536) 4 = hx4 at *
          generalize (at_ + k) % 65536 = ak at *
          have e1 : bsOf ln = bsOf hx4 ++ ⟨#[32]⟩ ++ bsOf tx := by rw [hln, bsOf_append, bsOf_append, show bsOf [32] = ⟨#[32]⟩ by decide +kernel]
          have z1 : (bsOf hx4).size = 4 := by rw [bsOf_size, hxl]
          have z2 : (bsOf tx).size ≤ 47 := by rw [bsOf_size]; exact htl
          have z3 : (bsOf hx4 ++ (⟨#[32]⟩ : ByteArray)).size = 5 := by rw [ByteArray.size_append, z1]; rfl
          have q1 : (9223372036854775807 < (bsOf hx4).size + 1) = False := by rw [eq_iff_iff, iff_false]; omega
          have q2 : (9223372036854775807 < (bsOf hx4 ++ (⟨#[32]⟩ : ByteArray)).size + (bsOf tx).size) = False := by rw [eq_iff_iff, iff_false]; omega
          have q3 : (9223372036854775807 < (bsOf hx4).size + 1 + (bsOf tx).size) = False := by rw [eq_iff_iff, iff_false]; omega
          have q4 : (9223372036854775807 < (bsOf hx4).size + (1 + (bsOf tx).size)) = False := by rw [eq_iff_iff, iff_false]; omega
          replace hTk := Lib.hid hTk
          replace hHk := Lib.hid hHk
          replace hac := Lib.hid hac
          replace e1 := Lib.hid e1
          clear hln z1 z2 z3
          go_wp2_with fail
          refine (hTk.out _ hB).mono ?_
          rintro e W1 ⟨rfl, hb1⟩
          have ho1 := ho.kept (row := none) ⟨hb1.os, hb1.tape, hb1.output, hb1.size, fun k hk _ => hb1.block k hk⟩ (by cases u5.ownBlock <;> simp)
          have hB1 := hB.trans (hb1.mono hB.size)
          clear ho hB hb1
          go_wp2_with fail
          refine (hHk.out _).mono ?_
          rintro e W2 ⟨rfl, rfl⟩
          obtain ⟨j0, hj0, hz0, hz1, hz2⟩ := info_parts info_partsS
          generalize hLN : bsOf hx4 ++ (⟨#[32]⟩ : ByteArray) ++ bsOf tx = LN at *
          have ho3 := ho1.alloc (.cells #[.string LN] 9)
          have hB3 := hB1.alloc hB1.size (.cells #[.string LN] 9)
          have hsz1 := hB1.size
          have hsz3 := hB3.size
          go_wp2_with (at_builtin; refine wpList_append_own _ rfl _ _ 39 rfl w.heap.size 9 j0 _ 1 16 Tryd.underlying39 hj0 hz0 hz1 hz2 rfl (by decide) _ _ _ rfl ho3 ⟨W2.heap.size, 0, none⟩ 1 1 [.string LN] rfl rfl (cell_one_new _ _ _) (by simp [Value.oneCell']) (by unfold maxLen; omega) (by omega) (by simp; omega) ?_)
          intro v' w9 hown9 hgrow _
          have hB9 := hB3.grown hgrow hB3.size (fun r e => (ho3.lt r e).1)
          rw [← e1.out, strV_snoc] at hown9
          clear ho1 ho3 hB1 hB3
          go_wp2_with fail
          go_roundw
          case rel => exact ⟨k + sz, m, acc ++ [ln], by omega, by omega, by rw [List.length_append, List.length_singleton]; omega, Lib.hid (by rw [List.append_assoc]; exact hac.out), by go_num, by rw [List.length_append]; exact hown9, hB9⟩
          case measure => simp [intOf]; omega
        | false =>
          rw [hok, if_neg (by decide)] at hac
          rw [hok] at hTk
          unfold textV at hTk
          rw [if_neg (by decide)] at hTk
          generalize (at_ + k) % 65536 = ak at *
          replace hTk := Lib.hid hTk
          replace hac := Lib.hid hac
          clear hok
          go_wp2_with fail
          refine (hTk.out _ hB).mono ?_
          rintro e W1 ⟨rfl, hb1⟩
          have ho1 := ho.kept (row := none) ⟨hb1.os, hb1.tape, hb1.output, hb1.size, fun k hk _ => hb1.block k hk⟩ (by cases u5.ownBlock <;> simp)
          have hB1 := hB.trans (hb1.mono hB.size)
          clear ho hB hb1 hTk
          go_wp2_with fail
          go_loopw [5, 6] (fun s5 s6 wr => ∃ (i q : Nat) (ac : List (List Nat)), i ≤ n ∧ n = i + q ∧ ac.length ≤ i ∧ Hid (ac ++ restL at_ f q i = ALL) ∧ s6 = .int .i64 i ∧ wr.ownsRow w.heap.size 9 1 s5 ac.length (strV ac) ∧ Below w.heap.size w wr) (fun _ s6 _ => n - (intOf s6).toNat)
          case atStart => exact ⟨k, n - k, acc, by omega, by omega, hal, hac, rfl, ho1, hB1⟩
          case round =>
            obtain ⟨i, q, ac, hi, hq, hal2, hac2, rfl, ho, hB⟩ := hrel
            clear ho1 hB1 hac hT hnk hx hu htk hfk
            by_cases hlt2 : i < n
            · obtain ⟨q, rfl⟩ : ∃ q', q = q' + 1 := ⟨q - 1, by omega⟩
              have hfi := hb.out i hlt2
              have hci := (hB.cell (p := ⟨g, o + i, none⟩) hg).trans (hc.out i hlt2)
              have hu := wrap_at at_ i
              have hti : decide ((i : Int) < (n : Int)) = true := decide_eq_true (by omega)
              have hac := hac2.out
              rw [restL] at hac
              clear hac2
              have hln : lnQ at_ f i = hxL ((at_ + i) % 65536) 4 ++ [32, 63, 32] ++ hxL (f i) 2 := by unfold lnQ; rfl
              have hx : (at_ + i) % 65536 < 65536 := Nat.mod_lt _ (by decide)
              have hH4 : ∀ W, Calls Tryd.prog 33 #[.int .i64 ((at_ + i) % 65536 : Nat), .int .i64 4] W fun e w' => e = .returned (.string (bsOf (hxL ((at_ + i) % 65536) 4))) ∧ w' = W := fun W => hH.out ((at_ + i) % 65536) 4 W hx (by decide)
              have hH2 : ∀ W, Calls Tryd.prog 33 #[.int .i64 (f i : Nat), .int .i64 2] W fun e w' => e = .returned (.string (bsOf (hxL (f i) 2))) ∧ w' = W := fun W => hH.out (f i) 2 W (by omega) (by decide)
              generalize lnQ at_ f i = ln at *
              have hxl := hxL_len ((at_ + i) % 65536) 4
              have hxl2 := hxL_len (f i) 2
              generalize hxL ((at_ + i) % 65536) 4 = hx4 at *
              generalize hxL (f i) 2 = hx2 at *
              generalize f i = fi at *
              generalize (at_ + i) % 65536 = ai at *
              have hw1 : IntKind.i64.wrap (ai : Int) = (ai : Int) := IntWalk.i64_in _ (by omega)
              have hw2 : IntKind.i64.wrap (fi : Int) = (fi : Int) := IntWalk.i64_in _ (by omega)
              have e1 : bsOf ln = bsOf hx4 ++ ⟨#[32, 63, 32]⟩ ++ bsOf hx2 := by rw [hln, bsOf_append, bsOf_append, show bsOf [32, 63, 32] = ⟨#[32, 63, 32]⟩ by decide +kernel]
              have z1 : (bsOf hx4).size = 4 := by rw [bsOf_size, hxl]
              have z2 : (bsOf hx2).size = 2 := by rw [bsOf_size, hxl2]
              have z3 : (bsOf hx4 ++ (⟨#[32, 63, 32]⟩ : ByteArray)).size = 7 := by rw [ByteArray.size_append, z1]; rfl
              have q1 : (9223372036854775807 < (bsOf hx4).size + 3) = False := by rw [eq_iff_iff, iff_false]; omega
              have q2 : (9223372036854775807 < (bsOf hx4 ++ (⟨#[32, 63, 32]⟩ : ByteArray)).size + (bsOf hx2).size) = False := by rw [eq_iff_iff, iff_false]; omega
              have q3 : (9223372036854775807 < (bsOf hx4).size + 3 + (bsOf hx2).size) = False := by rw [eq_iff_iff, iff_false]; omega
              have q4 : (9223372036854775807 < (bsOf hx4).size + (3 + (bsOf hx2).size)) = False := by rw [eq_iff_iff, iff_false]; omega
              obtain ⟨j0, hj0, hz0, hz1, hz2⟩ := info_parts info_partsS
              generalize hLN : bsOf hx4 ++ (⟨#[32, 63, 32]⟩ : ByteArray) ++ bsOf hx2 = LN at *
              have hBd := hB.drew
              have hoD := ho.drew
              have ho3 := (ho.alloc (.cells #[.string LN] 9)).drew
              have hB3 := (hB.alloc hB.size (.cells #[.string LN] 9)).drew
              have hSd : World.cell? _ ⟨g, o + i, none⟩ = some (.int .u8 (fi : Nat)) := (hBd.cell (p := ⟨g, o + i, none⟩) hg).trans ((hB.cell (p := ⟨g, o + i, none⟩) hg).symm.trans hci)
              have hSd3 : World.cell? _ ⟨g, o + i, none⟩ = some (.int .u8 (fi : Nat)) := (hB3.cell (p := ⟨g, o + i, none⟩) hg).trans ((hB.cell (p := ⟨g, o + i, none⟩) hg).symm.trans hci)
              have hszd := hBd.size
              have hszr := hB.size
              have hsz3 := hB3.size
              replace hH4 := Lib.hid hH4
              replace hH2 := Lib.hid hH2
              replace hac := Lib.hid hac
              replace e1 := Lib.hid e1
              replace hb := Lib.hid hb
              have hig : g < w.heap.size := hg
              replace hq := Lib.hid hq
              clear hln z1 z2 z3 hc hci hH
              have hin : (i : Int) < (n : Int) := by omega
              have hi0 : (0 : Int) ≤ (i : Int) := by omega
              go_wp2_with fail
              go_region_held3 (fun W => W.cell? ⟨g, o + i, none⟩ = some (.int .u8 (fi : Nat)))
                (first | (with_reducible exact hSd) | (with_reducible exact hSd3) | (with_reducible exact hS9) | go_keep)
                (first
                  | (go_at_call 33; with_reducible refine (hH4.out _).mono ?_; rintro e W4 ⟨rfl, rfl⟩)
                  | (go_at_call 33; with_reducible refine (hH2.out _).mono ?_; rintro e W4 ⟨rfl, rfl⟩)
                  | (refine step_append_lies _ (by rfl) _ _ _ (by rfl) w.heap.size 9 j0 _ 1 16 Tryd.underlying39 hj0 hz0 hz1 hz2 rfl (by decide) _ _ _ (by rfl) ho3 ⟨wr.heap.size, 0, none⟩ 1 1 [.string LN] (by rfl) (by rfl) (World.news_of_block (cs := #[.string LN]) (t := 9) (fr := (0, 0)) (heap_alloc_new _ _)) (by simp [Value.oneCell']) (by decide) (by unfold maxLen; omega) (by omega) (by simp; omega) (wr.heap.size + 1) (by simp) ?_; intro g9 cap9 w9 hown9 hgrow hat9 hlt9; have hB9 := hB3.grown hgrow hB3.size (fun r e => (ho3.lt r e).1); have hS9 : w9.cell? ⟨g, o + i, none⟩ = some (.int .u8 (fi : Nat)) := (hB9.cell (p := ⟨g, o + i, none⟩) hig).trans ((hB.cell (p := ⟨g, o + i, none⟩) hig).symm.trans hSd)))
              all_goals
                rw [← e1.out, strV_snoc] at hown9
                try (go_wp2_with fail)
                go_roundw
                case rel => exact ⟨i + 1, q, ac ++ [ln], by omega, by have := hq.out; omega, by rw [List.length_append, List.length_singleton]; omega, Lib.hid (by rw [List.append_assoc]; exact hac.out), by go_num, by rw [List.length_append]; exact hown9, hB9⟩
                case measure => simp [intOf]; omega
            · obtain rfl : i = n := by omega
              obtain rfl : q = 0 := by omega
              have hac := hac2.out
              rw [show restL at_ f 0 i = [] by unfold restL; rfl, List.append_nil] at hac
              have htk : decide ((i : Int) < (i : Int)) = false := decide_eq_false (by omega)
              subst hac
              clear hq hal2 hac2 hi hal hk hm hlt hlt2
              go_wp2_with fail
              go_ret
              exact ⟨_, rfl, ho, hB⟩
      · obtain rfl : k = n := by omega
        have hac := hacc.out
        rw [lstG_end _ _ _ _ _ (Nat.le_refl _), List.append_nil] at hac
        have htk : decide ((k : Int) < (k : Int)) = false := decide_eq_false (by omega)
        subst hac
        go_wp2_with fail
        go_ret
        exact ⟨_, rfl, ho, hB⟩
end Go.Proofs.YtlogijjgachdjaaDoor
