/-
  A block's samples by the code, and what stays: every block that holds no samples.
-/
import Derived.Test.YtekjcgckniopdaaBDec
namespace Go.Proofs.Ytekjcgckniopdaa
open Go.RowKit Go.Shelf
set_option maxRecDepth 100000
set_option maxHeartbeats 2000000
set_option linter.unusedVariables false
set_option linter.unusedSimpArgs false

/-- No block of w but one of samples is another. -/
structure F23 (w w' : World) : Prop where
  os : w'.os = w.os
  tape : w'.tape = w.tape
  output : w'.output = w.output
  size : w.heap.size ≤ w'.heap.size
  block : ∀ k, k < w.heap.size → (∀ cs f, w.heap[k]? ≠ some (.cells cs 23 f)) → w'.heap[k]? = w.heap[k]?
theorem F23.of_below {w w' : World} (h : Below w.heap.size w w') : F23 w w' := ⟨h.os, h.tape, h.output, h.size, fun k hk _ => h.block k hk⟩
theorem F23.step {w V V' : World} {row : Option Nat} (h : F23 w V) (g : V.grownBy V' row) (hr : ∀ r, row = some r → w.heap.size ≤ r ∨ ∃ cs f, V.heap[r]? = some (.cells cs 23 f)) : F23 w V' := by
  refine ⟨g.os.trans h.os, g.tape.trans h.tape, g.output.trans h.output, Nat.le_trans h.size g.size, fun k hk hn => ?_⟩
  have h1 := h.block k hk hn
  refine (g.block k (Nat.lt_of_lt_of_le hk h.size) (fun e => ?_)).trans h1
  rcases hr k e.symm with h2 | ⟨cs, f, h2⟩
  · omega
  · exact hn cs f (h1.symm.trans h2)
theorem F23.alloc {w V : World} (h : F23 w V) (o : Obj) : F23 w (V.alloc o) := h.step (World.grownBy_alloc V o none) (fun r e => by cases e)
theorem F23.drew {w V : World} (h : F23 w V) : F23 w V.drew := ⟨h.os, h.tape, h.output, h.size, h.block⟩
theorem F23.trans {w V V' : World} (h : F23 w V) (k : F23 V V') : F23 w V' :=
  ⟨k.os.trans h.os, k.tape.trans h.tape, k.output.trans h.output, Nat.le_trans h.size k.size, fun x hx hn => by
    have h1 := h.block x hx hn
    exact (k.block x (Nat.lt_of_lt_of_le hx h.size) (fun cs f e => hn cs f (h1.symm.trans e))).trans h1⟩
theorem F23.whole {w w' : World} {x : Nat} {t : TypeId} {cs : Array Value} (h : F23 w w') (hW : Whole w x t cs) (hne : t ≠ 23) : Whole w' x t cs :=
  (h.block x hW.lt (fun ds f e => by
    have := hW.symm.trans e
    simp only [Option.some.injEq, Obj.cells.injEq] at this
    exact hne this.2.1)).trans hW
theorem own_type {w : World} {B n sz : Nat} {e : TypeId} {v : Value} {xs : List Value} {r : Nat} (h : w.ownsRow B e sz v n xs) (hv : v.ownBlock = some r) : ∃ cs f, w.heap[r]? = some (.cells cs e f) := by
  rcases h.2 with ⟨rfl, _⟩ | ⟨g', cap, cur, rfl, _, hg, _⟩
  · simp [Value.ownBlock] at hv
  · simp only [Value.ownBlock, Option.some.injEq] at hv
    subst hv
    exact ⟨_, _, hg⟩
theorem decodeF_any (w : World) (B m c : Nat) (s : Value) (xs : List Value) (a : Option Addr) (g : Nat → Nat) (p q : Int) (hS : w.ownsRow B 23 1 s m xs) (hB : B ≤ w.heap.size) (hR : Row w a 9 g) (ha : ∀ p, a = some p → p.block < B) (hp : Smp p) (hq : Smp q) (hm : (m + 16) * 2 ≤ 140737488355328) :
    Calls Try.prog 28 #[s, .slice a 9 c, .agg #[.int .i64 p, .int .i64 q]] w fun e w' => ∃ s', e = .returned (.tuple #[s', .agg #[.int .i64 (stB g p q 16).1, .int .i64 (stB g p q 16).2]]) ∧ w'.ownsRow B 23 1 s' (m + 16) (xs ++ outL g p q 16) ∧ Below B w w' ∧ F23 w w' := by
  obtain ⟨j0, hj0, hz0, hz1, hz2⟩ := info_parts info23
  have hx0 := hR.1 0 (by decide)
  have HC := Lib.hid (fun W => course_any W (g 0) p q hx0)
  have hsm : ∀ k, Smp (stB g p q k).1 ∧ Smp (stB g p q k).2 := fun k => stF_smp (g 0 / 16) (g 0 / 4 % 4) (nibO g) p q hp hq k
  have HN := Lib.hid (fun W k (hk : k < 16) (h : Row W a 9 g) => number_any W a c k g h hk)
  have HP := Lib.hid (fun W b k (h : Crs W b (stB g p q k).1 (stB g p q k).2 (g 0 / 16) (g 0 / 4 % 4)) => pass_any W b _ _ _ _ (nibO g k) h (nibO_bnd g k).1 (nibO_bnd g k).2 (by omega) (Nat.mod_lt _ (by decide)) (hsm k).1 (hsm k).2)
  have hst : ∀ k, sampF (g 0 / 16) (g 0 / 4 % 4) (stB g p q k).1 (stB g p q k).2 (nibO g k) = (stB g p q (k + 1)).1 := fun k => rfl
  have hst2 : ∀ k, (stB g p q k).1 = (stB g p q (k + 1)).2 := fun k => rfl
  have hW1 := Whole.fresh w 55 #[.int .i64 p, .int .i64 q]
  have hB1 := (Below.refl w.heap.size w).alloc (Nat.le_refl _) (.cells #[.int .i64 p, .int .i64 q] 55)
  have hW2 := hW1.alloc (.cells #[.int .i64 0, .int .i64 0] 55)
  have hV2 := Whole.fresh (w.alloc (.cells #[.int .i64 p, .int .i64 q] 55)) 55 #[.int .i64 0, .int .i64 0]
  have hB2 := hB1.alloc hB1.size (.cells #[.int .i64 0, .int .i64 0] 55)
  have hS2 := (hS.alloc (.cells #[.int .i64 p, .int .i64 q] 55)).alloc (.cells #[.int .i64 0, .int .i64 0] 55)
  rw [alloc_size] at hV2
  have hRw := Lib.hid hR
  have hR2 := row_keep hR hB2 (fun p hp => Nat.lt_of_lt_of_le (ha p hp) hB)
  have hRx := hR2
  rcases hRx with ⟨hb, h | ⟨b, o, rfl, hlt, hc⟩⟩
  · omega
  have x0 := hc 0 (by decide)
  have p0 := hW2.cell 0
  have p1 := hW2.cell 1
  simp only [List.getElem?_toArray, List.getElem?_cons_zero, List.getElem?_cons_succ, Nat.add_zero] at x0 p0 p1
  clear hb hc hW1 hB1 hS hR
  generalize hbyte : g 0 = G0 at *
  replace hbyte := Lib.hid hbyte
  generalize G0 / 16 = sh at *
  generalize G0 / 4 % 4 = fi at *
  have hfs : ∀ w a m, (store a (fnV fi) m).run Try.prog w = stored Try.prog w a (fnV fi) m := fun w a m => run_store_func Try.prog w a m _ _ _
  replace HC := Lib.hid HC.out
  go_enter Try.func28, Try.ntmps28
  go_upto_region 1 with (fail)
  generalize (w.alloc (.cells #[.int .i64 p, .int .i64 q] 55)).alloc (.cells #[.int .i64 0, .int .i64 0] 55) = W2 at *
  have hT2 : w.heap.size + 1 < W2.heap.size := hV2.lt
  have hbB : b < B := ha ⟨b, o, none⟩ rfl
  have hBS := hB
  generalize hSz : w.heap.size = S at *
  replace hSz := Lib.hid hSz
  have hV2h := Lib.hid hV2
  have hS2h := Lib.hid hS2
  have hR2h := Lib.hid hR2
  have hB2h := Lib.hid hB2
  have hst' := Lib.hid hst
  have hst2' := Lib.hid hst2
  have hsm' := Lib.hid hsm
  clear hst hst2 hsm hV2 hS2 hR2 hB2 ha
  have hSl : S < W2.heap.size := by omega
  have hbl : b < W2.heap.size := by omega
  go_cut [8] (fun s8 V => ∃ C, s8 = .pointer (some ⟨C, 0, none⟩) ∧ Crs V C p q sh fi ∧ Below W2.heap.size W2 V ∧ W2.heap.size ≤ C)
  case first =>
    have hA := Whole.fresh W2 78 #[.int .i64 0, .int .i64 0, .int .u8 0, .nilFunc]
    have hBA := (Below.refl W2.heap.size W2).alloc (Nat.le_refl _) (.cells #[.int .i64 0, .int .i64 0, .int .u8 0, .nilFunc] 78)
    replace hA := Lib.hid hA
    replace hBA := Lib.hid hBA
    go_region_held3 (fun V => V.cell? ⟨b, o, none⟩ = some (.int .u8 (G0 : Nat)) ∧ V.cell? ⟨S, 0, none⟩ = some (.int .i64 p) ∧ V.cell? ⟨S, 1, none⟩ = some (.int .i64 q))
      (first | (with_reducible exact hS5) | go_keep)
      ((go_at_call 38; (with_reducible refine (HC.out _).mono ?_); rintro e W5 ⟨rfl, hB5⟩;
         have hS5 : W5.cell? ⟨b, o, none⟩ = some (.int .u8 (G0 : Nat)) ∧ W5.cell? ⟨S, 0, none⟩ = some (.int .i64 p) ∧ W5.cell? ⟨S, 1, none⟩ = some (.int .i64 q) := cells3 (by first | exact (Below.refl _ W2).drew | exact hBA.out.drew) hB5 x0 p0 p1;
         have n0 := World.new_ne W5 _ hS5.1; have n1 := World.new_ne W5 _ hS5.2.1;
         try (have hA5 := hA.out.drew.below hB5 hA.out.lt
              have y0 := hA5.cell 0
              have y1 := hA5.cell 1
              have y2 := hA5.cell 2
              have y3 := hA5.cell 3
              have fr := hA5.free
              have hBA5 := Lib.hid (hBA.out.drew.trans (hB5.mono hBA.out.size))
              have m0 : W2.heap.size ≠ b := Nat.ne_of_gt hbl
              have m1 : W2.heap.size ≠ S := Nat.ne_of_gt hSl
              simp only [List.getElem?_toArray, List.getElem?_cons_zero, List.getElem?_cons_succ] at y0 y1 y2 y3
              replace hA5 := Lib.hid hA5)))
    · have hB9 := (Below.refl _ W2).drew.trans hB5
      go_wp2_with fail
      go_meet
      exact ⟨_, rfl, Whole.fresh W5 _ _, hB9.alloc hB9.size _, hB9.size⟩
    · have hW9 : Crs ((((W5.setCell ⟨W2.heap.size, 0, none⟩ (.int .i64 p)).setCell ⟨W2.heap.size, 1, none⟩ (.int .i64 q)).setCell ⟨W2.heap.size, 2, none⟩ (.int .u8 (sh : Nat))).setCell ⟨W2.heap.size, 3, none⟩ (fnV fi)) W2.heap.size p q sh fi := ((((hA5.out.put 0 _).put 1 _).put 2 _).put 3 _).as rfl
      have hB9 := (((hBA5.out.setCell (p := ⟨W2.heap.size, 0, none⟩) (Nat.le_refl _) (.int .i64 p)).setCell (p := ⟨W2.heap.size, 1, none⟩) (Nat.le_refl _) (.int .i64 q)).setCell (p := ⟨W2.heap.size, 2, none⟩) (Nat.le_refl _) (.int .u8 (sh : Nat))).setCell (p := ⟨W2.heap.size, 3, none⟩) (Nat.le_refl _) (fnV fi)
      replace hW9 := Lib.hid hW9
      replace hB9 := Lib.hid hB9
      clear y0 y1 y2 y3 fr
      go_wp2_with fail
      go_meet
      exact ⟨_, rfl, hW9.out, hB9.out, Nat.le_refl _⟩
  case rest =>
    obtain ⟨C, rfl, hC, hB3, hCl⟩ := hcut
    have hV3 := hV2h.out.below hB3 hV2h.out.lt
    have hS3 := hS2h.out.kept (w' := wc) (row := none) ⟨hB3.os, hB3.tape, hB3.output, hB3.size, fun k hk _ => hB3.block k hk⟩ (by cases hv : s.ownBlock <;> simp)
    have hB4 : Below B w wc := (hB2h.out.mono hB).trans (hB3.mono (by omega))
    have hF4 : F23 w wc := F23.of_below ((hB2h.out.trans (hB3.mono (by omega))).mono (Nat.le_of_eq hSz.out))
    have hwC : w.heap.size ≤ C := by have := hSz.out; omega
    have hBC : B ≤ C := by omega
    have hSC : S + 1 ≠ C := by omega
    have ha' : ∀ p, some (⟨b, o, none⟩ : Addr) = some p → p.block < B := fun p hp => by cases hp; exact hbB
    have hRB := fun V (h : Below B w V) => row_keep hRw.out h ha'
    replace hRB := Lib.hid hRB
    clear hB3 hV2h hS2h hR2h hB2h hW2 hfs HC x0 p0 p1 hSl hT2 hbl hlt hp hq ha' hRw
    go_wp2_with fail
    go_loopw [0, 15] (fun s0 s15 wr => ∃ k : Nat, k ≤ 16 ∧ s15 = .int .i64 (k : Nat) ∧ Crs wr C (stB g p q k).1 (stB g p q k).2 sh fi ∧ Whole wr (S + 1) 55 #[.int .i64 0, .int .i64 0] ∧ wr.ownsRow B 23 1 s0 (m + k) (xs ++ outL g p q k) ∧ Below B w wr ∧ F23 w wr) (fun _ s15 _ => 16 - (intOf s15).toNat)
    case atStart => exact ⟨0, by omega, rfl, hC, hV3, by show wc.ownsRow _ _ _ _ (m + 0) (xs ++ []); rw [Nat.add_zero, List.append_nil]; exact hS3, hB4, hF4⟩
    case round =>
      obtain ⟨k, hk, rfl, hC, hV, hown, hB, hF⟩ := hrel
      clear hB4 hS3 hV3 hF4
      by_cases hlt : k < 16
      · have HPk := HP.out wr C k hC
        have hNk := Lib.hid (HN.out wr k hlt (hRB.out wr hB))
        rw [hst'.out k] at HPk
        have hX := (hsm'.out (k + 1)).1
        have h2k := hst2'.out k
        rw [h2k] at HPk
        have hwx : IntKind.i16.wrap (stB g p q (k + 1)).1 = (stB g p q (k + 1)).1 := wrap16 _ hX
        have hL := outL_st g p q k
        have hne := own_apart hown hC (by decide)
        generalize hXe : (stB g p q (k + 1)).1 = X at *
        replace hXe := Lib.hid hXe
        generalize hY : (stB g p q (k + 1)).2 = Y at *
        replace HPk := Lib.hid HPk
        replace hL := Lib.hid hL
        replace hY := Lib.hid hY
        have hVC : Crs wr C (stB g p q k).1 (stB g p q k).2 sh fi := hC
        have hh := Lib.hid (And.intro hC (And.intro hV (And.intro hown (And.intro hB hF))))
        clear hC hV hown hB hF hVC h2k
        go_wp2_with fail
        refine hNk.out.mono ?_
        rintro e w' ⟨rfl, rfl⟩
        go_wp2_with fail
        refine HPk.out.mono ?_
        rintro e W6 ⟨rfl, hC6, hg6⟩
        obtain ⟨hC, hV, hown, hB, hF⟩ := hh.out
        have hF7 : F23 w (W6.alloc (.cells #[.int .i16 X] 23)) := (hF.step hg6 (fun r e => by cases e; exact .inl hwC)).alloc _
        have ho6 := (hown.kept hg6 (.inr hne)).alloc (.cells #[.int .i16 X] 23)
        have hC7 : Crs (W6.alloc (.cells #[.int .i16 X] 23)) C X Y sh fi := Whole.alloc hC6 _
        have hV7 := (hV.only hg6 hSC).alloc (.cells #[.int .i16 X] 23)
        have hB7 : Below B w (W6.alloc (.cells #[.int .i16 X] 23)) := (hB.trans (grown_below hg6 (Nat.le_trans (show B ≤ C from hBC) (Nat.le_of_lt (Whole.lt hC))) (fun r e => by cases e; exact hBC))).alloc (Nat.le_trans hBC (Nat.le_of_lt (Whole.lt hC6))) _
        have hBs : B ≤ (W6.alloc (.cells #[.int .i16 X] 23)).heap.size := Nat.le_trans hBC (Nat.le_of_lt (Whole.lt hC7))
        have hne7 := own_apart ho6 hC7 (by decide)
        have hneV := own_apart ho6 hV7 (by decide)
        clear hC hV hown hB hF hC6 hg6 hne hh
        go_wp2_with (at_builtin; refine wpList_append_own _ rfl _ _ 27 rfl B 23 j0 _ 1 2 Try.underlying27 hj0 hz0 hz1 hz2 rfl (by decide) _ _ _ rfl ho6 ⟨W6.heap.size, 0, none⟩ 1 1 [.int .i16 X] rfl rfl (cell_one_new _ _ _) (by simp [Value.oneCell']) (by unfold maxLen; omega) (by omega) (by assumption) ?_)
        intro v' w9 hown9 hgrow _
        have hC9 : Crs w9 C X Y sh fi := whole_grown hC7 hgrow hne7
        have hV9 := whole_grown hV7 hgrow hneV
        have hB9 := hB7.trans (grown_below hgrow hBs (own_le ho6))
        have hF9 := hF7.step hgrow (fun r e => .inr (own_type ho6 e))
        first | rw [hL.out] at hown9 | rw [List.append_assoc, hL.out] at hown9
        have hfin := Lib.hid (And.intro hC9 (And.intro hV9 (And.intro hown9 (And.intro hB9 hF9))))
        clear ho6 hC7 hV7 hB7 hBs hne7 hneV hown9 hgrow hC9 hV9 hB9 hF7 hF9 hNk HPk
        go_wp2_with fail
        go_roundw
        case rel => exact ⟨k + 1, by omega, by go_num, by rw [hXe.out, hY.out]; exact hfin.out.1, hfin.out.2.1, hfin.out.2.2.1, hfin.out.2.2.2.1, hfin.out.2.2.2.2⟩
        case measure => simp [intOf]; omega
      · obtain rfl : k = 16 := by omega
        have hh := Lib.hid (And.intro hC (And.intro hV (And.intro hown (And.intro hB hF))))
        have c0 := Whole.cell hC 0
        have c1 := Whole.cell hC 1
        have v0 := hV.cell 0
        have v1 := hV.cell 1
        have fr := hV.free
        simp only [List.getElem?_toArray, List.getElem?_cons_zero, List.getElem?_cons_succ] at c0 c1 v0 v1
        have hne := own_apart hown hV (by decide)
        clear hC hV hown hB hF
        go_upto_region 7 with (fail)
        go_still_tail 4, (by kernel_rfl)
        show wpList _ _ _ _ _ wr.drew
        obtain ⟨hC, hV, hown, hB, hF⟩ := hh.out
        have hF1 : F23 w wr.drew := hF.drew
        have hV1 : Whole wr.drew (S + 1) 55 #[.int .i64 0, .int .i64 0] := hV
        have hO1 : wr.drew.ownsRow B 23 1 u0 (m + 16) (xs ++ outL g p q 16) := hown
        have hB1 : Below B w wr.drew := hB.drew
        have w0 : wr.drew.cell? ⟨S + 1, 0, none⟩ = some (.int .i64 0) := v0
        have w1 : wr.drew.cell? ⟨S + 1, 1, none⟩ = some (.int .i64 0) := v1
        have fr1 : ∀ i, wr.drew.frozen? ⟨S + 1, i, none⟩ = false := fr
        clear hC hV hown hB hF hh c0 c1 v0 v1 fr
        generalize wr.drew = W1 at *
        generalize hE1 : (stB g p q 16).1 = E1 at *
        generalize hE2 : (stB g p q 16).2 = E2 at *
        replace hE1 := Lib.hid hE1
        replace hE2 := Lib.hid hE2
        have hV2 := Lib.hid (((hV1.put 0 (.int .i64 E1)).put 1 (.int .i64 E2)).as (ds := #[.int .i64 E1, .int .i64 E2]) rfl)
        have hg2 := only_set (only_set (Below.only (Below.refl W1.heap.size W1) (S + 1)) 0 (.int .i64 E1)) 1 (.int .i64 E2)
        have hO2 := Lib.hid (hO1.kept hg2 (.inr hne))
        have hB2 := Lib.hid ((hB1.setCell (p := ⟨S + 1, 0, none⟩) (Nat.le_trans hBS (Nat.le_succ S)) (.int .i64 E1)).setCell (p := ⟨S + 1, 1, none⟩) (Nat.le_trans hBS (Nat.le_succ S)) (.int .i64 E2))
        have hF2 := Lib.hid (hF1.step hg2 (fun r e => by cases e; exact .inl (by have := hSz.out; omega)))
        generalize hW2 : (W1.setCell ⟨S + 1, 0, none⟩ (.int .i64 E1)).setCell ⟨S + 1, 1, none⟩ (.int .i64 E2) = W2' at *
        replace hW2 := Lib.hid hW2
        clear hg2 hV1 hO1 hB1 hF1
        go_wp2_with fail
        rw [hW2.out]
        exact bodyPost_ret (results_tmp_cell (fn := Try.f28) (p1 := 6) (p2 := 7) (ty2 := 55) rfl _ _ _ _ _ _ (0, 0) _ rfl rfl hV2.out Try.underlying55 rfl (by kernel_rfl)) rfl ⟨_, by rw [hE1.out, hE2.out]; rfl, hO2.out, hB2.out, hF2.out⟩
end Go.Proofs.Ytekjcgckniopdaa
