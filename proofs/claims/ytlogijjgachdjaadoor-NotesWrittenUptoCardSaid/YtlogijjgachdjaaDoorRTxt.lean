/-
  Text, by the document.
-/
import Derived.Test.YtlogijjgachdjaaDoorRPl
import Derived.Test.YtlogijjgachdjaaDoorROp
import Derived.Test.YtlogijjgachdjaaDoorROf
import Derived.Test.YtlogijjgachdjaaDoorTxt
import Derived.Lib.QuietBelow
import Derived.BigQuiet
namespace Go.Proofs.YtlogijjgachdjaaDoor
open Go.RowKit Go.Sort
set_option maxRecDepth 100000
set_option maxHeartbeats 4000000
set_option linter.unusedVariables false

/-- The bytes of a number from the j-th on, d of them. -/
def accG (f : Nat → Nat) (p : Nat) : Nat → Nat → Nat
  | _, 0 => 0
  | j, d + 1 => f (p + j) + 256 * accG f p (j + 1) d
theorem accG_nu (l : List Nat) (i : Nat) (f : Nat → Nat) : accG f (plF l i) 0 (wdF (l.getD i 0)) = nuF l i f := by
  have h := wdF_le (l.getD i 0)
  unfold nuF
  generalize wdF (l.getD i 0) = y at *
  rcases (by omega : y = 0 ∨ y = 1 ∨ y = 2) with rfl | rfl | rfl
  · rfl
  · simp [accG]
  · simp [accG]
theorem accG_lt (f : Nat → Nat) (p : Nat) : ∀ d j, (∀ k, k < d → f (p + (j + k)) < 256) → accG f p j d < 256 ^ d
  | 0, _, _ => by simp [accG]
  | d + 1, j, h => by
    have h1 := accG_lt f p d (j + 1) (fun k hk => by have := h (k + 1) (by omega); rwa [show j + (k + 1) = j + 1 + k by omega] at this)
    have h2 := h 0 (by omega)
    rw [Nat.add_zero] at h2
    rw [accG, Nat.pow_succ]
    omega
attribute [local irreducible] nmF fmF szF cyF txL nmL wdF plF nuF opL pcL byL
theorem rtext_any (a : Option Addr) (n cap at_ : Nat) (f : Nat → Nat) (w : World) (hR : Row w a n f) (hcap : n ≤ cap) (hat : at_ < 65536) :
    Calls Tryd.prog 14 #[.slice a n cap, .int .u16 at_] w fun e w' => e = .returned (textV (okN n f) (txL (f 0) at_ f) (szF (f 0))) ∧ Below w.heap.size w w' := by
  by_cases hn : n = 0
  · have hok : okN n f = false := by unfold okN; rw [decide_eq_false (by omega), Bool.false_and]
    rw [hok]
    unfold textV
    rw [if_neg (by decide)]
    clear hR
    have t1 : ((n : Int) == 0) = true := by rw [hn]; rfl
    clear hn hok hcap
    go_enter Tryd.func14, Tryd.ntmps14
    go_wp2_with fail
    go_ret3
    exact ⟨rfl, Below.refl _ _⟩
  · obtain ⟨hb, h0 | ⟨g, o, rfl, hg, hc⟩⟩ := hR
    · omega
    have hf0 := hb 0 (by omega)
    have hc0 := hc 0 (by omega)
    rw [Nat.add_zero] at hc0
    have t1 : ((n : Int) == 0) = false := by rw [beq_eq_false_iff_ne]; omega
    have HOf := fun W => rof_any (f 0) W hf0
    have hHd : okN n f = decide (szF (f 0) ≤ n) := by unfold okN; rw [decide_eq_true (show 1 ≤ n by omega), Bool.true_and]
    rw [hHd]
    by_cases hsz : szF (f 0) ≤ n
    · rw [decide_eq_true hsz]
      unfold textV
      rw [if_pos rfl]
      have hszc := (fm_all (f 0) hf0).2.2.2.2.1
      have hnl := nmL_le (f 0) hf0
      have hL2 := fmL_le (f 0) hf0
      have hSz := fmF_len (f 0)
      have hSb := fun k h => fmF_byte (f 0) k hf0 h
      obtain ⟨bh, hbh⟩ : ∃ bh, (at_ + szF (f 0)) % 65536 = bh := ⟨_, rfl⟩
      have hbh2 : bh < 65536 := by omega
      have hnu := nuF_lt (f 0) hf0 f n hsz hb
      have HP := fun W => places_any (f 0) W hf0
      have HPs : ∀ k, pcL (fmL (f 0)) (f 0) f bh (k + 1) = pcL (fmL (f 0)) (f 0) f bh k ++ ((if k = 0 then 32 else 44) :: opL ((fmL (f 0)).getD k 0) (f 0) (nuF (fmL (f 0)) k f) bh) := fun k => by rw [pcL]
      have HP0 : pcL (fmL (f 0)) (f 0) f bh 0 = [] := by unfold pcL; rfl
      have HPl := pcL_lt (fmL (f 0)) (f 0) f bh (fmL (f 0)).length hf0 (fun i hi => (hnu i hi).1)
      have HO : ∀ k, k < (fmL (f 0)).length → ∀ W, Calls Tryd.prog 28 #[.int .u8 ((fmL (f 0)).getD k 0), .int .i64 (nuF (fmL (f 0)) k f), .int .u8 (f 0), .int .u16 bh] W fun e w' => e = .returned (.string (bsOf (opL ((fmL (f 0)).getD k 0) (f 0) (nuF (fmL (f 0)) k f) bh))) ∧ Below W.heap.size W w' :=
        fun k hk W => rop_any _ (f 0) _ bh W (fm_letters (f 0) hf0 k hk) hf0 (hnu k hk).1 hbh2 (hnu k hk).2
      have HOl : ∀ k, k < (fmL (f 0)).length → (opL ((fmL (f 0)).getD k 0) (f 0) (nuF (fmL (f 0)) k f) bh).length ≤ 20 := fun k hk => (opL_lt _ (f 0) _ bh hf0 (hnu k hk).1).2
      have HW := fun k (hk : k < (fmF (f 0)).size) W => rwidth_any ((fmL (f 0)).getD k 0) W (by have := (hSb k hk).2; omega)
      have hpa := fun k (hk : k < (fmL (f 0)).length) => (pl_all (f 0) hf0 k hk).1
      have hac := fun k => accG_nu (fmL (f 0)) k f
      have HT : txL (f 0) at_ f = nmL (f 0) ++ pcL (fmL (f 0)) (f 0) f bh (fmL (f 0)).length := by unfold txL; rw [hbh]
      have hnmF : nmF (f 0) = bsOf (nmL (f 0)) := by unfold nmF; rfl
      have hnz : (nmL (f 0)).length ≤ 5 := hnl
      unfold ntV at HOf
      rw [hnmF] at HOf
      rw [HT]
      clear hHd HT hnmF
      generalize fmF (f 0) = S at *
      generalize szF (f 0) = sz at *
      generalize cyF (f 0) = cy at *
      generalize hLL : (fmL (f 0)).length = L at *
      obtain ⟨OP, hOP⟩ : ∃ OP : Nat → List Nat, ∀ k, opL ((fmL (f 0)).getD k 0) (f 0) (nuF (fmL (f 0)) k f) bh = OP k := ⟨_, fun _ => rfl⟩
      simp only [hOP] at HPs HO HOl
      generalize pcL (fmL (f 0)) (f 0) f bh = P at *
      obtain ⟨NU, hNU⟩ : ∃ NU : Nat → Nat, ∀ k, nuF (fmL (f 0)) k f = NU k := ⟨_, fun _ => rfl⟩
      simp only [hNU] at HO hac hnu
      obtain ⟨X, hX⟩ : ∃ X : Nat → Nat, ∀ k, (fmL (f 0)).getD k 0 = X k := ⟨_, fun _ => rfl⟩
      simp only [hX] at HO HW hSb hpa hac hnu
      obtain ⟨PL, hPL⟩ : ∃ PL : Nat → Nat, ∀ k, plF (fmL (f 0)) k = PL k := ⟨_, fun _ => rfl⟩
      have hPLe : plF (fmL (f 0)) = PL := funext hPL
      simp only [hPL] at hpa hac
      simp only [hPLe] at HP
      clear hOP hNU hX hPL hPLe hLL
      generalize nmL (f 0) = nm at *
      generalize hq : f 0 = c at *
      replace hq := Lib.hid hq
      have ht : decide ((n : Int) < (sz : Int)) = false := decide_eq_false (by omega)
      have hbw : IntKind.u16.wrap ((at_ : Int) + IntKind.u16.wrap (sz : Int)) = (bh : Int) := by
        simp only [IntKind.wrap_u16]
        omega
      replace HOf := Lib.hid HOf
      replace HP := Lib.hid HP
      replace HPs := Lib.hid HPs
      replace HPl := Lib.hid HPl
      replace HO := Lib.hid HO
      replace HOl := Lib.hid HOl
      replace HW := Lib.hid HW
      replace hSb := Lib.hid hSb
      replace hpa := Lib.hid hpa
      replace hac := Lib.hid hac
      replace hnu := Lib.hid hnu
      replace hb := Lib.hid hb
      replace hc := Lib.hid hc
      replace hbh := Lib.hid hbh
      go_enter Tryd.func14, Tryd.ntmps14
      go_wp2_with fail
      with_reducible refine (HOf.out _).mono ?_
      rintro e W1 ⟨rfl, hB1⟩
      have hX := Whole.fresh W1 25 #[.int .u8 c, .string (bsOf nm), .string S, .int .i64 sz, .int .i64 cy]
      have hB2 := hB1.alloc hB1.size (.cells #[.int .u8 c, .string (bsOf nm), .string S, .int .i64 sz, .int .i64 cy] 25)
      have hYN := hB1.size
      clear hB1
      go_upto_region 4 with (fail)
      generalize W1.alloc (.cells #[.int .u8 c, .string (bsOf nm), .string S, .int .i64 sz, .int .i64 cy] 25) = W2 at *
      generalize hYe : W1.heap.size = Y at *
      have x1 := hX.cell 1
      have x2 := hX.cell 2
      have x3 := hX.cell 3
      simp only [List.getElem?_toArray, List.getElem?_cons_zero, List.getElem?_cons_succ] at x1 x2 x3
      go_wp2_with fail
      refine (HP.out _).mono ?_
      rintro e W3 ⟨q, rfl, hI, hB3⟩
      have hX3 := hX.below hB3 hX.lt
      have hB4 := hB2.trans (hB3.mono hB2.size)
      clear hX hB2 hB3 x1 x2 x3
      go_wp2_with fail
      go_loopw [8, 10] (fun s8 s10 wr => ∃ i : Nat, i ≤ L ∧ s10 = .int .i64 i ∧ s8 = .string (bsOf (nm ++ P i)) ∧ Whole wr Y 25 #[.int .u8 c, .string (bsOf nm), .string S, .int .i64 sz, .int .i64 cy] ∧ Ints wr q L PL ∧ Below w.heap.size w wr) (fun _ s10 _ => L - (intOf s10).toNat)
      case atStart => exact ⟨0, by omega, rfl, by rw [HP0, List.append_nil], hX3, hI, hB4⟩
      case round =>
        obtain ⟨i, hi, rfl, rfl, hX, hI2, hB⟩ := hrel
        clear hX3 hI hB4
        have x2 := hX.cell 2
        have x3 := hX.cell 3
        simp only [List.getElem?_toArray, List.getElem?_cons_zero, List.getElem?_cons_succ] at x2 x3
        by_cases hlt : i < L
        · have hiS : i < S.size := by omega
          obtain ⟨h1, h128⟩ := hSb.out i hiS
          have HWi := Lib.hid (HW.out i hiS)
          have hy := wdF_le (X i)
          have hpi := hpa.out i hlt
          have haci := hac.out i
          have hti : decide ((i : Int) < (L : Int)) = true := decide_eq_true (by omega)
          generalize hwd : wdF (X i) = y at *
          have ci := hI2.cell i hlt
          obtain ⟨wo, rfl⟩ : ∃ wo, wo = wr := ⟨_, rfl⟩
          go_wp2_with fail
          refine (HWi.out _).mono ?_
          rintro e W9 ⟨rfl, rfl⟩
          go_wp2_with fail
          have hacc0 : accG f (PL i) y 0 = 0 := by rw [accG]
          go_loopw [11, 12] (fun s11 s12 wr => ∃ j : Nat, j ≤ y ∧ s11 = .int .i64 ((accG f (PL i) j (y - j) : Nat) : Int) ∧ s12 = .int .i64 ((j : Int) - 1) ∧ wr = W9) (fun _ s12 _ => (intOf s12 + 1).toNat)
          case atStart => exact ⟨y, Nat.le_refl _, by rw [Nat.sub_self, hacc0]; rfl, rfl, rfl⟩
          case round =>
            obtain ⟨j, hj, rfl, rfl, rfl⟩ := hrel
            clear hacc0
            by_cases hj0 : j = 0
            · subst hj0
              rw [Nat.sub_zero, haci]
              have tj : decide ((0 : Int) ≤ ((0 : Nat) : Int) - 1) = false := by decide
              have hPi := HPl.out i hi
              have hPs := HPs.out i
              have hOl := HOl.out i hlt
              have hO := Lib.hid (HO.out i hlt)
              have hA0 : (bsOf (nm ++ P i)).size ≤ 1000 := by rw [bsOf_size, List.length_append]; omega
              have hO0 : (bsOf (OP i)).size ≤ 20 := by rw [bsOf_size]; exact hOl
              have hcat : ∀ sp, (if i = 0 then 32 else 44) = sp → bsOf (nm ++ P i) ++ bsOf [sp] ++ bsOf (OP i) = bsOf (nm ++ P (i + 1)) := by
                intro sp hsp
                rw [hPs, hsp, ← bsOf_append, ← bsOf_append]
                congr 1
                simp
              have keepS : ∀ W, Below w.heap.size w W → Whole W Y 25 #[.int .u8 c, .string (bsOf nm), .string S, .int .i64 sz, .int .i64 cy] → W.cell? ⟨Y, 2, none⟩ = some (.string S) ∧ W.cell? ⟨Y, 3, none⟩ = some (.int .i64 sz) ∧ W.cell? ⟨g, o, none⟩ = some (.int .u8 c) :=
                fun W hB h => ⟨h.cell 2, h.cell 3, (hB.cell (p := ⟨g, o, none⟩) hg).trans hc0⟩
              replace keepS := Lib.hid keepS
              replace hcat := Lib.hid hcat
              replace hPi := Lib.hid hPi
              replace hPs := Lib.hid hPs
              have hb0 := (hB.cell (p := ⟨g, o, none⟩) hg).trans hc0
              generalize bsOf (nm ++ P i) = A0 at *
              generalize bsOf (OP i) = OL at *
              generalize hA3 : bsOf (nm ++ P (i + 1)) = A3 at *
              replace hA3 := Lib.hid hA3
              have q1 : (9223372036854775807 < A0.size + 1) = False := by rw [eq_iff_iff, iff_false]; omega
              have z2 := cell_regrown x2
              have z3 := cell_regrown x3
              have zb := cell_regrown hb0
              rcases (by omega : i = 0 ∨ i ≠ 0) with hz | hz
              · have ti : ((i : Int) == 0) = true := by rw [beq_iff_eq]; omega
                have e3 := hcat.out 32 (by rw [if_pos hz])
                clear hz
                rw [show bsOf [32] = ⟨#[32]⟩ by decide +kernel] at e3
                have hA1 : (A0 ++ (⟨#[32]⟩ : ByteArray)).size = A0.size + 1 := by rw [ByteArray.size_append]; rfl
                have hn1 : (0 : Int) < (n : Int) := by omega
                go_upto_region 19 with (fail)
                generalize A0 ++ (⟨#[32]⟩ : ByteArray) = A1 at *
                have q2 : (9223372036854775807 < A1.size + OL.size) = False := by rw [eq_iff_iff, iff_false]; omega
                replace e3 := Lib.hid e3
                have hn2 : 0 < n := by omega
                clear hA1 hA0 hO0
                clear hcat hPi hPs HO HOl HP HW hSb hpa hac hnu hb hc
                clear z2 z3 zb
                have hXd := hX.drew
                have hBd := hB.drew
                have hId : Ints _ q L PL := hI2.below ((Below.refl _ _).drew) hI2.lt
                have hSd := keepS.out _ hBd hXd
                go_region_held3 (fun W => W.cell? ⟨Y, 2, none⟩ = some (.string S) ∧ W.cell? ⟨Y, 3, none⟩ = some (.int .i64 sz) ∧ W.cell? ⟨g, o, none⟩ = some (.int .u8 c))
                  (first | (with_reducible exact hSd) | (with_reducible exact hS5))
                  ((go_at_call 28; refine (hO.out _).mono ?_; rintro e W5 ⟨rfl, hb5⟩; have hB5 := hBd.trans (hb5.mono hBd.size); have hX5 := hXd.below hb5 hXd.lt; have hI5 := hId.below hb5 hId.lt; have hS5 := keepS.out _ hB5 hX5))
                all_goals
                  try (go_wp2_with fail)
                  go_roundw
                  case rel => exact ⟨i + 1, by omega, by go_num, by rw [e3.out, hA3.out], hX5, hI5, hB5⟩
                  case measure => simp [intOf]; omega
              · have ti : ((i : Int) == 0) = false := by rw [beq_eq_false_iff_ne]; omega
                have e3 := hcat.out 44 (by rw [if_neg hz])
                clear hz
                rw [show bsOf [44] = ⟨#[44]⟩ by decide +kernel] at e3
                have hA1 : (A0 ++ (⟨#[44]⟩ : ByteArray)).size = A0.size + 1 := by rw [ByteArray.size_append]; rfl
                have hn1 : (0 : Int) < (n : Int) := by omega
                go_upto_region 19 with (fail)
                generalize A0 ++ (⟨#[44]⟩ : ByteArray) = A1 at *
                have q2 : (9223372036854775807 < A1.size + OL.size) = False := by rw [eq_iff_iff, iff_false]; omega
                replace e3 := Lib.hid e3
                have hn2 : 0 < n := by omega
                clear hA1 hA0 hO0
                clear hcat hPi hPs HO HOl HP HW hSb hpa hac hnu hb hc
                clear z2 z3 zb
                have hXd := hX.drew
                have hBd := hB.drew
                have hId : Ints _ q L PL := hI2.below ((Below.refl _ _).drew) hI2.lt
                have hSd := keepS.out _ hBd hXd
                go_region_held3 (fun W => W.cell? ⟨Y, 2, none⟩ = some (.string S) ∧ W.cell? ⟨Y, 3, none⟩ = some (.int .i64 sz) ∧ W.cell? ⟨g, o, none⟩ = some (.int .u8 c))
                  (first | (with_reducible exact hSd) | (with_reducible exact hS5))
                  ((go_at_call 28; refine (hO.out _).mono ?_; rintro e W5 ⟨rfl, hb5⟩; have hB5 := hBd.trans (hb5.mono hBd.size); have hX5 := hXd.below hb5 hXd.lt; have hI5 := hId.below hb5 hId.lt; have hS5 := keepS.out _ hB5 hX5))
                all_goals
                  try (go_wp2_with fail)
                  go_roundw
                  case rel => exact ⟨i + 1, by omega, by go_num, by rw [e3.out, hA3.out], hX5, hI5, hB5⟩
                  case measure => simp [intOf]; omega
            · obtain ⟨k, rfl⟩ : ∃ k, j = k + 1 := ⟨j - 1, by omega⟩
              have hki : ((k + 1 : Nat) : Int) - 1 = (k : Int) := by omega
              have tj : decide ((0 : Int) ≤ (k : Int)) = true := decide_eq_true (by omega)
              have tj2 : decide ((k : Int) ≥ 0) = true := decide_eq_true (by omega)
              rw [hki]
              have hst : accG f (PL i) k (y - k) = f (PL i + k) + 256 * accG f (PL i) (k + 1) (y - (k + 1)) := by
                rw [show y - k = (y - (k + 1)) + 1 by omega, accG]
              have hlt0 := accG_lt f (PL i) (y - (k + 1)) (k + 1) (fun q hq => hb.out _ (by omega))
              have hlt1 : accG f (PL i) (k + 1) (y - (k + 1)) < 256 ^ 2 := Nat.lt_of_lt_of_le hlt0 (Nat.pow_le_pow_right (by decide) (by omega))
              clear hlt0
              have hpn : PL i + k < n := by omega
              have hfk := hb.out (PL i + k) hpn
              have hck := (hB.cell (p := ⟨g, o + (PL i + k), none⟩) hg).trans (hc.out (PL i + k) hpn)
              generalize hY1 : accG f (PL i) k (y - k) = y1 at *
              replace hY1 := Lib.hid hY1
              generalize accG f (PL i) (k + 1) (y - (k + 1)) = y0 at *
              generalize f (PL i + k) = fk at *
              generalize PL i = pl at *
              have hyy : (256 * (y0 : Int) + (fk : Int)) = (y1 : Int) := by omega
              replace hst := Lib.hid hst
              have hiL : i < L := hlt
              go_wp2_with fail
              go_roundw
              case rel => exact ⟨k, by omega, by rw [hY1.out, ← hyy], by go_num, trivial⟩
              case measure => simp [intOf] <;> omega
        · obtain rfl : i = L := by omega
          have hti : decide ((i : Int) < (i : Int)) = false := decide_eq_false (by omega)
          go_wp2_with fail
          have hXd := hX.drew
          have hBd := hB.drew
          have hSd : World.cell? _ ⟨Y, 3, none⟩ = some (.int .i64 sz) := hXd.cell 3
          go_region_held3 (fun W => W.cell? ⟨Y, 3, none⟩ = some (.int .i64 sz)) (with_reducible exact hSd) (fail)
          all_goals
            try (go_wp2_with fail)
            go_ret3
            exact ⟨rfl, hBd⟩
    · rw [decide_eq_false hsz]
      unfold textV
      rw [if_neg (by decide)]
      unfold ntV at HOf
      generalize hq : f 0 = c at *
      generalize nmF c = nm at *
      generalize fmF c = fm at *
      generalize szF c = sz at *
      generalize cyF c = cy at *
      have ht : decide ((n : Int) < (sz : Int)) = true := decide_eq_true (by omega)
      replace HOf := Lib.hid HOf
      clear hb hc hHd
      go_enter Tryd.func14, Tryd.ntmps14
      go_wp2_with fail
      with_reducible refine (HOf.out _).mono ?_
      rintro e W1 ⟨rfl, hB1⟩
      have hX := Whole.fresh W1 25 #[.int .u8 c, .string nm, .string fm, .int .i64 sz, .int .i64 cy]
      have hB2 := hB1.alloc hB1.size (.cells #[.int .u8 c, .string nm, .string fm, .int .i64 sz, .int .i64 cy] 25)
      go_upto_region 4 with (fail)
      generalize W1.alloc (.cells #[.int .u8 c, .string nm, .string fm, .int .i64 sz, .int .i64 cy] 25) = W2 at *
      have x3 := hX.cell 3
      simp only [List.getElem?_toArray, List.getElem?_cons_zero, List.getElem?_cons_succ] at x3
      go_wp2_with fail
      go_ret3
      exact ⟨rfl, hB2⟩
end Go.Proofs.YtlogijjgachdjaaDoor
