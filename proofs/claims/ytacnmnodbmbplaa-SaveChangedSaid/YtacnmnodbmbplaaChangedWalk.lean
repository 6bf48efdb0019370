/-
  SaveChanged: the walk.
-/
import Derived.Test.YtacnmnodbmbplaaHeads
import Derived.Test.YtacnmnodbmbplaaOpenPuts
namespace Go.Proofs.Ytacnmnodbmbplaa
open Go.RowKit Go.Shelf
set_option maxRecDepth 100000
set_option maxHeartbeats 1000000

/-- N bytes F are a body under its head. -/
def Sealed (N : Nat) (F : Nat → Nat) : Prop := ∃ m f, N = 13 + m ∧ m ≤ 16777216 ∧ F = headF m f ∧ ∀ i, i < m → f i < 256
theorem Sealed.le {N : Nat} {F : Nat → Nat} (h : Sealed N F) : 13 ≤ N ∧ N ≤ 16777229 := by obtain ⟨m, f, rfl, h1, _⟩ := h; omega
theorem Sealed.ok {N : Nat} {F : Nat → Nat} (h : Sealed N F) : openE N F = 0 := by obtain ⟨m, f, rfl, h1, rfl, _⟩ := h; exact head_ok f h1
theorem Sealed.upd {N : Nat} {F : Nat → Nat} (h : Sealed N F) (k x : Nat) (hk : k < N) (hx : x < 256) (hne : x ≠ F k) : openE N (upd F k x) ≠ 0 := by
  obtain ⟨m, f, rfl, h1, rfl, h2⟩ := h
  exact head_upd h2 h1 hk hx hne
theorem Sealed.len {N n : Nat} {F F' : Nat → Nat} (h : Sealed N F) (hF : ∀ i, i < 13 → i < n → F' i = F i) (hn : n ≠ N) : openE n F' ≠ 0 := by
  obtain ⟨m, f, rfl, h1, rfl, h2⟩ := h
  exact head_len h1 hF hn
theorem wdone_all {b : Nat} {v : Value} {s : St} (w : World) (h : Wr w b v s) :
    Calls Try.prog 12 #[.pointer (some ⟨b, 0, none⟩)] w fun e w' => ∃ a n c E, e = .returned (.tuple #[.slice a n c, .int .i64 (E : Nat)]) ∧ Below w.heap.size w w' ∧
      (E = 0 → ∃ G F, a = some ⟨G, 0, none⟩ ∧ c = n ∧ Holds w' G n F ∧ Sealed n F ∧ w.heap.size ≤ G) := by
  by_cases he : s.doneE = 0
  · refine (wdone_ok w h he).mono ?_
    rintro e w' ⟨G, rfl, hH, hG, hB⟩
    exact ⟨_, _, _, 0, rfl, hB, fun _ => ⟨G, _, rfl, rfl, hH, ⟨s.n, s.f, rfl, h.good.n, rfl, h.body.1⟩, hG⟩⟩
  · refine (wdone_no w h he).mono ?_
    rintro e w' ⟨rfl, hB⟩
    exact ⟨none, 0, 0, s.doneE, rfl, hB, fun h => absurd h he⟩
theorem xor_u8 (a b : Nat) (ha : a < 256) (hb : b < 256) : bits BinOp.xor IntKind.u8 (a : Int) (b : Int) = ((a ^^^ b : Nat) : Int) ∧ a ^^^ b < 256 := by
  have hlt : a ^^^ b < 2 ^ 8 := Nat.xor_lt_two_pow ha hb
  refine ⟨?_, hlt⟩
  have e : (BitVec.ofInt 8 (a : Int) ^^^ BitVec.ofInt 8 (b : Int)).toNat = a ^^^ b := by
    rw [BitVec.toNat_xor, BitVec.toNat_ofInt, BitVec.toNat_ofInt]
    have a1 : ((a : Int) % ((2 ^ 8 : Nat) : Int)).toNat = a := by omega
    have a2 : ((b : Int) % ((2 ^ 8 : Nat) : Int)).toNat = b := by omega
    rw [a1, a2]
  show IntKind.u8.wrap ((BitVec.ofInt 8 (a : Int) ^^^ BitVec.ofInt 8 (b : Int)).toNat : Nat) = _
  rw [e]
  generalize a ^^^ b = z at *
  simp only [IntKind.wrap_u8]
  omega
theorem xor_ne {a b : Nat} (hb : b ≠ 0) : a ^^^ b ≠ a := by
  intro h
  have : a ^^^ (a ^^^ b) = a ^^^ a := by rw [h]
  rw [← Nat.xor_assoc, Nat.xor_self, Nat.zero_xor] at this
  exact hb this
theorem sm_sealed : Sealed 21 (headF 8 St.sm.f) := ⟨8, _, rfl, by decide, rfl, by decide +kernel⟩
theorem Row.sub {w : World} {a : Option Addr} {n m : Nat} {f : Nat → Nat} (h : Row w a n f) (hm : m ≤ n) : Row w a m f :=
  ⟨fun i hi => h.1 i (by omega), by
    rcases h.2 with h0 | ⟨x, p, e, hx, hc⟩
    · exact .inl (by omega)
    · exact .inr ⟨x, p, e, hx, fun i hi => hc i (by omega)⟩⟩
namespace saveChanged
theorem walk (sa : Option Addr) (sn sc : Nat) (sf : Nat → Pt) (at_ less : Int) (by_ : Nat) (ma : Option Addr) (mn mc : Nat) (mf : Nat → Nat) (w : World) (hS : PutsLie w sa sn sf) (hsn : sn ≤ maxLen) (hby : by_ < 256)
    (hat : -9223372036854775808 ≤ at_ ∧ at_ ≤ 9223372036854775807) (hle : -9223372036854775808 ≤ less ∧ less ≤ 9223372036854775807) (hM : Row w ma mn mf) (hmn : mn ≤ 140737488351232) :
    Calls Try.prog 6 #[.slice sa sn sc, harmV at_ by_ less ma mn mc] w fun e w' => e = .returned (.bool true) ∧ Below w.heap.size w w' := by
  have hB0 := (Below.refl w.heap.size w).alloc (Nat.le_refl _) (.cells #[.int .i64 at_, .int .u8 by_, .int .i64 less, .slice ma mn mc] 62)
  have hX := Whole.fresh w 62 #[.int .i64 at_, .int .u8 by_, .int .i64 less, .slice ma mn mc]
  have hHat := Lib.hid hat
  have hHle := Lib.hid hle
  have hHsn := Lib.hid hsn
  have hHmn := Lib.hid hmn
  have hHby := Lib.hid hby
  have hHM := Lib.hid hM
  have hHS := Lib.hid hS
  clear hat hle hsn hmn hby hM hS
  unfold harmV
  go_enter Try.func6, Try.ntmps6
  go_upto_region 1 with (fail)
  generalize w.alloc (.cells #[.int .i64 at_, .int .u8 by_, .int .i64 less, .slice ma mn mc] 62) = W0 at *
  obtain ⟨B, hBe⟩ : ∃ B, w.heap.size = B := ⟨_, rfl⟩
  rw [hBe] at hB0 hX ⊢
  have c0 := hX.cell 0
  have c1 := hX.cell 1
  have c2 := hX.cell 2
  have c3 := hX.cell 3
  simp only [List.getElem?_toArray, List.getElem?_cons_zero, List.getElem?_cons_succ] at c0 c1 c2 c3
  go_quiet (fail)
  have hB1 := below_drewN hB0 nq
  generalize W0.drewN nq = W1 at *
  clear c0 c1 c2 c3 hX hB0
  go_wp2_with fail
  refine (small_any W1).mono ?_
  rintro e W2 ⟨G0, rfl, hH2, hG0, hB2⟩
  have hBl : B ≤ w.heap.size := by omega
  have hB3 := hB1.trans (hB2.mono (Nat.le_trans hBl hB1.size))
  have hG0B : B ≤ G0 := Nat.le_trans (Nat.le_trans hBl hB1.size) hG0
  clear hB2 hG0 hB1
  go_wp2_with fail
  refine (newWriter W2.heap.size W2 W2 (Below.refl _ _) (Nat.le_refl _)).mono ?_
  rintro e W3 ⟨b, rfl, hL3⟩
  have hBl2 := Nat.le_trans hBl hB3.size
  go_upto_region 6 with (fail)
  have hHS2 := Lib.hid ((hHS.out.below (hBe.symm ▸ hB3)))
  clear hHS
  go_wp2_with fail
  go_loopw [12] (fun s12 wr => ∃ (k : Nat) (v : Value) (s : St), k ≤ sn ∧ s12 = .int .i64 k ∧ Live W2.heap.size W2 wr b v s) (fun s12 _ => sn - (intOf s12).toNat)
  case atStart => exact ⟨0, _, _, Nat.zero_le _, rfl, hL3⟩
  case round =>
    obtain ⟨k, v, s, hk, rfl, hL⟩ := hrel
    by_cases hlt : k < sn
    · rcases (hHS2.out.below hL.bel) with h0 | ⟨x, o, rfl, hx, hc⟩
      · omega
      obtain ⟨c0, c1, c2, hrow, hrl, _⟩ := hc k hlt
      have HP := Lib.hid (puts_any (sf k).what (sf k).n (sf k).a (sf k).len (sf k).cap (sf k).f wr hL.wr hrow (by omega))
      unfold putV at HP
      have hli : (k : Int) < (sn : Int) := by omega
      have hk2 : (k : Int) + 1 ≤ 9223372036854775807 := by have := hHsn.out; unfold maxLen at this; omega
      have hw64 : IntKind.i64.wrap ((k : Int) + 1) = (k : Int) + 1 := by have := hHsn.out; unfold maxLen at this; simp only [IntKind.wrap_i64]; omega
      replace hk2 := Lib.hid hk2
      replace hrl := Lib.hid hrl
      replace hrow := Lib.hid hrow
      clear hc hHS2
      go_wp2_with fail
      refine HP.out.mono ?_
      rintro e W' ⟨rfl, v', h1, h2, h3⟩
      have hL' := hL.step h1 h2 h3
      clear HP h1 h2 h3 c0 c1 c2 hrow hrl
      go_wp2_with fail
      go_roundw
      case rel => exact ⟨k + 1, _, _, by omega, by go_num, hL'⟩
      case measure => simp [intOf]; omega
    · obtain rfl : k = sn := by omega
      have hB4 := hB3.trans (hL.bel.mono hBl2)
      have hH4 := hH2.below hL.bel hH2.lt
      have HD := Lib.hid (wdone_all wr hL.wr)
      clear hL hL3 hH2 hB3 hHS2
      go_wp2_with fail
      refine HD.out.mono ?_
      rintro e W5 ⟨da, dn, dc, E, rfl, hB5, hD5⟩
      have hH5 := hH4.below hB5 hH4.lt
      have hBw := Nat.le_trans hBl hB4.size
      have hB6 := hB4.trans (hB5.mono hBw)
      have hDl : E = 0 → ∃ G F, da = some ⟨G, 0, none⟩ ∧ dc = dn ∧ Holds W5 G dn F ∧ Sealed dn F ∧ B ≤ G := fun h => by
        obtain ⟨G, F, e1, e2, e3, e4, e5⟩ := hD5 h
        exact ⟨G, F, e1, e2, e3, e4, Nat.le_trans hBw e5⟩
      clear HD hB5 hD5 hH4 hB4 hBl2
      replace hDl := Lib.hid hDl
      go_upto_if 54 with (fail)
      go_cut [9] (fun s9 wx => wx = W5 ∧ ∃ G N F, s9 = .slice (some ⟨G, 0, none⟩) N N ∧ Holds W5 G N F ∧ Sealed N F ∧ B ≤ G)
      case first =>
        by_cases hE : E = 0
        · obtain ⟨G, F, rfl, rfl, q1, q2, q3⟩ := hDl.out hE
          have t1 : ((E : Int) == 0) = true := by rw [beq_iff_eq]; omega
          clear hDl
          go_wp2_with fail
          go_meet
          exact ⟨rfl, G, _, F, rfl, q1, q2, q3⟩
        · have t1 : ((E : Int) == 0) = false := by rw [beq_eq_false_iff_ne]; omega
          clear hDl
          go_wp2_with fail
          go_meet
          exact ⟨rfl, G0, 21, _, rfl, hH5, sm_sealed, hG0B⟩
      case rest =>
      obtain ⟨rfl, G, N, F, rfl, hG, hSl, hGB⟩ := hcut
      have hNl := hSl.le
      have hN2 := Lib.hid hNl
      have hNi : (N : Int) ≤ 16777229 := by omega
      replace hNi := Lib.hid hNi
      have hGl := hG.lt
      have HC1 := Lib.hid (copy_any (some ⟨G, 0, none⟩) N N F wc hG.row (by omega))
      clear hDl hH5 hBw
      replace hNl := Lib.hid hNl
      replace hSl := Lib.hid hSl
      replace hG := Lib.hid hG
      go_upto_region 13 with (fail)
      go_wp2_with fail
      refine HC1.out.mono ?_
      rintro e W6 ⟨G1, rfl, hG1, hG1l, hB1⟩
      have hGa := Lib.hid (hG.out.below hB1 hGl)
      have hB7 := hB6.trans (hB1.mono (Nat.le_trans hBl hB6.size))
      have HR1 := Lib.hid (newReader_ok (c := N) W6 hG1.row (Nat.le_refl _) (by have := hNl.out; omega) hSl.out.ok)
      clear HC1 hG hB6 hG1 hB1 hG1l
      go_wp2_with fail
      refine HR1.out.mono ?_
      rintro e W7 ⟨R, v7, rfl, _, _, _, _, hB2⟩
      have hGb := Lib.hid (hGa.out.below hB2 hGa.out.lt)
      have hB8 := hB7.trans (hB2.mono (Nat.le_trans hBl hB7.size))
      clear HR1 hGa hB7 hB2
      have hB8' := Lib.hid hB8
      go_upto_region 16 with (fail)
      have hby2 := hHby.out
      go_cut [75] (fun s75 wx => wx = W7 ∧ s75 = .bool (decide (0 ≤ at_ ∧ at_ < (N : Int) ∧ by_ ≠ 0)))
      case first =>
        by_cases h1 : 0 ≤ at_
        · have d1 : decide (at_ ≥ 0) = true := decide_eq_true h1
          by_cases h2 : at_ < (N : Int)
          · by_cases h3 : by_ = 0
            · subst h3
              go_wp2_with fail
              go_meet
              exact ⟨rfl, by simp⟩
            · have d3 : ((by_ : Int) != 0) = true := by rw [bne_iff_ne]; omega
              go_wp2_with fail
              go_meet
              exact ⟨rfl, by rw [decide_eq_true (⟨h1, h2, h3⟩ : 0 ≤ at_ ∧ at_ < (N : Int) ∧ by_ ≠ 0)]⟩
          · go_wp2_with fail
            go_meet
            exact ⟨rfl, by rw [decide_eq_false (by omega)]⟩
        · go_wp2_with fail
          go_meet
          exact ⟨rfl, by rw [decide_eq_false (by omega)]⟩
      case rest =>
      obtain ⟨rfl, rfl⟩ := hcut
      go_upto_if 75 with (fail)
      go_cut [13, 15, 16] (fun _ _ _ wx => Holds wx G N F ∧ Below B w wx)
      case first =>
        by_cases h1 : 0 ≤ at_ ∧ at_ < (N : Int) ∧ by_ ≠ 0
        · rw [decide_eq_true h1]
          obtain ⟨h1, h2, h3⟩ := h1
          obtain ⟨j, rfl⟩ := Int.eq_ofNat_of_zero_le h1
          have hj : j < N := by omega
          have HC2 := Lib.hid (copy_any (some ⟨G, 0, none⟩) N N F wc hGb.out.row (by have := hNl.out; omega))
          have hGbl := hGb.out.lt
          replace hB8' := hB8'.out
          go_wp2_with fail
          refine HC2.out.mono ?_
          rintro e W8 ⟨G2, rfl, hG2, hG2l, hB9⟩
          have hGd := hGb.out.below hB9 hGbl
          have hB10 := hB8'.trans (hB9.mono (Nat.le_trans hBl hB8'.size))
          have hfj := hG2.byte j hj
          obtain ⟨x1, x2⟩ := xor_u8 (F j) by_ hfj hby2
          have x3 : F j ^^^ by_ ≠ F j := xor_ne h3
          have cj := hG2.cell j hj
          have fj := hG2.free j
          have hP := hG2.put j (F j ^^^ by_) x2
          have hB11 := hB10.setCell (p := ⟨G2, j, none⟩) (Nat.le_trans (Nat.le_trans hBl hB8'.size) hG2l) (.int .u8 ((F j ^^^ by_ : Nat) : Int))
          have hGe := hGd.away (p := ⟨G2, j, none⟩) (by show G ≠ G2; omega) (.int .u8 ((F j ^^^ by_ : Nat) : Int))
          have hEn := hSl.out.upd j _ hj x2 x3
          generalize F j ^^^ by_ = x at *
          generalize F j = y at *
          replace hP := Lib.hid hP
          replace hGe := Lib.hid hGe
          replace hB11 := Lib.hid hB11
          replace hEn := Lib.hid hEn
          clear HC2 hGb hB8' hG2 hB9 hGd hB10 x3
          go_upto_region 19 with (fail)
          generalize W8.setCell ⟨G2, j, none⟩ (.int .u8 (x : Nat)) = W9 at *
          clear cj fj x1
          have HR2 := newReader_no (c := N) W9 hP.out.row (Nat.le_refl _) (by have := hNl.out; omega) hEn.out
          have t2 : ((openE N (upd F j x) : Int) == 0) = false := by rw [beq_eq_false_iff_ne]; have := hEn.out; omega
          generalize openE N (upd F j x) = E2 at HR2 t2
          replace HR2 := Lib.hid HR2
          go_wp2_with fail
          refine HR2.out.mono ?_
          rintro e W10 ⟨rfl, hB12⟩
          have hGf := hGe.out.below hB12 hGe.out.lt
          have hB13 := hB11.out.trans (hB12.mono (Nat.le_trans hBl hB11.out.size))
          clear HR2
          go_wp2_with fail
          go_meet
          exact ⟨hGf, hB13⟩
        · rw [decide_eq_false h1]
          go_wp2_with fail
          go_meet
          exact ⟨hGb.out, hB8'.out⟩
      case rest =>
      obtain ⟨hGc, hBc⟩ := hcut
      clear hHat hby2 hHby hB8
      replace hGc := Lib.hid hGc
      replace hBc := Lib.hid hBc
      go_upto_region 22 with (fail)
      go_cut [105] (fun s105 wx => wx = wc ∧ s105 = .bool (decide (0 < less ∧ less ≤ (N : Int))))
      case first =>
        by_cases h1 : 0 < less
        · by_cases h2 : less ≤ (N : Int)
          · go_wp2_with fail
            go_meet
            exact ⟨rfl, by rw [decide_eq_true (⟨h1, h2⟩ : 0 < less ∧ less ≤ (N : Int))]⟩
          · go_wp2_with fail
            go_meet
            exact ⟨rfl, by rw [decide_eq_false (by omega)]⟩
        · go_wp2_with fail
          go_meet
          exact ⟨rfl, by rw [decide_eq_false (by omega)]⟩
      case rest =>
      obtain ⟨rfl, rfl⟩ := hcut
      go_upto_if 105 with (fail)
      go_cut [17, 18] (fun _ _ wx => Holds wx G N F ∧ Below B w wx)
      case first =>
        by_cases h1 : 0 < less ∧ less ≤ (N : Int)
        · rw [decide_eq_true h1]
          obtain ⟨h1, h2⟩ := h1
          obtain ⟨l, rfl⟩ := Int.eq_ofNat_of_zero_le (Int.le_of_lt h1)
          have hl1 : 0 < l := by omega
          have hl2 : l ≤ N := by omega
          have hsub : (N : Int) - (l : Int) = ((N - l : Nat) : Int) := by omega
          have hw1 : IntKind.i64.wrap ((N : Int) - (l : Int)) = ((N - l : Nat) : Int) := by have := hNl.out; simp only [IntKind.wrap_i64]; omega
          have hw2 : wrap64 ((N : Int) - (l : Int)) = ((N - l : Nat) : Int) := by have := hNl.out; unfold wrap64; omega
          have hs1 : ((N - l : Nat) : Int) ≤ (N : Int) := by omega
          have HC2 := Lib.hid (copy_any (some ⟨G, 0, none⟩) (N - l) N F wc (Row.sub hGc.out.row (Nat.sub_le _ _)) (by have := hNl.out; omega))
          have hEn := Lib.hid (hSl.out.len (n := N - l) (F' := F) (fun _ _ _ => rfl) (by omega))
          have hnl := Lib.hid (show N - l ≤ 281474976710656 by have := hNl.out; omega)
          have hGbl := Lib.hid hGc.out.lt
          replace hsub := Lib.hid hsub
          go_wp2_with fail
          refine HC2.out.mono ?_
          rintro e W8 ⟨G2, rfl, hG2, hG2l, hB9⟩
          have hGd := Lib.hid (hGc.out.below hB9 hGbl.out)
          have hB10 := Lib.hid (hBc.out.trans (hB9.mono (Nat.le_trans hBl hBc.out.size)))
          have HR2 := newReader_no (c := N - l) W8 hG2.row (Nat.le_refl _) hnl.out hEn.out
          have t2 : ((openE (N - l) F : Int) == 0) = false := by rw [beq_eq_false_iff_ne]; have := hEn.out; omega
          generalize openE (N - l) F = E2 at HR2 t2
          replace HR2 := Lib.hid HR2
          clear HC2 hG2 hB9 hG2l
          go_wp2_with fail
          refine HR2.out.mono ?_
          rintro e W10 ⟨rfl, hB12⟩
          have hGf := hGd.out.below hB12 hGd.out.lt
          have hB13 := hB10.out.trans (hB12.mono (Nat.le_trans hBl hB10.out.size))
          clear HR2
          go_wp2_with fail
          go_meet
          exact ⟨hGf, hB13⟩
        · rw [decide_eq_false h1]
          go_wp2_with fail
          go_meet
          exact ⟨hGc.out, hBc.out⟩
      case rest =>
      obtain ⟨hGc2, hBc2⟩ := hcut
      clear hHle hGc hBc
      replace hGc2 := Lib.hid hGc2
      replace hBc2 := Lib.hid hBc2
      go_upto_if 125 with (fail)
      go_cut [19, 20] (fun _ _ wx => Below B w wx)
      case first =>
        by_cases h1 : 0 < mn
        · have h1i : (0 : Int) < (mn : Int) := by omega
          have hMw := Lib.hid (hHM.out.below (hBe.symm ▸ hBc2.out))
          have HC2 := Lib.hid (copy_any (some ⟨G, 0, none⟩) N N F wc hGc2.out.row (by have := hNl.out; omega))
          go_wp2_with fail
          refine HC2.out.mono ?_
          rintro e W8 ⟨G2, rfl, hG2, hG2l, hB9⟩
          have hB10 := Lib.hid (hBc2.out.trans (hB9.mono (Nat.le_trans hBl hBc2.out.size)))
          obtain ⟨G3, cap, W9, hr, hO, hG3, hB11⟩ := run_append_rows W8 25 G2 N mn mc ma F mf hG2.row (hMw.out.below hB9) h1 (by have := hNl.out; omega) (by have := hHmn.out; omega)
          have hB12 := Lib.hid (hB10.out.trans (hB11.mono (Nat.le_trans hBl hB10.out.size)))
          have hEn := Lib.hid (hSl.out.len (n := N + mn) (F' := both F N mf) (fun i hi _ => if_pos (by have := hNl.out; omega)) (by omega))
          have hcap : N + mn ≤ cap := by
            rcases hO.2 with ⟨e, _⟩ | ⟨g, cap', cs, e, _, h, _⟩
            · cases e
            · injection e with e1 e2 e3; omega
          obtain ⟨a3, c3, e3, hR3⟩ := hO.row
          injection e3 with e31 e32 e33
          subst e31
          have HR2 := newReader_no (c := cap) W9 hR3 hcap (by have := hNl.out; have := hHmn.out; omega) hEn.out
          have t2 : ((openE (N + mn) (both F N mf) : Int) == 0) = false := by rw [beq_eq_false_iff_ne]; have := hEn.out; omega
          generalize openE (N + mn) (both F N mf) = E2 at HR2 t2
          replace HR2 := Lib.hid HR2
          clear HC2 hG2 hB9 hG2l hO hG3 hB11 hcap hR3 e33 e32
          go_wp2_with (at_builtin; refine wpList_append_ran2 rfl _ _ 25 25 rfl _ _ _ W9 rfl rfl hr ?_)
          refine HR2.out.mono ?_
          rintro e W10 ⟨rfl, hB13⟩
          have hB14 := hB12.out.trans (hB13.mono (Nat.le_trans hBl hB12.out.size))
          clear HR2
          go_wp2_with fail
          go_meet
          exact hB14
        · obtain rfl : mn = 0 := by omega
          go_wp2_with fail
          go_meet
          exact hBc2.out
      case rest =>
      replace hcut := Lib.hid hcut
      go_wp2_with fail
      go_ret
      exact ⟨rfl, by rw [hBe]; exact hcut.out⟩
end saveChanged
end Go.Proofs.Ytacnmnodbmbplaa
