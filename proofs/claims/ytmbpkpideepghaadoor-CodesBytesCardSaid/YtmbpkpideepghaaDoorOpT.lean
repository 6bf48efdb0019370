/-
  An operand's text, by the code.
-/
import Derived.Test.YtmbpkpideepghaaDoorTgt
import Derived.Laws.RangeString
namespace Go.Proofs.YtmbpkpideepghaaDoor
open Go.RowKit
set_option maxRecDepth 100000
set_option maxHeartbeats 1000000
set_option linter.unusedVariables false

attribute [local irreducible] bytesN modeF numN dolL tgN pieceL piecesL formL
theorem piecesL_nil (k : Nat) (f : Nat → Nat) (t : Nat) : piecesL k f t [] = [] := by unfold piecesL; rfl
theorem pieceL_n (k : Nat) (f : Nat → Nat) (t : Nat) : pieceL k f t 110 = dolL (numN f k) (2 * k) (2 * k) := by unfold pieceL; rw [if_pos rfl]
theorem pieceL_t (k : Nat) (f : Nat → Nat) (t : Nat) : pieceL k f t 116 = dolL t 4 4 := by unfold pieceL; rw [if_neg (by decide), if_pos rfl]
theorem pieceL_1 (k : Nat) (f : Nat → Nat) (t : Nat) : pieceL k f t 49 = dolL (f 0) 2 2 := by unfold pieceL; rw [if_neg (by decide), if_neg (by decide), if_pos rfl]
theorem pieceL_2 (k : Nat) (f : Nat → Nat) (t : Nat) : pieceL k f t 50 = dolL (f 1) 2 2 := by unfold pieceL; rw [if_neg (by decide), if_neg (by decide), if_neg (by decide), if_pos rfl]
theorem pieceL_o (k : Nat) (f : Nat → Nat) (t s : Nat) (h1 : s ≠ 110) (h2 : s ≠ 116) (h3 : s ≠ 49) (h4 : s ≠ 50) : pieceL k f t s = [s] := by unfold pieceL; rw [if_neg h1, if_neg h2, if_neg h3, if_neg h4]
theorem string_any (b : Nat) (l : List Nat) (w : World) (hl : ∀ x ∈ l, x < 256) (h : Bld b l w) (hB : b ≤ w.heap.size) :
    Calls Tryd.prog 55 #[.pointer (some ⟨b, 0, none⟩)] w fun e w' => e = .returned (.string (bytesN l)) ∧ Below b w w' := by
  have e : (l.map fun x => Value.int .u8 (x : Nat)) = Lib.byteCells (l.map UInt8.ofNat) := by
    simp only [Lib.byteCells, List.map_map]
    apply List.map_congr_left
    intro x hx
    have := hl x hx
    simp
    omega
  unfold Bld at h
  rw [e] at h
  refine (Tryd.Builder_String_any_k b b (l.map UInt8.ofNat) w h hB).mono ?_
  rintro e W ⟨rfl, _, h2, _⟩
  exact ⟨by unfold bytesN; rfl, h2⟩
theorem operandText_any (form : List Nat) (a : Option Addr) (k cap : Nat) (g : Nat → Nat) (pc : Nat) (w : World) (hform : ∀ x ∈ form, x < 128) (hfl : form.length ≤ 7) (hR : Row w a (k + 1) g) (hk : k ≤ 3) (hc : k + 1 ≤ cap) (hpc : pc < 65536)
    (h49 : 49 ∈ form → 1 ≤ k) (h50 : 50 ∈ form → 2 ≤ k) (h116 : 116 ∈ form → 1 ≤ k) :
    Calls Tryd.prog 40 #[.string (bytesN form), .slice a (k + 1) cap, .int .u16 pc] w fun e w' => e = .returned (.string (bytesN (piecesL k (fun i => g (i + 1)) (tgN (modeF (g 0)) k (fun i => g (i + 1)) pc) form))) ∧ Below w.heap.size w w' := by
  obtain ⟨hb, h0 | ⟨b, o, rfl, hbl, hcl⟩⟩ := hR
  · omega
  obtain ⟨c', rfl⟩ : ∃ c', cap = c' + 1 := ⟨cap - 1, by omega⟩
  have hR0 : Row w (some ⟨b, o, none⟩) (k + 1) g := ⟨hb, .inr ⟨b, o, rfl, hbl, hcl⟩⟩
  generalize hf : (fun i => g (i + 1)) = f
  have hfb : ∀ i, i < k → f i < 256 := fun i hi => by rw [← hf]; exact hb (i + 1) (by omega)
  have hfc : ∀ i, i < k → w.cell? ⟨b, o + 1 + i, none⟩ = some (.int .u8 (f i : Nat)) := fun i hi => by rw [← hf, Nat.add_assoc, Nat.add_comm 1 i]; exact hcl (i + 1) (by omega)
  have hR1 : Row w (if c' = 0 then some ⟨b, o, none⟩ else some ⟨b, o + 1, none⟩) k f := by
    by_cases h : c' = 0
    · rw [if_pos h]
      obtain rfl : k = 0 := by omega
      exact Row.nil _ _ _
    · rw [if_neg h]
      exact ⟨hfb, .inr ⟨b, o + 1, rfl, hbl, hfc⟩⟩
  have HN := fun (W : World) (hW : Below w.heap.size w W) => number_any (if c' = 0 then some ⟨b, o, none⟩ else some ⟨b, o + 1, none⟩) k c' f W (hR1.below hW) hk
  have HT := fun (W : World) (hW : Below w.heap.size w W) (h1 : 1 ≤ k) => target_any b o k (c' + 1) g pc W (hR0.below hW) hk h1 hc hpc
  simp only [hf] at HT
  have htg : tgN (modeF (g 0)) k f pc < 65536 := by unfold tgN; exact Nat.mod_lt _ (by decide)
  generalize tgN (modeF (g 0)) k f pc = t at *
  have hn := numN_lt (f := f) (n := k) hfb
  have hn4 : (2 : Nat) ^ (8 * k) ≤ 2 ^ (8 * 3) := Nat.pow_le_pow_right (by decide) (by omega)
  have hn5 : (2 : Nat) ^ (8 * 3) = 16777216 := by decide
  have HD := fun (W : World) => dollar_any (numN f k) k W (by omega) hk
  have HD4 := fun (W : World) => dollar_any t 2 W (by omega) (by decide)
  have HD2 := fun (x : Nat) (hx : x < 256) (W : World) => dollar_any x 1 W (by omega) (by decide)
  have hP := fun i => piecesL_len k f t (form.take i) hk
  have hsz : (bytesN form).size = form.length := bytesN_size form
  have hget : ∀ i (h : i < form.length), ∀ W : World, ∀ ty, W.heap[w.heap.size + 1]? = some (.stringIter (bytesN form) i) → (Instr.next (.pointer (some ⟨w.heap.size + 1, 0, none⟩)) true ty).run Tryd.prog W =
      .ok (.tuple #[.bool true, .int .i64 i, .int .i32 (form[i] : Nat)]) (W.iterAt (w.heap.size + 1) (bytesN form) (i + 1)) := fun i h W ty hit => by
    have hs : ((bytesN form)[i]'(by rw [hsz]; exact h)).toNat = form[i] := bytesN_get form (fun x hx => Nat.lt_trans (hform x hx) (by decide)) i _ h
    have := Lib.run_next_ascii_at (P := Tryd.prog) W (w.heap.size + 1) (bytesN form) i ty hit (by rw [hsz]; exact h) (by rw [hs]; exact hform _ (List.getElem_mem h))
    rw [hs] at this
    exact this
  have hend : ∀ W : World, ∀ ty, W.heap[w.heap.size + 1]? = some (.stringIter (bytesN form) form.length) → (Instr.next (.pointer (some ⟨w.heap.size + 1, 0, none⟩)) true ty).run Tryd.prog W = .ok (.tuple #[.bool false]) W := fun W ty hit =>
    Lib.run_next_end_at (P := Tryd.prog) W (w.heap.size + 1) (bytesN form) form.length ty hit (by rw [hsz]; omega)
  have hpl : ∀ i (h : i < form.length), ∀ x ∈ pieceL k f t form[i], x < 256 := fun i h => pieceL_lt k f t _ (hform _ (List.getElem_mem h))
  have hpn : ∀ i (h : i < form.length), (pieceL k f t form[i]).length ≤ 7 := fun i h => pieceL_len k f t _ hk
  have hps : ∀ i (h : i < form.length), piecesL k f t (form.take (i + 1)) = piecesL k f t (form.take i) ++ pieceL k f t form[i] := fun i h => by
    rw [List.take_succ_eq_append_getElem h, piecesL_snoc]
  have hmem : ∀ i (h : i < form.length), form[i] ∈ form := fun i h => List.getElem_mem h
  have hend2 : piecesL k f t (form.take form.length) = piecesL k f t form := by rw [List.take_length]
  have hbegin : Bld w.heap.size (piecesL k f t (form.take 0)) (w.alloc (.cells #[.pointer none, .slice none 0 0] bldT)) := by
    rw [List.take_zero, piecesL_nil]
    exact Lib.IsBuilderF.of (Lib.fresh_isBuilder bldT 5 w)
  have hB0 := (Below.refl w.heap.size w).alloc (Nat.le_refl _) (.cells #[.pointer none, .slice none 0 0] bldT)
  have hf0 : ∀ W : World, Below w.heap.size w W → 1 ≤ k → W.cell? ⟨b, o + 1, none⟩ = some (.int .u8 (f 0 : Nat)) := fun W hW h1 => (hW.cell (p := ⟨b, o + 1, none⟩) hbl).trans (hfc 0 (by omega))
  have hf1 : ∀ W : World, Below w.heap.size w W → 2 ≤ k → W.cell? ⟨b, o + 1 + 1, none⟩ = some (.int .u8 (f 1 : Nat)) := fun W hW h1 => (hW.cell (p := ⟨b, o + 1 + 1, none⟩) hbl).trans (hfc 1 (by omega))
  have hx0 : 1 ≤ k → f 0 < 256 := fun h => hfb 0 (by omega)
  have hx1 : 2 ≤ k → f 1 < 256 := fun h => hfb 1 (by omega)
  have hn3 : pieceL k f t 110 = dolL (numN f k) (2 * k) (2 * k) := pieceL_n k f t
  have ht3 := pieceL_t k f t
  have h13 := pieceL_1 k f t
  have h23 := pieceL_2 k f t
  have ho3 := pieceL_o k f t
  have e10 : bytesN (dolL (numN f k) (2 * k) (2 * k)) = ⟨((dolL (numN f k) (2 * k) (2 * k)).map UInt8.ofNat).toArray⟩ := by unfold bytesN; rfl
  have e4 : bytesN (dolL t 4 4) = ⟨((dolL t (2 * 2) (2 * 2)).map UInt8.ofNat).toArray⟩ := by unfold bytesN; rfl
  have e2 : ∀ x, bytesN (dolL x 2 2) = ⟨((dolL x (2 * 1) (2 * 1)).map UInt8.ofNat).toArray⟩ := fun x => by unfold bytesN; rfl
  simp only [← e10] at HD
  simp only [show ((2 : Nat) : Int) = 2 from rfl] at HD4
  simp only [show ((1 : Nat) : Int) = 1 from rfl] at HD2
  simp only [← e4] at HD4
  simp only [← e2] at HD2
  have hRl := piecesL_lt k f t form hform
  clear e10 e4 e2 hn4 hn5 hn hb hcl hR0 hR1 hfb hfc hf hsz
  replace htg := Lib.hid htg
  replace hform := Lib.hid hform
  generalize numN f k = n at *
  generalize hpp : (fun i => piecesL k f t (List.take i form)) = P at *
  replace hP : ∀ i, i ≤ form.length → (P i).length ≤ 49 := fun i hi => by rw [← hpp]; have := hP i; rw [List.length_take] at this; show (piecesL k f t (List.take i form)).length ≤ 49; omega
  replace hps : ∀ i (h : i < form.length), P (i + 1) = P i ++ pieceL k f t form[i] := fun i h => by rw [← hpp]; exact hps i h
  replace hend2 : P form.length = piecesL k f t form := by rw [← hpp]; exact hend2
  replace hbegin : Bld w.heap.size (P 0) (w.alloc (.cells #[.pointer none, .slice none 0 0] bldT)) := by rw [← hpp]; exact hbegin
  clear hpp
  generalize piecesL k f t form = R at *
  generalize bytesN form = F at *
  by_cases hc0 : c' = 0
  · subst hc0
    obtain rfl : k = 0 := by omega
    rw [if_pos rfl] at HN
    replace HN := Lib.hid HN
    replace HT := Lib.hid HT
    replace HD := Lib.hid HD
    replace HD4 := Lib.hid HD4
    replace HD2 := Lib.hid HD2
    replace hget := Lib.hid hget
    replace hend := Lib.hid hend
    replace hpl := Lib.hid hpl
    replace hpn := Lib.hid hpn
    replace hP := Lib.hid hP
    replace hps := Lib.hid hps
    replace hmem := Lib.hid hmem
    replace hend2 := Lib.hid hend2
    replace hf0 := Lib.hid hf0
    replace hf1 := Lib.hid hf1
    replace hx0 := Lib.hid hx0
    replace hx1 := Lib.hid hx1
    replace hn3 := Lib.hid hn3
    replace ht3 := Lib.hid ht3
    replace h13 := Lib.hid h13
    replace h23 := Lib.hid h23
    replace ho3 := Lib.hid ho3
    replace h49 := Lib.hid h49
    replace h50 := Lib.hid h50
    replace h116 := Lib.hid h116
    replace hfl := Lib.hid hfl
    replace hRl := Lib.hid hRl
    go_enter Tryd.func40, Tryd.ntmps40
    go_upto_region 3 with (fail)
    have hit0 : ((w.alloc (.cells #[.pointer none, .slice none 0 0] bldT)).iter F 0).heap[w.heap.size + 1]? = some (.stringIter F 0) := by
      have := World.iter_heap (w.alloc (.cells #[.pointer none, .slice none 0 0] bldT)) F 0
      simpa using this
    have hb1 := hbegin.alloc (.stringIter F 0)
    have hB1 := hB0.alloc (by simp) (.stringIter F 0)
    have hX1 : w.heap.size + 1 < ((w.alloc (.cells #[.pointer none, .slice none 0 0] bldT)).alloc (.stringIter F 0)).heap.size := by simp
    replace hb1 : Bld w.heap.size (P 0) ((w.alloc (.cells #[.pointer none, .slice none 0 0] bldT)).alloc (.stringIter F 0)) := hb1
    have HW := Lib.hid (fun (W : World) (l dl : List Nat) (hB : Bld w.heap.size l W) (hl : l.length ≤ 49) (hd : ∀ x ∈ dl, x < 256) (hdl : dl.length ≤ 7) (hX : w.heap.size ≤ W.heap.size) => writeString_any w.heap.size l dl W hB hd (by omega) hX)
    have HR := Lib.hid (fun (W : World) (l : List Nat) (r : Nat) (hB : Bld w.heap.size l W) (hl : l.length ≤ 49) (hr : r < 128) (hX : w.heap.size ≤ W.heap.size) => writeRune_any w.heap.size l r W hB hr (by omega) hX)
    have HS := Lib.hid (fun (W : World) (l : List Nat) (hl : ∀ x ∈ l, x < 256) (hB : Bld w.heap.size l W) (hX : w.heap.size ≤ W.heap.size) => string_any w.heap.size l W hl hB hX)
    have hbegin2 := Lib.hid (And.intro hb1 (And.intro hit0 hB1))
    clear hbegin hB0 hb1 hit0 hB1 hX1
    go_wp2_with fail
    generalize hXe : w.heap.size = X at *
    replace hXe := Lib.hid hXe
    go_loopw [] (fun wr => ∃ i : Nat, i ≤ form.length ∧ Bld X (P i) wr ∧ wr.heap[X + 1]? = some (.stringIter F i) ∧ Below X w wr) (fun wr => form.length - wr.iterPos (X + 1))
    case atStart => exact ⟨0, Nat.zero_le _, hbegin2.out⟩
    case round =>
      obtain ⟨i, hi, hBl, hit, hbw⟩ := hrel
      have hsz : X + 1 < wr.heap.size := (Array.getElem?_eq_some_iff.1 hit).1
      by_cases hlt : i < form.length
      · have hnx := fun ty => hget.out i hlt wr ty hit
        have hBl2 : Bld X (P i) (wr.iterAt (X + 1) F (i + 1)) := Lib.IsBuilderF.iterAt hBl hit (i + 1)
        have hit2 := Lib.iterAt_heap wr (X + 1) F i (i + 1) hit
        have hbw2 := Lib.below_iterAt hbw (k := X + 1) (by omega) F (i + 1)
        have hX2 : X + 1 < (wr.iterAt (X + 1) F (i + 1)).heap.size := by rw [Lib.iterAt_size]; exact hsz
        have hs := hmem.out i hlt
        have hpli := hpl.out i hlt
        have hpni := hpn.out i hlt
        have hpsi := hps.out i hlt
        have hs128 := hform.out _ hs
        clear hBl hbw hsz
        generalize form[i] = s at *
        have hXX : X ≤ X + 1 := Nat.le_succ X
        have hlt2 : i + 1 ≤ form.length := hlt
        replace hpli := Lib.hid hpli
        replace hpni := Lib.hid hpni
        replace hpsi := Lib.hid hpsi
        generalize hW2 : wr.iterAt (X + 1) F (i + 1) = W2 at *
        clear hW2
        by_cases h110 : s = 110
        · subst h110
          rw [hn3.out] at hpli hpni hpsi
          go_wp2_with fail
          refine (HN.out _ hbw2).mono ?_
          rintro e W3 ⟨rfl, rfl⟩
          go_wp2_with fail
          refine (HD.out _).mono ?_
          rintro e W4 ⟨rfl, hb4⟩
          have hBl4 := bld_below hBl2 hb4
          have hit4 := (hb4.block (X + 1) hX2).trans hit2
          have hbw4 := hbw2.trans (hb4.mono (by omega))
          have hX4 : X ≤ W4.heap.size := by have := hb4.size; omega
          clear hBl2 hit2 hbw2 hb4
          go_wp2_with fail
          refine (HW.out _ _ _ hBl4 (hP.out i (by omega)) hpli.out hpni.out hX4).mono ?_
          rintro e W5 ⟨rfl, h5, b5, k5⟩
          have hit5 := k5.iter hit4 (by omega)
          have hrel5 := Lib.hid (And.intro h5 (And.intro hit5 (hbw4.trans b5)))
          clear hBl4 hbw4 h5 b5 k5
          go_wp2_with fail
          go_roundw
          case rel => exact ⟨i + 1, hlt2, by rw [hpsi.out]; exact hrel5.out.1, hrel5.out.2.1, hrel5.out.2.2⟩
          case measure =>
            simp only [World.iterPos, hit5, hit]
            omega
        by_cases h116' : s = 116
        · subst h116'
          exact absurd (h116.out hs) (by decide)
        by_cases h49' : s = 49
        · subst h49'
          exact absurd (h49.out hs) (by decide)
        by_cases h50' : s = 50
        · subst h50'
          exact absurd (h50.out hs) (by decide)
        · have e1 : ((s : Int) == 110) = false := by rw [beq_eq_false_iff_ne]; omega
          have e2 : ((s : Int) == 116) = false := by rw [beq_eq_false_iff_ne]; omega
          have e3 : ((s : Int) == 49) = false := by rw [beq_eq_false_iff_ne]; omega
          have e4 : ((s : Int) == 50) = false := by rw [beq_eq_false_iff_ne]; omega
          rw [ho3.out s h110 h116' h49' h50'] at hpsi
          clear h110 h116' h49' h50'
          replace hs128 := Lib.hid hs128
          go_wp2_with fail
          refine (HR.out _ _ _ hBl2 (hP.out i (by omega)) hs128.out (by omega)).mono ?_
          rintro e W5 ⟨rfl, h5, b5, k5⟩
          have hit5 := k5.iter hit2 (by omega)
          have hrel5 := Lib.hid (And.intro h5 (And.intro hit5 (hbw2.trans b5)))
          clear hBl2 hbw2 h5 b5 k5
          go_wp2_with fail
          go_roundw
          case rel => exact ⟨i + 1, hlt2, by rw [hpsi.out]; exact hrel5.out.1, hrel5.out.2.1, hrel5.out.2.2⟩
          case measure =>
            simp only [World.iterPos, hit5, hit]
            omega
      · obtain rfl : i = form.length := by omega
        have hnx := fun ty => hend.out wr ty hit
        rw [hend2.out] at hBl
        clear hlt hi
        go_wp2_with fail
        refine (HS.out _ _ hRl.out hBl (by omega)).mono ?_
        rintro e W3 ⟨rfl, hb3⟩
        have hb4 := hbw.trans hb3
        go_wp2_with fail
        go_ret
        rw [hXe.out]
        exact ⟨rfl, hb4⟩
  simp only [if_neg hc0] at HN
  replace HN := Lib.hid HN
  replace HT := Lib.hid HT
  replace HD := Lib.hid HD
  replace HD4 := Lib.hid HD4
  replace HD2 := Lib.hid HD2
  replace hget := Lib.hid hget
  replace hend := Lib.hid hend
  replace hpl := Lib.hid hpl
  replace hpn := Lib.hid hpn
  replace hP := Lib.hid hP
  replace hps := Lib.hid hps
  replace hmem := Lib.hid hmem
  replace hend2 := Lib.hid hend2
  replace hf0 := Lib.hid hf0
  replace hf1 := Lib.hid hf1
  replace hx0 := Lib.hid hx0
  replace hx1 := Lib.hid hx1
  replace hn3 := Lib.hid hn3
  replace ht3 := Lib.hid ht3
  replace h13 := Lib.hid h13
  replace h23 := Lib.hid h23
  replace ho3 := Lib.hid ho3
  replace h49 := Lib.hid h49
  replace h50 := Lib.hid h50
  replace h116 := Lib.hid h116
  replace hfl := Lib.hid hfl
  replace hRl := Lib.hid hRl
  go_enter Tryd.func40, Tryd.ntmps40
  go_upto_region 3 with (fail)
  have hit0 : ((w.alloc (.cells #[.pointer none, .slice none 0 0] bldT)).iter F 0).heap[w.heap.size + 1]? = some (.stringIter F 0) := by
    have := World.iter_heap (w.alloc (.cells #[.pointer none, .slice none 0 0] bldT)) F 0
    simpa using this
  have hb1 := hbegin.alloc (.stringIter F 0)
  have hB1 := hB0.alloc (by simp) (.stringIter F 0)
  have hX1 : w.heap.size + 1 < ((w.alloc (.cells #[.pointer none, .slice none 0 0] bldT)).alloc (.stringIter F 0)).heap.size := by simp
  replace hb1 : Bld w.heap.size (P 0) ((w.alloc (.cells #[.pointer none, .slice none 0 0] bldT)).alloc (.stringIter F 0)) := hb1
  have HW := Lib.hid (fun (W : World) (l dl : List Nat) (hB : Bld w.heap.size l W) (hl : l.length ≤ 49) (hd : ∀ x ∈ dl, x < 256) (hdl : dl.length ≤ 7) (hX : w.heap.size ≤ W.heap.size) => writeString_any w.heap.size l dl W hB hd (by omega) hX)
  have HR := Lib.hid (fun (W : World) (l : List Nat) (r : Nat) (hB : Bld w.heap.size l W) (hl : l.length ≤ 49) (hr : r < 128) (hX : w.heap.size ≤ W.heap.size) => writeRune_any w.heap.size l r W hB hr (by omega) hX)
  have HS := Lib.hid (fun (W : World) (l : List Nat) (hl : ∀ x ∈ l, x < 256) (hB : Bld w.heap.size l W) (hX : w.heap.size ≤ W.heap.size) => string_any w.heap.size l W hl hB hX)
  have hbegin2 := Lib.hid (And.intro hb1 (And.intro hit0 hB1))
  clear hbegin hB0 hb1 hit0 hB1 hX1
  go_wp2_with fail
  generalize hXe : w.heap.size = X at *
  replace hXe := Lib.hid hXe
  go_loopw [] (fun wr => ∃ i : Nat, i ≤ form.length ∧ Bld X (P i) wr ∧ wr.heap[X + 1]? = some (.stringIter F i) ∧ Below X w wr) (fun wr => form.length - wr.iterPos (X + 1))
  case atStart => exact ⟨0, Nat.zero_le _, hbegin2.out⟩
  case round =>
    obtain ⟨i, hi, hBl, hit, hbw⟩ := hrel
    have hsz : X + 1 < wr.heap.size := (Array.getElem?_eq_some_iff.1 hit).1
    by_cases hlt : i < form.length
    · have hnx := fun ty => hget.out i hlt wr ty hit
      have hBl2 : Bld X (P i) (wr.iterAt (X + 1) F (i + 1)) := Lib.IsBuilderF.iterAt hBl hit (i + 1)
      have hit2 := Lib.iterAt_heap wr (X + 1) F i (i + 1) hit
      have hbw2 := Lib.below_iterAt hbw (k := X + 1) (by omega) F (i + 1)
      have hX2 : X + 1 < (wr.iterAt (X + 1) F (i + 1)).heap.size := by rw [Lib.iterAt_size]; exact hsz
      have hs := hmem.out i hlt
      have hpli := hpl.out i hlt
      have hpni := hpn.out i hlt
      have hpsi := hps.out i hlt
      have hs128 := hform.out _ hs
      clear hBl hbw hsz
      generalize form[i] = s at *
      have hXX : X ≤ X + 1 := Nat.le_succ X
      have hlt2 : i + 1 ≤ form.length := hlt
      replace hpli := Lib.hid hpli
      replace hpni := Lib.hid hpni
      replace hpsi := Lib.hid hpsi
      generalize hW2 : wr.iterAt (X + 1) F (i + 1) = W2 at *
      clear hW2
      by_cases h110 : s = 110
      · subst h110
        rw [hn3.out] at hpli hpni hpsi
        go_wp2_with fail
        refine (HN.out _ hbw2).mono ?_
        rintro e W3 ⟨rfl, rfl⟩
        go_wp2_with fail
        refine (HD.out _).mono ?_
        rintro e W4 ⟨rfl, hb4⟩
        have hBl4 := bld_below hBl2 hb4
        have hit4 := (hb4.block (X + 1) hX2).trans hit2
        have hbw4 := hbw2.trans (hb4.mono (by omega))
        have hX4 : X ≤ W4.heap.size := by have := hb4.size; omega
        clear hBl2 hit2 hbw2 hb4
        go_wp2_with fail
        refine (HW.out _ _ _ hBl4 (hP.out i (by omega)) hpli.out hpni.out hX4).mono ?_
        rintro e W5 ⟨rfl, h5, b5, k5⟩
        have hit5 := k5.iter hit4 (by omega)
        have hrel5 := Lib.hid (And.intro h5 (And.intro hit5 (hbw4.trans b5)))
        clear hBl4 hbw4 h5 b5 k5
        go_wp2_with fail
        go_roundw
        case rel => exact ⟨i + 1, hlt2, by rw [hpsi.out]; exact hrel5.out.1, hrel5.out.2.1, hrel5.out.2.2⟩
        case measure =>
          simp only [World.iterPos, hit5, hit]
          omega
      by_cases h116' : s = 116
      · subst h116'
        have hk1 := h116.out hs
        have ht16 := htg.out
        rw [ht3.out] at hpli hpni hpsi
        clear h110
        go_wp2_with fail
        refine (HT.out _ hbw2 hk1).mono ?_
        rintro e W3 ⟨rfl, rfl⟩
        go_wp2_with fail
        refine (HD4.out _).mono ?_
        rintro e W4 ⟨rfl, hb4⟩
        have hBl4 := bld_below hBl2 hb4
        have hit4 := (hb4.block (X + 1) hX2).trans hit2
        have hbw4 := hbw2.trans (hb4.mono (by omega))
        have hX4 : X ≤ W4.heap.size := by have := hb4.size; omega
        clear hBl2 hit2 hbw2 hb4
        go_wp2_with fail
        refine (HW.out _ _ _ hBl4 (hP.out i (by omega)) hpli.out hpni.out hX4).mono ?_
        rintro e W5 ⟨rfl, h5, b5, k5⟩
        have hit5 := k5.iter hit4 (by omega)
        have hrel5 := Lib.hid (And.intro h5 (And.intro hit5 (hbw4.trans b5)))
        clear hBl4 hbw4 h5 b5 k5
        go_wp2_with fail
        go_roundw
        case rel => exact ⟨i + 1, hlt2, by rw [hpsi.out]; exact hrel5.out.1, hrel5.out.2.1, hrel5.out.2.2⟩
        case measure =>
          simp only [World.iterPos, hit5, hit]
          omega
      by_cases h49' : s = 49
      · subst h49'
        have hk1 := h49.out hs
        rw [h13.out] at hpli hpni hpsi
        have c0 := hf0.out W2 hbw2 hk1
        have hHD := Lib.hid (HD2.out _ (hx0.out hk1))
        have hy := hx0.out hk1
        clear h110 h116'
        generalize f 0 = y at *
        go_wp2_with fail
        refine (hHD.out _).mono ?_
        rintro e W4 ⟨rfl, hb4⟩
        have hBl4 := bld_below hBl2 hb4
        have hit4 := (hb4.block (X + 1) hX2).trans hit2
        have hbw4 := hbw2.trans (hb4.mono (by omega))
        have hX4 : X ≤ W4.heap.size := by have := hb4.size; omega
        clear hBl2 hit2 hbw2 hb4
        go_wp2_with fail
        refine (HW.out _ _ _ hBl4 (hP.out i (by omega)) hpli.out hpni.out hX4).mono ?_
        rintro e W5 ⟨rfl, h5, b5, k5⟩
        have hit5 := k5.iter hit4 (by omega)
        have hrel5 := Lib.hid (And.intro h5 (And.intro hit5 (hbw4.trans b5)))
        clear hBl4 hbw4 h5 b5 k5
        go_wp2_with fail
        go_roundw
        case rel => exact ⟨i + 1, hlt2, by rw [hpsi.out]; exact hrel5.out.1, hrel5.out.2.1, hrel5.out.2.2⟩
        case measure =>
          simp only [World.iterPos, hit5, hit]
          omega
      by_cases h50' : s = 50
      · subst h50'
        have hk2 := h50.out hs
        rw [h23.out] at hpli hpni hpsi
        have c1 := hf1.out W2 hbw2 hk2
        have hHD := Lib.hid (HD2.out _ (hx1.out hk2))
        have hy := hx1.out hk2
        clear h110 h116' h49'
        generalize f 1 = y at *
        go_wp2_with fail
        refine (hHD.out _).mono ?_
        rintro e W4 ⟨rfl, hb4⟩
        have hBl4 := bld_below hBl2 hb4
        have hit4 := (hb4.block (X + 1) hX2).trans hit2
        have hbw4 := hbw2.trans (hb4.mono (by omega))
        have hX4 : X ≤ W4.heap.size := by have := hb4.size; omega
        clear hBl2 hit2 hbw2 hb4
        go_wp2_with fail
        refine (HW.out _ _ _ hBl4 (hP.out i (by omega)) hpli.out hpni.out hX4).mono ?_
        rintro e W5 ⟨rfl, h5, b5, k5⟩
        have hit5 := k5.iter hit4 (by omega)
        have hrel5 := Lib.hid (And.intro h5 (And.intro hit5 (hbw4.trans b5)))
        clear hBl4 hbw4 h5 b5 k5
        go_wp2_with fail
        go_roundw
        case rel => exact ⟨i + 1, hlt2, by rw [hpsi.out]; exact hrel5.out.1, hrel5.out.2.1, hrel5.out.2.2⟩
        case measure =>
          simp only [World.iterPos, hit5, hit]
          omega
      · have e1 : ((s : Int) == 110) = false := by rw [beq_eq_false_iff_ne]; omega
        have e2 : ((s : Int) == 116) = false := by rw [beq_eq_false_iff_ne]; omega
        have e3 : ((s : Int) == 49) = false := by rw [beq_eq_false_iff_ne]; omega
        have e4 : ((s : Int) == 50) = false := by rw [beq_eq_false_iff_ne]; omega
        rw [ho3.out s h110 h116' h49' h50'] at hpsi
        clear h110 h116' h49' h50'
        replace hs128 := Lib.hid hs128
        go_wp2_with fail
        refine (HR.out _ _ _ hBl2 (hP.out i (by omega)) hs128.out (by omega)).mono ?_
        rintro e W5 ⟨rfl, h5, b5, k5⟩
        have hit5 := k5.iter hit2 (by omega)
        have hrel5 := Lib.hid (And.intro h5 (And.intro hit5 (hbw2.trans b5)))
        clear hBl2 hbw2 h5 b5 k5
        go_wp2_with fail
        go_roundw
        case rel => exact ⟨i + 1, hlt2, by rw [hpsi.out]; exact hrel5.out.1, hrel5.out.2.1, hrel5.out.2.2⟩
        case measure =>
          simp only [World.iterPos, hit5, hit]
          omega
    · obtain rfl : i = form.length := by omega
      have hnx := fun ty => hend.out wr ty hit
      rw [hend2.out] at hBl
      clear hlt hi
      go_wp2_with fail
      refine (HS.out _ _ hRl.out hBl (by omega)).mono ?_
      rintro e W3 ⟨rfl, hb3⟩
      have hb4 := hbw.trans hb3
      go_wp2_with fail
      go_ret
      rw [hXe.out]
      exact ⟨rfl, hb4⟩
end Go.Proofs.YtmbpkpideepghaaDoor
