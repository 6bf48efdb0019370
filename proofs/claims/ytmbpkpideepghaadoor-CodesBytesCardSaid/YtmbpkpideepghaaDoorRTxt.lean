/-
  Text, by the document.
-/
import Derived.Test.YtmbpkpideepghaaDoorROp3
import Derived.Test.YtmbpkpideepghaaDoorRSz
import Derived.Lib.QuietBelow
import Derived.BigQuiet
namespace Go.Proofs.YtmbpkpideepghaaDoor
open Go.RowKit Go.Sort
set_option maxRecDepth 100000
set_option maxHeartbeats 1000000
set_option linter.unusedVariables false

/-- The number that the upper j of k bytes make. -/
def topN (f : Nat → Nat) (k : Nat) : Nat → Nat
  | 0 => 0
  | j + 1 => 256 * topN f k j + f (k - 1 - j)
theorem topN_all (f : Nat → Nat) (k : Nat) (hk : k ≤ 3) : topN f k k = numN f k := by
  rcases (show k = 0 ∨ k = 1 ∨ k = 2 ∨ k = 3 by omega) with rfl | rfl | rfl | rfl
  · rfl
  · simp [topN, numN]
  · simp [topN, numN]; omega
  · simp [topN, numN]; omega
theorem topN_lt (f : Nat → Nat) (k : Nat) (hf : ∀ i, i < k → f i < 256) (j : Nat) (hj : j ≤ k) (hk : k ≤ 3) : topN f k j < 16777216 := by
  rcases (show j = 0 ∨ j = 1 ∨ j = 2 ∨ j = 3 by omega) with rfl | rfl | rfl | rfl
  · simp [topN]
  · have := hf (k - 1 - 0) (by omega)
    simp only [topN]; omega
  · have := hf (k - 1 - 0) (by omega)
    have := hf (k - 1 - 1) (by omega)
    simp only [topN]; omega
  · have := hf (k - 1 - 0) (by omega)
    have := hf (k - 1 - 1) (by omega)
    have := hf (k - 1 - 2) (by omega)
    simp only [topN]; omega
attribute [local irreducible] bytesN modeF numN dolL tgN pieceL piecesL formL opF widthF nameF operN useF opL nameL topN
theorem rop_any (cd : Nat) (nm : ByteArray) (m u wd k : Nat) (f : Nat → Nat) (pc : Nat) (w : World) (hm : m < 26) (hm0 : m ≠ 0) (hk : k ≤ 3) (h3 : m = 3 → k = 1) (h4 : m = 4 → k = 2) (h23 : m = 23 → k = 2) (hf : ∀ i, i < k → f i < 256) (hpc : pc < 65536) :
    Calls Tryd.prog 38 #[codeV cd nm m u wd, .int .i64 (numN f k : Nat), .int .i64 k, .int .i64 pc] w fun e w' => e = .returned (.string (bytesN (opL m k f pc))) ∧ Below w.heap.size w w' := by
  by_cases e3 : m = 3
  · exact rop_34 cd nm m u wd k f pc w (.inl ⟨e3, h3 e3⟩) hf hpc
  by_cases e4 : m = 4
  · exact rop_34 cd nm m u wd k f pc w (.inr ⟨e4, h4 e4⟩) hf hpc
  by_cases e23 : m = 23
  · have := h23 e23
    subst e23 this
    exact rop_23 cd nm u wd f pc w hf
  by_cases e1 : m = 1
  · subst e1
    exact rop_1 cd nm u wd k f pc _ _ w
  by_cases e2 : m = 2 ∨ m = 24 ∨ m = 25
  · exact rop_num cd nm m u wd k f pc w e2 hk hf
  · exact rop_sign cd nm m u wd k f pc w (by omega) (by omega) e23 hk hf
theorem rtext_any (a : Option Addr) (n cap : Nat) (g : Nat → Nat) (pc p : Nat) (w : World) (hR : Row w a n g) (hn47 : n ≤ 140737488355328) (hpc : pc < 65536) (hp : p < 256) :
    Calls Tryd.prog 21 #[.slice a n cap, .int .u16 pc, .int .u8 p] w fun e w' => e = .returned (txtV (txOk n g p) (textL (g 0) (operN (g 0) p) (fun i => g (i + 1)) pc) (1 + operN (g 0) p)) ∧ Below w.heap.size w w' := by
  by_cases h0 : n = 0
  · subst h0
    have : txOk 0 g p = false := by unfold txOk; simp
    rw [this]
    unfold txtV
    clear hR
    go_enter Tryd.func21, Tryd.ntmps21
    go_wp2_with fail
    go_ret3
    exact ⟨rfl, Below.refl _ _⟩
  obtain ⟨hb, h | ⟨b, o, rfl, hbl, hcl⟩⟩ := hR
  · exact absurd h h0
  have hx := hb 0 (by omega)
  have c0 := hcl 0 (by omega)
  rw [Nat.add_zero] at c0
  have HS := fun W => rsize_any (g 0) p W hx hp
  rw [show 1 + opF (modeF (g 0)) (widthF (nameF (g 0)).toList) p = 1 + operN (g 0) p by unfold operN; rfl] at HS
  have hk := operN_le (g 0) p
  have h23 : modeF (g 0) = 23 → operN (g 0) p = 2 := fun h => by unfold operN; rw [h]; exact opF_23 _ _
  have h3 : modeF (g 0) = 3 → operN (g 0) p = 1 := fun h => by unfold operN; rw [h]; exact opF_3 _ _
  have h4 : modeF (g 0) = 4 → operN (g 0) p = 2 := fun h => by unfold operN; rw [h]; exact opF_4 _ _
  have hok : txOk n g p = decide (1 + operN (g 0) p ≤ n) := by unfold txOk; simp [h0]
  rw [hok]
  have n0 : ((n : Int) == 0) = false := by rw [beq_eq_false_iff_ne]; omega
  by_cases hle : 1 + operN (g 0) p ≤ n
  · rw [decide_eq_true hle]
    have t1 : decide ((n : Int) < ((1 + operN (g 0) p : Nat) : Int)) = false := decide_eq_false (by omega)
    have HO := fun W => rof_same (g 0) W hx
    have HQ := fun W => roperand_any (g 0) (nameF (g 0)) (modeF (g 0)) (useF (nameF (g 0)).toList (modeF (g 0))) (widthF (nameF (g 0)).toList) p W (modeF_lt _ hx) hp
    rw [show opF (modeF (g 0)) (widthF (nameF (g 0)).toList) p = operN (g 0) p by unfold operN; rfl] at HQ
    have HP := fun (hm0 : modeF (g 0) ≠ 0) W => rop_any (g 0) (nameF (g 0)) (modeF (g 0)) (useF (nameF (g 0)).toList (modeF (g 0))) (widthF (nameF (g 0)).toList) (operN (g 0) p) (fun i => g (i + 1)) pc W (modeF_lt _ hx) hm0 hk h3 h4 h23 (fun i hi => hb (i + 1) (by omega)) hpc
    have hcl2 : ∀ i, i < operN (g 0) p → g (i + 1) < 256 ∧ w.cell? ⟨b, o + (i + 1), none⟩ = some (.int .u8 (g (i + 1) : Nat)) := fun i hi => ⟨hb (i + 1) (by omega), hcl (i + 1) (by omega)⟩
    have hnm := nameF_L (g 0)
    have hnl := nameL_len (g 0) hx
    have hm26 := modeF_lt (g 0) hx
    have hol : (opL (modeF (g 0)) (operN (g 0) p) (fun i => g (i + 1)) pc).length ≤ 49 := by
      unfold opL
      have h1 := piecesL_len (operN (g 0) p) (fun i => g (i + 1)) (tgN (modeF (g 0)) (operN (g 0) p) (fun i => g (i + 1)) pc) (formL (modeF (g 0))) hk
      have h2 := formL_len _ hm26
      omega
    have htx : textL (g 0) (operN (g 0) p) (fun i => g (i + 1)) pc = nameL (g 0) ++ (if modeF (g 0) = 0 then [] else 32 :: opL (modeF (g 0)) (operN (g 0) p) (fun i => g (i + 1)) pc) := by unfold textL; rfl
    have htop := topN_lt (fun i => g (i + 1)) (operN (g 0) p) (fun i hi => hb (i + 1) (by omega))
    have htall := topN_all (fun i => g (i + 1)) (operN (g 0) p) hk
    have hk0 : modeF (g 0) = 0 → operN (g 0) p = 0 := fun h => by unfold operN; rw [h]; unfold opF; rw [if_pos (.inl rfl)]
    rw [htx]
    clear htx hok h3 h4 h23 hcl hb
    generalize hfe : (fun i => g (i + 1)) = f at *
    have hcl3 : ∀ i, i < operN (g 0) p → f i < 256 ∧ w.cell? ⟨b, o + (i + 1), none⟩ = some (.int .u8 (f i : Nat)) := fun i hi => by rw [← hfe]; exact hcl2 i hi
    clear hfe hcl2
    generalize opL (modeF (g 0)) (operN (g 0) p) f pc = ol at *
    generalize operN (g 0) p = k at *
    generalize useF (nameF (g 0)).toList (modeF (g 0)) = u at *
    generalize widthF (nameF (g 0)).toList = wd at *
    generalize modeF (g 0) = m at *
    generalize nameF (g 0) = nf at *
    generalize nameL (g 0) = nl at *
    generalize g 0 = x at *
    generalize hTL : (if m = 0 then [] else 32 :: ol) = tl at *
    rw [show txtV true (nl ++ tl) (1 + k) = .tuple #[.string (bytesN (nl ++ tl)), .int .i64 ((1 + k : Nat) : Int), .bool true] from rfl]
    replace hTL := Lib.hid hTL
    replace hk0 := Lib.hid hk0
    unfold codeV at *
    replace HS := Lib.hid HS
    replace HO := Lib.hid HO
    replace HQ := Lib.hid HQ
    replace HP := Lib.hid HP
    replace hcl3 := Lib.hid hcl3
    replace htop := Lib.hid htop
    replace htall := Lib.hid htall
    replace hnm := Lib.hid hnm
    go_enter Tryd.func21, Tryd.ntmps21
    go_wp2_with fail
    refine (HS.out _).mono ?_
    rintro e W1 ⟨rfl, hb1⟩
    have c1 := (hb1.cell (p := ⟨b, o, none⟩) hbl).trans c0
    go_wp2_with fail
    refine (HO.out _).mono ?_
    rintro e W2 ⟨rfl, hb2⟩
    have hbw := hb1.trans (hb2.mono hb1.size)
    have hX := Whole.fresh W2 23 #[.int .u8 x, .string nf, .int .u8 m, .int .u8 u, .int .u8 wd]
    have hbw2 := hbw.alloc hbw.size (.cells #[.int .u8 x, .string nf, .int .u8 m, .int .u8 u, .int .u8 wd] 23)
    clear hb1 hb2 c1 t1 HS HO hbw
    go_upto_region 4 with (fail)
    generalize hW3 : W2.alloc (.cells #[.int .u8 x, .string nf, .int .u8 m, .int .u8 u, .int .u8 wd] 23) = W3 at *
    generalize hXe : W2.heap.size = X at *
    clear hW3 hXe
    have x0 := hX.cell 0
    have x1 := hX.cell 1
    have x2 := hX.cell 2
    have x3 := hX.cell 3
    have x4 := hX.cell 4
    simp only [List.getElem?_toArray, List.getElem?_cons_zero, List.getElem?_cons_succ] at x0 x1 x2 x3 x4
    go_wp2_with fail
    refine (HQ.out _).mono ?_
    rintro e W4 ⟨rfl, hb4⟩
    have hX4 := hX.below hb4 hX.lt
    have hbw4 := hbw2.trans (hb4.mono hbw2.size)
    clear hX hb4 hbw2 x0 x1 x2 x3 x4 HQ c0
    have ht0 : topN f k 0 = 0 := by unfold topN; rfl
    go_wp2_with fail
    go_loopw [11, 12] (fun s11 s12 wr => ∃ j : Nat, j ≤ k ∧ s11 = .int .i64 (topN f k j : Nat) ∧ s12 = .int .i64 ((k - j : Nat) : Int) ∧ wr = W4) (fun _ s12 _ => (intOf s12).toNat)
    case atStart => exact ⟨0, Nat.zero_le _, by rw [ht0]; rfl, rfl, rfl⟩
    case round =>
      obtain ⟨j, hj, rfl, rfl, rfl⟩ := hrel
      by_cases hlt : j < k
      · as_aux_lemma =>
        obtain ⟨i, hi⟩ : ∃ i, k - j = i + 1 := ⟨k - j - 1, by omega⟩
        have hi2 : k - (j + 1) = i := by omega
        have hst : topN f k (j + 1) = 256 * topN f k j + f i := by rw [topN, show k - 1 - j = i by omega]
        have hlt1 := htop.out (j + 1) hlt hk
        have hlt0 := htop.out j hj hk
        obtain ⟨hfi, hci⟩ := hcl3.out i (by omega)
        have hci4 := (hbw4.cell (p := ⟨b, o + (i + 1), none⟩) hbl).trans hci
        rw [hi]
        generalize hY1 : topN f k (j + 1) = y1 at *
        replace hY1 := Lib.hid hY1
        generalize topN f k j = y0 at *
        generalize f i = fi at *
        have hin : i + 1 < n := by omega
        have hi3 : i + 1 ≤ 3 := by omega
        have hyy : (256 * (y0 : Int) + (fi : Int)) = (y1 : Int) := by omega
        replace hst := Lib.hid hst
        replace hi2 := Lib.hid hi2
        clear hci htop htall hcl3 hi
        have t1 : decide ((0 : Int) < ((i + 1 : Nat) : Int)) = true := decide_eq_true (by omega)
        go_wp2_with fail
        go_roundw
        case rel => exact ⟨j + 1, hlt, by rw [hY1.out, ← hyy], by rw [hi2.out], trivial⟩
        case measure => simp [intOf]
      · obtain rfl : j = k := by omega
        rw [htall.out, Nat.sub_self]
        have y0 := hX4.cell 0
        have y1 := hX4.cell 1
        have y2 := hX4.cell 2
        have y3 := hX4.cell 3
        have y4 := hX4.cell 4
        simp only [List.getElem?_toArray, List.getElem?_cons_zero, List.getElem?_cons_succ] at y0 y1 y2 y3 y4
        clear htop hcl3 ht0 htall hlt hj
        by_cases hm0 : m = 0
        · have i0 : ((m : Int) == 0) = true := by rw [beq_iff_eq]; omega
          have hkz := hk0.out hm0
          have htl : tl = [] := by rw [← hTL.out, if_pos hm0]
          have hlast : Ending.returned (Value.tuple #[.string nf, .int .i64 1, .bool true]) = Ending.returned (.tuple #[.string (bytesN (nl ++ tl)), .int .i64 ((1 + j : Nat) : Int), .bool true]) := by
            rw [htl, List.append_nil, hkz, hnm.out]; rfl
          replace hlast := Lib.hid hlast
          replace hbw4 := Lib.hid hbw4
          clear hX4 HP hm0 hkz htl
          go_wp2_with fail
          go_ret3
          exact ⟨hlast.out, hbw4.out⟩
        · have i0 : ((m : Int) == 0) = false := by rw [beq_eq_false_iff_ne]; omega
          have HP0 := Lib.hid (HP.out hm0)
          have htl : tl = 32 :: ol := by rw [← hTL.out, if_neg hm0]
          clear HP hm0
          go_upto_region 12 with (fail)
          have hnz : nf.size = 3 := by rw [hnm.out, bytesN_size]; exact hnl
          have hoz : (bytesN ol).size = ol.length := bytesN_size ol
          have e1 : bytesN (nl ++ tl) = (nf ++ ⟨#[32]⟩) ++ bytesN ol := by
            rw [htl, hnm.out, show (32 :: ol : List Nat) = [32] ++ ol from rfl, bytesN_append, bytesN_append, ByteArray.append_assoc]
            congr 2
            unfold bytesN; rfl
          replace e1 := Lib.hid e1
          have s1 : (nf ++ (⟨#[32]⟩ : ByteArray)).size = 4 := by rw [ByteArray.size_append, hnz]; rfl
          generalize bytesN ol = OL at *
          have q1 : (9223372036854775807 < nf.size + 1) = False := sum_no _ _ (by omega)
          have q2 : (9223372036854775807 < (nf ++ (⟨#[32]⟩ : ByteArray)).size + OL.size) = False := sum_no _ _ (by omega)
          have z0 := cell_regrown y0
          have z1 := cell_regrown y1
          have z2 := cell_regrown y2
          have z3 := cell_regrown y3
          have z4 := cell_regrown y4
          clear hX4 y0 y1 y2 y3 y4
          refine wp_region_quiet_below (by kernel_rfl) (by kernel_rfl) ?_
          repeat (go_big_quiet_step (first | (go_at_call 38; exact Calls.regrown_of (HP0.out _))))
          refine wpQuiet_nil ?_
          intro _ hw'
          obtain ⟨⟨dq, osq⟩, hw''⟩ := hw'
          subst hw''
          have hBf := hbw4.trans ((below_regrown wr dq osq).mono hbw4.size)
          go_wp2_with fail
          go_ret3
          exact ⟨by rw [e1.out, show ((1 + j : Nat) : Int) = (j : Int) + 1 by omega]; rfl, hBf⟩
  · rw [decide_eq_false hle]
    unfold txtV
    have t1 : decide ((n : Int) < ((1 + operN (g 0) p : Nat) : Int)) = true := decide_eq_true (by omega)
    generalize operN (g 0) p = k at *
    generalize g 0 = x at *
    replace HS := Lib.hid HS
    clear hok
    go_enter Tryd.func21, Tryd.ntmps21
    go_wp2_with fail
    refine (HS.out _).mono ?_
    rintro e W1 ⟨rfl, hb1⟩
    go_wp2_with fail
    go_ret3
    exact ⟨rfl, hb1⟩
end Go.Proofs.YtmbpkpideepghaaDoor
