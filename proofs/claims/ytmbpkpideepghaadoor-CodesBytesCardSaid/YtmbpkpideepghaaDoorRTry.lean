/-
  The bytes that are tried, by the document.
-/
import Derived.Test.YtmbpkpideepghaaDoorRTgt
import Derived.Test.YtmbpkpideepghaaDoorCpy
namespace Go.Proofs.YtmbpkpideepghaaDoor
open Go.RowKit
set_option maxRecDepth 100000
set_option maxHeartbeats 1000000
set_option linter.unusedVariables false

/-- A number, parted by 256 so often. -/
def tdv (X : Int) : Nat → Int
  | 0 => X
  | i + 1 => wrap64 ((tdv X i).tdiv 256)
def byX (X : Int) (i : Nat) : Nat := (tdv X i % 256).toNat
theorem byX_lt (X : Int) (i : Nat) : byX X i < 256 := by
  unfold byX
  have := Int.emod_lt_of_pos (tdv X i) (show (0 : Int) < 256 by decide)
  have := Int.emod_nonneg (tdv X i) (show (256 : Int) ≠ 0 by decide)
  omega
theorem tdv_nat (n : Nat) (hn : n < 1099511627776) : ∀ i, tdv (n : Int) i = ((n / 256 ^ i : Nat) : Int)
  | 0 => by simp [tdv]
  | i + 1 => by
    have hle : n / 256 ^ i ≤ n := Nat.div_le_self _ _
    rw [tdv, tdv_nat n hn i, Nat.pow_succ, ← Nat.div_div_eq_div_mul]
    generalize n / 256 ^ i = q at *
    rw [Int.tdiv_eq_ediv_of_nonneg (by omega), w64 _ (by omega) (by omega)]
    rfl
theorem byX_nat (n i : Nat) (hn : n < 1099511627776) : byX (n : Int) i = n / 256 ^ i % 256 := by
  unfold byX
  rw [tdv_nat n hn]
  omega
/-- The number as it is laid into the bytes. -/
def adjN (m k pc x : Nat) : Nat := if m = 3 ∨ m = 4 then x + 131071 - pc - k else if m = 23 then x / 256 % 256 + x % 256 * 256 else x
/-- The number that a text's digits behind its fifth sign make. -/
def numB (s : ByteArray) : Nat := if 4 < s.size then numS (s.extract 4 s.size) (s.extract 4 s.size).size else 0
def SmallB (s : ByteArray) : Prop := 4 < s.size → ∀ i, i ≤ (s.extract 4 s.size).size → numS (s.extract 4 s.size) i < 4294967296
theorem tdv_zero (X : Int) : tdv X 0 = X := rfl
theorem tdv_succ (X : Int) (i : Nat) : tdv X (i + 1) = wrap64 ((tdv X i).tdiv 256) := rfl
theorem byX_eq (X : Int) (i : Nat) : byX X i = (tdv X i % 256).toNat := rfl
theorem byX_mod (X : Int) (i : Nat) : (tdv X i).tmod 256 % 256 = (byX X i : Nat) := by
  rw [byX_eq, Int.tmod_def]
  omega
/-- The bytes that are laid, after i rounds. -/
def layF (c : Nat) (X : Int) (i : Nat) : Nat → Nat := fun j => if j = 0 then c else if j ≤ i then byX X (j - 1) else 0
theorem layF_zero (c : Nat) (X : Int) (j : Nat) : upd (fun _ => 0) 0 c j = layF c X 0 j := by
  unfold upd layF
  by_cases h : j = 0
  · rw [if_pos h, if_pos h]
  · rw [if_neg h, if_neg h, if_neg (by omega)]
theorem layF_step (c : Nat) (X : Int) (i : Nat) : upd (layF c X i) (i + 1) (byX X i) = layF c X (i + 1) := by
  funext j
  unfold upd layF
  by_cases h : j = i + 1
  · subst h
    rw [if_pos rfl, if_neg (by omega), if_pos (by omega), Nat.add_sub_cancel]
  · rw [if_neg h]
    by_cases h0 : j = 0
    · rw [if_pos h0, if_pos h0]
    · rw [if_neg h0, if_neg h0]
      by_cases h1 : j ≤ i
      · rw [if_pos h1, if_pos (by omega)]
      · rw [if_neg h1, if_neg (by omega)]
theorem layF_all (c : Nat) (X : Int) (k j : Nat) (h : j < k + 1) : layF c X k j = if j = 0 then c else byX X (j - 1) := by
  unfold layF
  by_cases h0 : j = 0
  · rw [if_pos h0, if_pos h0]
  · rw [if_neg h0, if_neg h0, if_pos (by omega)]
attribute [local irreducible] tdv byX layF
theorem rtry_any (c m u wd k pc : Nat) (nm s : ByteArray) (w : World) (hs : s.size ≤ 140737488355328) (hc : c < 256) (hk : k ≤ 3) (hpc : pc < 65536) :
    Calls Tryd.prog 41 #[codeV c nm m u wd, .string s, .int .i64 pc, .int .i64 k] w fun e w' => ∃ (G : Nat) (X : Int), e = .returned (.slice (some ⟨G, 0, none⟩) (k + 1 : Nat) (k + 1 : Nat)) ∧ Holds w' G (k + 1) (fun i => if i = 0 then c else byX X (i - 1)) ∧ (SmallB s → X = (adjN m k pc (numB s) : Nat)) ∧ Below w.heap.size w w' := by
  obtain ⟨n, hn⟩ : ∃ n, k + 1 = n := ⟨_, rfl⟩
  rw [hn]
  have hkn : (k : Int) + 1 = (n : Int) := by omega
  have hmk := fun W => run_make_row' (P := Tryd.prog) 32 5 (.int .u8 0) 1 Tryd.underlying32 (by kernel_rfl) rfl .i64 .i64 n (by omega) (by omega) W
  have HN := fun W => rnumber_any (s.extract 4 s.size) W (by rw [ByteArray.size_extract]; omega)
  have hX := Whole.fresh w 23 #[.int .u8 c, .string nm, .int .u8 m, .int .u8 u, .int .u8 wd]
  have hB := (Below.refl w.heap.size w).alloc (Nat.le_refl _) (.cells #[.int .u8 c, .string nm, .int .u8 m, .int .u8 u, .int .u8 wd] 23)
  have x0 := hX.cell 0
  have x2 := hX.cell 2
  simp only [List.getElem?_toArray, List.getElem?_cons_zero, List.getElem?_cons_succ] at x0 x2
  have hxl := hX.lt
  unfold codeV
  clear hX
  obtain ⟨S, hS⟩ : ∃ S : Prop, SmallB s = S := ⟨_, rfl⟩
  rw [hS]
  obtain ⟨x1, hx1⟩ : ∃ x1, numB s = x1 := ⟨_, rfl⟩
  rw [hx1]
  have hbig : 4 < s.size → ∀ x : Int, ((∀ i, i ≤ (s.extract 4 s.size).size → numS (s.extract 4 s.size) i < 4294967296) → x = numS (s.extract 4 s.size) (s.extract 4 s.size).size) → S → x = x1 := fun h x hx hS' => by
    rw [← hS] at hS'
    rw [← hx1]
    unfold numB
    rw [if_pos h]
    exact hx (hS' h)
  have hsml : ¬ 4 < s.size → (0 : Int) = x1 := fun h => by rw [← hx1]; unfold numB; rw [if_neg h]; rfl
  have hx1s : S → x1 < 4294967296 := fun hS' => by
    rw [← hS] at hS'
    rw [← hx1]
    unfold numB
    split
    · rename_i h
      exact hS' h _ (Nat.le_refl _)
    · omega
  clear hS hx1
  replace hB := Lib.hid hB
  replace HN := Lib.hid HN
  replace hbig := Lib.hid hbig
  replace hsml := Lib.hid hsml
  replace hx1s := Lib.hid hx1s
  go_enter Tryd.func41, Tryd.ntmps41
  go_upto_if 14 with (fail)
  generalize w.alloc (.cells #[.int .u8 c, .string nm, .int .u8 m, .int .u8 u, .int .u8 wd] 23) = W1 at *
  generalize hX0 : w.heap.size = X0 at *
  go_cut [9] from 12 (fun s9 wx => ∃ x : Int, s9 = .int .i64 x ∧ Hid (S → x = x1) ∧ wx = W1)
  case first =>
    by_cases h4 : 4 < s.size
    · have t1 : decide ((4 : Int) < (s.size : Int)) = true := decide_eq_true (by omega)
      have hb4 := Lib.hid (hbig.out h4)
      go_wp2_with fail
      refine (HN.out _).mono ?_
      rintro e W ⟨x, rfl, hx, rfl⟩
      have hx2 := Lib.hid (hb4.out x hx)
      clear hx
      go_wp2_with fail
      go_meet
      case rel => exact ⟨x, rfl, hx2, rfl⟩
    · have t1 : decide ((4 : Int) < (s.size : Int)) = false := decide_eq_false (by omega)
      go_wp2_with fail
      go_meet
      case rel => exact ⟨0, rfl, Lib.hid (fun _ => hsml.out h4), rfl⟩
  case rest =>
  obtain ⟨x, rfl, hx, hwe⟩ := hcut
  replace hwe := hwe.symm
  subst hwe
  clear hbig hsml HN
  obtain ⟨b34, hb34⟩ : ∃ b : Bool, decide (m = 3 ∨ m = 4) = b := ⟨_, rfl⟩
  go_upto_region 4 with (fail)
  go_cut [25] from 12 (fun s25 wx => s25 = .bool b34 ∧ wx = W1)
  case first =>
    by_cases h3 : m = 3
    · have t1 : ((m : Int) == 3) = true := by rw [beq_iff_eq]; omega
      rw [decide_eq_true (.inl h3)] at hb34
      subst hb34
      go_wp2_with fail
      go_meet
      case rel => exact ⟨rfl, rfl⟩
    · have t1 : ((m : Int) == 3) = false := by rw [beq_eq_false_iff_ne]; omega
      by_cases h4 : m = 4
      · have t2 : ((m : Int) == 4) = true := by rw [beq_iff_eq]; omega
        rw [decide_eq_true (.inr h4)] at hb34
        subst hb34
        go_wp2_with fail
        go_meet
        case rel => exact ⟨rfl, rfl⟩
      · have t2 : ((m : Int) == 4) = false := by rw [beq_eq_false_iff_ne]; omega
        rw [decide_eq_false (fun h => h.elim h3 h4)] at hb34
        subst hb34
        go_wp2_with fail
        go_meet
        case rel => exact ⟨rfl, rfl⟩
  case rest =>
  obtain ⟨rfl, hwe⟩ := hcut
  replace hwe := hwe.symm
  subst hwe
  obtain ⟨x2', hx2'⟩ : ∃ x2', (if m = 3 ∨ m = 4 then x1 + 131071 - pc - k else x1) = x2' := ⟨_, rfl⟩
  go_upto_if 25 with (fail)
  go_cut [9] from 12 (fun s9 wx => ∃ x : Int, s9 = .int .i64 x ∧ Hid (S → x = x2') ∧ wx = W1)
  case first =>
    cases b34 with
    | true =>
      have hm := of_decide_eq_true hb34
      rw [if_pos hm] at hx2'
      have hgo : S → x - pc - 1 - k + 131072 = x2' ∧ 0 ≤ x ∧ x < 4294967296 := fun h => by have := hx.out h; have := hx1s.out h; omega
      replace hgo := Lib.hid hgo
      go_wp2_with fail
      go_meet
      case rel => exact ⟨_, rfl, Lib.hid (fun h => by
        obtain ⟨h1, h2, h3⟩ := hgo.out h
        rw [w64 (x - pc) (by omega) (by omega), w64 (x - pc - 1) (by omega) (by omega), w64 (x - pc - 1 - k) (by omega) (by omega), w64 (x - pc - 1 - k + 131072) (by omega) (by omega)]
        exact h1), rfl⟩
    | false =>
      have hm := of_decide_eq_false hb34
      rw [if_neg hm] at hx2'
      subst hx2'
      go_wp2_with fail
      go_meet
      case rel => exact ⟨x, rfl, hx, rfl⟩
  case rest =>
  obtain ⟨y, rfl, hy, hwe⟩ := hcut
  replace hwe := hwe.symm
  subst hwe
  have hx2s : S → x2' < 8589934592 := fun h => by
    have := hx1s.out h
    rw [← hx2']
    split <;> omega
  replace hx2s := Lib.hid hx2s
  have hadj : adjN m k pc x1 = if m = 23 then x2' / 256 % 256 + x2' % 256 * 256 else x2' := by
    unfold adjN
    rw [← hx2']
    by_cases h : m = 3 ∨ m = 4
    · rw [if_pos h, if_pos h, if_neg (by omega)]
    · rw [if_neg h, if_neg h]
  clear hb34 hx2' hx
  generalize hx3 : adjN m k pc x1 = x3 at *
  replace hx3 := Lib.hid hx3
  go_upto_if 35 with (fail)
  go_cut [9] from 12 (fun s9 wx => ∃ x : Int, s9 = .int .i64 x ∧ Hid (S → x = x3) ∧ wx = W1)
  case first =>
    by_cases hm : m = 23
    · have t1 : ((m : Int) == 23) = true := by rw [beq_iff_eq]; omega
      rw [if_pos hm] at hadj
      replace hadj := Lib.hid hadj
      clear hm
      go_wp2_with fail
      go_meet
      case rel => exact ⟨_, rfl, Lib.hid (fun h => by
        have h1 := hy.out h
        have h2 := hx2s.out h
        rw [h1, hadj.out, Int.tdiv_eq_ediv_of_nonneg (by omega), Int.tmod_eq_emod_of_nonneg (a := (x2' : Int)) (by omega), w64 ((x2' : Int) / 256) (by omega) (by omega), Int.tmod_eq_emod_of_nonneg (by omega), w64 ((x2' : Int) % 256 * 256) (by omega) (by omega), w64 _ (by omega) (by omega)]
        omega), rfl⟩
    · have t1 : ((m : Int) == 23) = false := by rw [beq_eq_false_iff_ne]; omega
      rw [if_neg hm] at hadj
      subst hadj
      go_wp2_with fail
      go_meet
      case rel => exact ⟨y, rfl, hy, rfl⟩
  case rest =>
  obtain ⟨X, rfl, hX, hwe⟩ := hcut
  replace hwe := hwe.symm
  subst hwe
  clear hadj hy hx2s hx1s x2
  go_upto_region 9 with (fail)
  have hH0 := holds_of_made (Whole.fresh W1 5 (madeCells #[Value.int .u8 0] n))
  have hBa := hB.out.alloc (by rw [← hX0] at hxl ⊢; omega) (.cells (madeCells #[Value.int .u8 0] n) 5)
  have hx0a := (((Below.refl W1.heap.size W1).alloc (Nat.le_refl _) (.cells (madeCells #[Value.int .u8 0] n) 5)).cell (p := ⟨X0, 0, none⟩) hxl).trans x0
  generalize W1.alloc (.cells (madeCells #[Value.int .u8 0] n) 5) = W2 at *
  obtain ⟨G, hG⟩ : ∃ G, W1.heap.size = G := ⟨_, rfl⟩
  rw [hG] at hH0 hxl ⊢
  have hGx : X0 ≤ G := by omega
  have c0 := hH0.cell 0 (by omega)
  have f0 := hH0.free 0
  have hP := hH0.put 0 c hc
  have hBp := hBa.setCell (p := ⟨G, 0, none⟩) (show X0 ≤ G by omega) (.int .u8 (c : Nat))
  have ht0 := tdv_zero X
  have hts := tdv_succ X
  have hbx := byX_eq X
  have hmd := byX_mod X
  have hlt := byX_lt X
  have hP0 := hP.congr (fun i _ => layF_zero c X i)
  have hls := layF_step c X
  clear hH0 hBa x0 hmk hB hP
  replace hlt := Lib.hid hlt
  replace hls := Lib.hid hls
  replace hmd := Lib.hid hmd
  replace hts := Lib.hid hts
  replace ht0 := Lib.hid ht0
  replace hP0 := Lib.hid hP0
  replace hBp := Lib.hid hBp
  clear hbx
  go_wp2_with fail
  go_loopw [9, 11] (fun s9 s11 wr => ∃ i : Nat, i ≤ k ∧ s9 = .int .i64 (tdv X i) ∧ s11 = .int .i64 i ∧ Holds wr G n (layF c X i) ∧ Below X0 w wr) (fun _ s11 _ => k - (intOf s11).toNat)
  case atStart => exact ⟨0, Nat.zero_le _, by rw [ht0.out], rfl, hP0.out, hBp.out⟩
  case round =>
    obtain ⟨i, hi, rfl, rfl, hH, hBw⟩ := hrel
    clear hP0 hBp
    by_cases hik : i < k
    · have hc1 := hH.cell (i + 1) (by omega)
      have hf1 := hH.free (i + 1)
      have hp1 := hH.put (i + 1) (byX X i) (hlt.out i)
      have hb1 := hBw.setCell (p := ⟨G, i + 1, none⟩) (show X0 ≤ G by omega) (.int .u8 (byX X i : Nat))
      rw [hls.out] at hp1
      have hm1 := hmd.out i
      have ht1 := hts.out i
      generalize layF c X i (i + 1) = old at *
      generalize byX X i = bi at *
      generalize hy2 : tdv X (i + 1) = y2 at *
      generalize tdv X i = y1 at *
      replace hy2 := Lib.hid hy2
      have hin : i + 1 < n := by omega
      replace hp1 := Lib.hid hp1
      replace hb1 := Lib.hid hb1
      replace ht1 := Lib.hid ht1
      clear hH hBw
      go_wp2_with fail
      go_roundw
      case rel => exact ⟨i + 1, by omega, by rw [hy2.out, ht1.out], by go_num, hp1.out, hb1.out⟩
      case measure => simp [intOf]; omega
    · obtain rfl : i = k := by omega
      go_wp2_with fail
      go_ret
      exact ⟨G, X, rfl, hH.congr (fun j hj => layF_all c X i j (by omega)), fun h => by rw [hX.out h, hx3.out], hX0 ▸ hBw⟩
end Go.Proofs.YtmbpkpideepghaaDoor
