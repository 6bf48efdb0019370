/-
  BoardWhole: the walk.
-/
import Derived.Test.YthhahhmdpjchkaaStand
import Derived.Deep.DeepCutAuto
namespace Go.Proofs.Ythhahhmdpjchkaa
open Go.RowKit Go.Shelf
set_option maxRecDepth 100000
set_option maxHeartbeats 1000000

theorem spot_at {l n k q B P : Nat} (h : q / 65536 % 256 = B) (h2 : q % 65536 = P) : spot l n k q = spotBP l n k B P := by
  unfold spot
  rw [h, h2]
/-- Each byte of a rom of Lo stands from 808000 on. -/
theorem whole_lo (n k t : Nat) (ht : t < n) (hn : n ≤ 4194304) : spot 1 n k (8388608 + t / 32768 * 65536 + 32768 + t % 32768) = (1, t) := by
  have e1 : ramHolds 1 (128 + t / 32768) (32768 + t % 32768) = false := decide_eq_false (by omega)
  have e2 : romHolds 1 (128 + t / 32768) (32768 + t % 32768) = true := decide_eq_true (by omega)
  have e3 : romAt 1 (128 + t / 32768) (32768 + t % 32768) = t := by
    show (128 + t / 32768) % 128 * 32768 + (32768 + t % 32768) - 32768 = t
    omega
  rw [spot_at (B := 128 + t / 32768) (P := 32768 + t % 32768) (by omega) (by omega), spot_is_rom (by omega) (.inr e1) e2, e3, lead_below ht]
/-- Each byte of a rom of Hi stands from C00000 on. -/
theorem whole_hi (n k t : Nat) (ht : t < n) (hn : n ≤ 4194304) : spot 2 n k (12582912 + t) = (1, t) := by
  have e1 : ramHolds 2 (192 + t / 65536) (t % 65536) = false := decide_eq_false (by omega)
  have e2 : romHolds 2 (192 + t / 65536) (t % 65536) = true := decide_eq_true (by omega)
  have e3 : romAt 2 (192 + t / 65536) (t % 65536) = t := by
    show (192 + t / 65536) % 64 * 65536 + t % 65536 + (if 192 + t / 65536 < 128 then moreOf 2 else 0) = t
    rw [if_neg (by omega)]
    omega
  rw [spot_at (B := 192 + t / 65536) (P := t % 65536) (by omega) (by omega), spot_is_rom (by omega) (.inr e1) e2, e3, lead_below ht]
theorem whole_ram_lo (n k t : Nat) (ht : t < k) (hk : k ≤ 32768) : spot 1 n k (7340032 + t) = (2, t) := by
  have e1 : ramHolds 1 112 t = true := decide_eq_true (by omega)
  have e3 : ramAt 1 112 t = t := by
    show 112 % 16 * 32768 + t = t
    omega
  rw [spot_at (B := 112) (P := t) (by omega) (by omega), spot_is_ram (by omega) (by omega) e1, e3, Nat.mod_eq_of_lt ht]
theorem whole_ram_hi (l n k t : Nat) (hl : l ≠ 1) (ht : t < k) (hk : k ≤ 8192) : spot l n k (2121728 + t) = (2, t) := by
  have e1 : ramHolds l 32 (24576 + t) = true := (if_neg hl).trans (decide_eq_true (by omega))
  have e3 : ramAt l 32 (24576 + t) = t := by
    unfold ramAt
    rw [if_neg hl]
    omega
  rw [spot_at (B := 32) (P := 24576 + t) (by omega) (by omega), spot_is_ram (by omega) (by omega) e1, e3, Nat.mod_eq_of_lt ht]
namespace boardWhole
theorem HDx {w : World} {P b R M X l n cap k y : Nat} {f g : Nat → Nat} {r m : Int} (x : Int) (q : Nat) (hx : x = (q : Int)) (hq : q < 4294967296) (_ : True) (W : World) (h : Stand w P b R M X l n cap k f g r m y W) :
    Calls Try.prog 13 #[.pointer (some ⟨b, 0, none⟩), .int .u32 x] W fun e w' => e = .returned (.agg #[.int .u8 ((spot l n k q).1 : Nat), .int .i64 ((spot l n k q).2 : Nat)]) ∧ Stand w P b R M X l n cap k f g r m y w' := by
  subst hx
  exact h.decode q hq
theorem walkN (l y : Nat) (r m z : Int) (w : World) (hz1 : -9223372036854775808 ≤ z) (hz2 : z ≤ 9223372036854775807) :
    Calls Try.prog 9 #[planV l r m y, .int .i64 z] w fun e w' => e = .returned (.bool true) ∧ Below w.heap.size w w' := by
  have HM := Lib.hid (made_any l y r m)
  have hP := Whole.fresh w 23 #[.int .u8 l, .int .i64 r, .int .i64 m, .int .u8 y]
  have hB0 : Below w.heap.size w (w.alloc (.cells #[.int .u8 l, .int .i64 r, .int .i64 m, .int .u8 y] 23)) := (Below.refl _ w).alloc (Nat.le_refl _) _
  unfold planV at *
  go_enter Try.func9, Try.ntmps9
  go_wp2_with fail
  refine (plain_any _).mono ?_
  rintro e W1 ⟨rfl, hB1⟩
  have hP1 := hP.below hB1 hP.lt
  have hB2 := hB0.trans (hB1.mono (Nat.le_of_lt hP.lt))
  have h2 := hB2.size
  clear hP hB0 hB1
  obtain ⟨P, hPe⟩ : ∃ P, w.heap.size = P := ⟨_, rfl⟩
  rw [hPe] at hP1 hB2 h2 ⊢
  have c0 := hP1.cell 0
  have c1 := hP1.cell 1
  have c2 := hP1.cell 2
  have c3 := hP1.cell 3
  simp only [List.getElem?_toArray, List.getElem?_cons_zero, List.getElem?_cons_succ] at c0 c1 c2 c3
  go_wp2_with fail
  refine (HM.out _).mono ?_
  rintro e W2 ⟨v, R0, rfl, hH2, hR0, hB3, hcase⟩
  have hP2 := hP1.below hB3 hP1.lt
  have hB4 := hB2.trans (hB3.mono h2)
  have hPl := hP1.lt
  clear hP1 hB2 hB3 c0 c1 c2 c3 HM
  rcases hcase with ⟨_, rfl⟩ | ⟨hg, b, R, M, X, cap, rfl, hBr, hb1, hM1, hRM⟩
  · go_wp2_with fail
    go_ret
    exact ⟨rfl, by rw [hPe]; exact hB4⟩
  obtain ⟨k, rfl⟩ := Int.eq_ofNat_of_zero_le hg.2.2.2.2.1
  simp only [Int.toNat_natCast] at hBr
  have hS : Stand w P b R M X l (romN r) cap k (romF y) (fun _ => 0) r k y W2 := ⟨hBr, hP2, hB4, by omega, by omega⟩
  have hl := hBr.lay
  have hnb : romN r ≤ 140737488355328 := by have := hBr.n2; omega
  have hn1 := hBr.n1
  have hkb : k ≤ 140737488355328 := by have := hBr.m2; omega
  clear hg hBr hP2 hB4 hb1 hM1 hRM hH2 hR0 hPl
  generalize romN r = n at *
  obtain ⟨pw, hpw⟩ : ∃ pw : Bool, (bits .and .i64 (n : Int) ((n : Int) - 1) == 0) = pw := ⟨_, rfl⟩
  obtain ⟨pk, hpk⟩ : ∃ pk : Bool, (bits .and .i64 (k : Int) ((k : Int) - 1) == 0) = pk := ⟨_, rfl⟩
  have hD := Lib.hid True.intro
  obtain ⟨c1v, hc1⟩ : ∃ c : Bool, (decide (0 ≤ z) && decide (z < n) && decide ((n : Int) ≤ 4194304) && pw && decide (l < 3)) = c := ⟨_, rfl⟩
  obtain ⟨d0, d1, d2, d3⟩ := hS.cells
  obtain ⟨Wa, hWa⟩ : ∃ Wa, Wa = W2 := ⟨_, rfl⟩
  rw [← hWa] at hS d0 d1 d2 d3 ⊢
  clear hWa
  go_upto_region 7 with (fail)
  go_cut [50] (fun s wx => wx = Wa ∧ s = .bool c1v)
  case first =>
    by_cases h1 : 0 ≤ z
    · by_cases h2 : z < n
      · by_cases h3 : (n : Int) ≤ 4194304
        · have e3 : decide ((n : Int) ≤ 4194304) = true := decide_eq_true h3
          cases pw with
          | false =>
            obtain rfl : c1v = false := by rw [← hc1]; simp
            replace hc1 := Lib.hid hc1
            clear h3 hc1
            go_wp2_with fail
            go_meet
            exact ⟨rfl, rfl⟩
          | true =>
            by_cases h4 : (l : Int) < 3
            · obtain rfl : c1v = true := by rw [← hc1, decide_eq_true h1, decide_eq_true h2, e3, decide_eq_true (show l < 3 by omega)]; rfl
              clear h3 hc1
              go_wp2_with fail
              go_meet
              exact ⟨rfl, rfl⟩
            · obtain rfl : c1v = false := by rw [← hc1, decide_eq_false (show ¬ l < 3 by omega), Bool.and_false]
              clear h3 hc1
              go_wp2_with fail
              go_meet
              exact ⟨rfl, rfl⟩
        · have e3 : decide ((n : Int) ≤ 4194304) = false := decide_eq_false h3
          obtain rfl : c1v = false := by rw [← hc1, e3, Bool.and_false, Bool.false_and, Bool.false_and]
          clear h3 hc1
          go_wp2_with fail
          go_meet
          exact ⟨rfl, rfl⟩
      · obtain rfl : c1v = false := by rw [← hc1, decide_eq_false h2, Bool.and_false, Bool.false_and, Bool.false_and, Bool.false_and]
        clear hc1
        go_wp2_with fail
        go_meet
        exact ⟨rfl, rfl⟩
    · obtain rfl : c1v = false := by rw [← hc1, decide_eq_false h1, Bool.false_and, Bool.false_and, Bool.false_and, Bool.false_and]
      clear hc1
      go_wp2_with fail
      go_meet
      exact ⟨rfl, rfl⟩
  case rest =>
    obtain ⟨rfl, rfl⟩ := hcut
    go_upto_if 50 with (fail)
    go_cut [] (fun wx => Stand w P b R M X l n cap k (romF y) (fun _ => 0) r k y wx)
    case first =>
      cases c1v with
      | false =>
        clear hc1
        go_wp2_with fail
        go_meet
        exact hS
      | true =>
        simp only [Bool.and_eq_true, decide_eq_true_eq] at hc1
        obtain ⟨⟨⟨⟨h1, h2⟩, h3⟩, h4⟩, h5⟩ := hc1
        obtain ⟨t, rfl⟩ := Int.eq_ofNat_of_zero_le h1
        have ht : t < n := by omega
        rcases (show l = 1 ∨ l = 2 by omega) with rfl | rfl
        · have hs := whole_lo n k t ht (by omega)
          have HQ := fun x (hx : x = ((8388608 + t / 32768 * 65536 + 32768 + t % 32768 : Nat) : Int)) W (h : Stand w P b R M X 1 n cap k (romF y) (fun _ => 0) r k y W) => HDx x _ hx (show 8388608 + t / 32768 * 65536 + 32768 + t % 32768 < 4294967296 by omega) hD.out W h
          rw [hs] at HQ
          replace HQ := Lib.hid HQ
          have hb := Lib.hid (show t < 4194304 by omega)
          have htn : t ≤ 140737488355328 := by omega
          clear hs h3 h1 h2 h4 h5 ht hpw
          go_wp2_with fail
          refine (HQ.out _ (by have := hb.out; omega) _ hS).mono ?_
          rintro e W3 ⟨rfl, hS3⟩
          clear HQ
          go_wp2_with fail
          go_meet
          exact hS3
        · have hs := whole_hi n k t ht (by omega)
          have HQ := fun x (hx : x = ((12582912 + t : Nat) : Int)) W (h : Stand w P b R M X 2 n cap k (romF y) (fun _ => 0) r k y W) => HDx x _ hx (show 12582912 + t < 4294967296 by omega) hD.out W h
          rw [hs] at HQ
          replace HQ := Lib.hid HQ
          have hb := Lib.hid (show t < 4194304 by omega)
          have htn : t ≤ 140737488355328 := by omega
          clear hs h3 h1 h2 h4 h5 ht hpw
          go_wp2_with fail
          refine (HQ.out _ (by have := hb.out; omega) _ hS).mono ?_
          rintro e W3 ⟨rfl, hS3⟩
          clear HQ
          go_wp2_with fail
          go_meet
          exact hS3
    case rest =>
      clear hS d0 d1 d2 d3 hc1 hpw
      obtain ⟨d0, d1, d2, d3⟩ := hcut.cells
      by_cases h1 : 0 ≤ z
      · obtain ⟨t, rfl⟩ := Int.eq_ofNat_of_zero_le h1
        by_cases h2 : (t : Int) < k
        · cases pk with
          | false =>
            go_wp2_with fail
            go_ret
            exact ⟨rfl, by first | exact hcut.bel | (rw [hPe]; exact hcut.bel)⟩
          | true =>
            have htk : t < k := by omega
            rcases (show l = 1 ∨ l ≠ 1 by omega) with rfl | h3
            · by_cases h4 : k ≤ 32768
              · have e4 : decide ((k : Int) ≤ 32768) = true := decide_eq_true (by omega)
                have hs := whole_ram_lo n k t htk h4
                have HQ := fun x (hx : x = ((7340032 + t : Nat) : Int)) W (h : Stand w P b R M X 1 n cap k (romF y) (fun _ => 0) r k y W) => HDx x _ hx (show 7340032 + t < 4294967296 by omega) hD.out W h
                rw [hs] at HQ
                replace HQ := Lib.hid HQ
                have hb := Lib.hid (show t < 4194304 by omega)
                have htn : t ≤ 140737488355328 := by omega
                have hcut' := Lib.hid hcut
                clear hs h4 htk h1 hl
                go_wp2_with fail
                refine (HQ.out _ (by have := hb.out; omega) _ hcut'.out).mono ?_
                rintro e W3 ⟨rfl, hS3⟩
                clear HQ
                go_wp2_with fail
                go_ret
                exact ⟨rfl, by first | exact hS3.bel | (rw [hPe]; exact hS3.bel)⟩
              · have e4 : decide ((k : Int) ≤ 32768) = false := decide_eq_false (by omega)
                clear h4 htk h1 hl
                go_wp2_with fail
                go_ret
                exact ⟨rfl, by first | exact hcut.bel | (rw [hPe]; exact hcut.bel)⟩
            · have e3 : ((l : Int) == 1) = false := by rw [beq_eq_false_iff_ne]; omega
              have e5 : (1 : Int) < (l : Int) := by omega
              by_cases h4 : k ≤ 8192
              · have e4 : decide ((k : Int) ≤ 8192) = true := decide_eq_true (by omega)
                have hs := whole_ram_hi l n k t h3 htk h4
                have HQ := fun x (hx : x = ((2121728 + t : Nat) : Int)) W (h : Stand w P b R M X l n cap k (romF y) (fun _ => 0) r k y W) => HDx x _ hx (show 2121728 + t < 4294967296 by omega) hD.out W h
                rw [hs] at HQ
                replace HQ := Lib.hid HQ
                have hb := Lib.hid (show t < 4194304 by omega)
                have htn : t ≤ 140737488355328 := by omega
                have hcut' := Lib.hid hcut
                clear hs h4 htk h1 hl h3
                go_wp2_with fail
                refine (HQ.out _ (by have := hb.out; omega) _ hcut'.out).mono ?_
                rintro e W3 ⟨rfl, hS3⟩
                clear HQ
                go_wp2_with fail
                go_ret
                exact ⟨rfl, by first | exact hS3.bel | (rw [hPe]; exact hS3.bel)⟩
              · have e4 : decide ((k : Int) ≤ 8192) = false := decide_eq_false (by omega)
                clear h4 htk h1 hl h3
                go_wp2_with fail
                go_ret
                exact ⟨rfl, by first | exact hcut.bel | (rw [hPe]; exact hcut.bel)⟩
        · go_wp2_with fail
          go_ret
          exact ⟨rfl, by first | exact hcut.bel | (rw [hPe]; exact hcut.bel)⟩
      · go_wp2_with fail
        go_ret
        exact ⟨rfl, by first | exact hcut.bel | (rw [hPe]; exact hcut.bel)⟩
end boardWhole
end Go.Proofs.Ythhahhmdpjchkaa
