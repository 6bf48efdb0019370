/-
  The document's sum and difference of digits.
-/
import Derived.Test.YtnjbgnkbncjnlaaRSmall
namespace Go.Proofs.Ytnjbgnkbncjnlaa
open Go.RowKit Go.Shelf
set_option maxRecDepth 100000
set_option maxHeartbeats 1000000
set_option linter.unusedVariables false
theorem digit_gen (x k d : Nat) (hk : k < 4) (hx : x < 65536) (h : x / 16 ^ k % 16 = d) (w : World) : Calls Try.prog 30 #[.int .i64 x, .int .i64 k] w fun e w' => e = .returned (.int .i64 d) ∧ w = w' := by
  obtain rfl | rfl | rfl | rfl : k = 0 ∨ k = 1 ∨ k = 2 ∨ k = 3 := by omega
  · exact digit_0 x d w hx h
  · exact digit_1 x d w hx h
  · exact digit_2 x d w hx h
  · exact digit_3 x d w hx h
theorem bne_cast (m n : Nat) : ((m : Int) != (n : Int)) = (m != n) := by
  by_cases h : m = n
  · subst h
    simp
  · rw [bne_iff_ne.2 h, bne_iff_ne.2 (show (m : Int) ≠ n by omega)]
theorem pow16 (k : Nat) (h : k < 5) : 16 ^ k ≤ 65536 := Nat.pow_le_pow_right (n := 16) (j := 4) (by decide) (by omega)
/-- What one round after another makes: carries, sums so far, signs. -/
structure Steps (cor : Nat → Nat × Nat) (n a t c : Nat) (Cf Xf Sf R : Nat → Nat) : Prop where
  c0 : Cf 0 = c
  x0 : Xf 0 = 0
  s0 : Sf 0 = 0
  one : ∀ k, k < n → cor (a / 16 ^ k % 16 + t / 16 ^ k % 16 + Cf k) = (R k, Cf (k + 1))
  two : ∀ k, k < n → Xf (k + 1) = Xf k + R k * 16 ^ k
  tri : ∀ k, k < n → Sf (k + 1) = (a / 16 ^ k % 16 + t / 16 ^ k % 16 + Cf k) / 8 % 2
  cl : ∀ k, k ≤ n → Cf k < 2
  xl : ∀ k, k ≤ n → Xf k < 16 ^ k
theorem rdig_false_false (a t c : Nat) (Cf Xf Sf R : Nat → Nat) (w : World) (ha : a < 256) (hb : t < 256) (hc : c < 2) (hs : Steps corS 2 a t c Cf Xf Sf R)
    (x nn z v o S ta tt : Nat) (hx : Xf 2 = x) (ho : Cf 2 = o) (hS : Sf 2 = S) (hn : nat (topb false x) = nn) (hz : nat (x == 0) = z) (hta : nat (topb false a) = ta) (htt : nat (topb false t) = tt) (hv : nat (ta == tt && S != ta) = v) :
    Calls Try.prog 24 #[.int .i64 a, .int .i64 t, .int .i64 c, .bool false, .bool false] w fun e w' => e = .returned (.agg #[.int .i64 x, .int .i64 nn, .int .i64 v, .int .i64 z, .int .i64 o]) ∧ Below w.heap.size w w' := by
  have ht2 : t < 65536 := by omega
  have ha2 : a < 65536 := by omega
  have hx2 : x < 256 := by rw [← hx]; exact hs.xl 2 (Nat.le_refl _)
  have hta2 : ta < 2 := by rw [← hta]; unfold nat; split <;> omega
  have htt2 : tt < 2 := by rw [← htt]; unfold nat; split <;> omega
  have HA := Lib.hid hta
  have HB := Lib.hid htt
  have HS := Lib.hid hs
  have HX := Lib.hid hx
  have HO := Lib.hid ho
  have HG := Lib.hid hS
  have HN := Lib.hid hn
  have HZ := Lib.hid hz
  have HV := Lib.hid hv
  clear hs hx ho hn hz hv hS hta htt
  go_enter Try.func24, Try.ntmps24
  go_wp2_with fail
  go_loop [2, 12, 13, 14, 16] (fun sc sx sw ss si => ∃ k C X W S : Nat, k ≤ 2 ∧ C < 2 ∧ X < 65536 ∧ W ≤ 65536 ∧ S < 2 ∧ si = .int .i64 k ∧ sc = .int .i64 C ∧ sx = .int .i64 X ∧ sw = .int .i64 W ∧ ss = .int .i64 S ∧
      Hid (Cf k = C) ∧ Hid (Xf k = X) ∧ Hid (16 ^ k = W) ∧ Hid (Sf k = S)) (fun _ _ _ _ si => 2 - (intOf si).toNat)
  case atStart => exact ⟨0, c, 0, 1, 0, by omega, hc, by omega, by omega, by omega, rfl, rfl, rfl, rfl, rfl, Lib.hid HS.out.c0, Lib.hid HS.out.x0, Lib.hid rfl, Lib.hid HS.out.s0⟩
  case round =>
    obtain ⟨k, C, X, W, S', hk, hCl, hXl, hWl, hSl, rfl, rfl, rfl, rfl, rfl, hC, hX, hW, hS⟩ := hrel
    obtain rfl | rfl | rfl : k = 0 ∨ k = 1 ∨ k = 2 := by omega
    · obtain rfl : 1 = W := hW.out
      have p1 := HS.out.one 0 (by decide)
      have p2 := HS.out.two 0 (by decide)
      have p3 := HS.out.tri 0 (by decide)
      simp only [Nat.pow_zero, Nat.zero_add] at p1 p2 p3
      obtain ⟨d, hd⟩ : ∃ d, a / 1 % 16 = d := ⟨_, rfl⟩
      obtain ⟨q, hq⟩ : ∃ q, t / 1 % 16 = q := ⟨_, rfl⟩
      have hd2 : d < 16 := by rw [← hd]; exact Nat.mod_lt _ (by decide)
      have hq2 : q < 16 := by rw [← hq]; exact Nat.mod_lt _ (by decide)
      have hX2 : X < 1 := by rw [← hX.out]; exact HS.out.xl 0 (by decide)
      rw [hd, hq, hC.out] at p1 p3
      rw [hX.out] at p2
      have HD := Lib.hid hd
      have HQ := Lib.hid hq
      clear hd hq
      rcases Nat.lt_or_ge 9 (d + q + C) with hs | hs
      · have e1 : corS (d + q + C) = ((d + q + C + 6) % 16, 1) := if_pos hs
        rw [e1] at p1
        have r1 : (d + q + C + 6) % 16 = R 0 := congrArg Prod.fst p1
        have r2 : 1 = Cf 1 := congrArg Prod.snd p1
        rw [← r1] at p2
        have P2 := Lib.hid r2.symm
        have P3 := Lib.hid p2
        have P4 := Lib.hid p3
        clear p1 p2 p3 e1 r1 r2
        have T1 : decide ((9 : Int) < d + q + C) = true := decide_eq_true (by omega)
        have T2 : decide ((15 : Int) < d + q + C + 6) = true := decide_eq_true (by omega)
        go_wp2_with fail
        refine (digit_0 a d _ ha2 HD.out).mono ?_
        rintro e w' ⟨rfl, rfl⟩
        go_wp2_with fail
        refine (digit_0 t q _ ht2 HQ.out).mono ?_
        rintro e w' ⟨rfl, rfl⟩
        go_wp2_with fail
        refine (one_at true 1 _ rfl).mono ?_
        rintro e w' ⟨rfl, rfl⟩
        go_wp2_with fail
        go_round
        case rel => exact ⟨1, 1, X + (d + q + C + 6) % 16, 16, (d + q + C) / 8 % 2, by omega, by omega, by omega, by omega, by omega, by first | rfl | go_num, by first | rfl | go_num, by first | rfl | go_num | exact congrArg (Value.int .i64) (by omega), by first | rfl | go_num, by first | rfl | go_num | exact congrArg (Value.int .i64) (by omega), P2, Lib.hid (by rw [P3.out, Nat.mul_one]), Lib.hid rfl, P4⟩
        case measure => simp [intOf]
      · have e1 : corS (d + q + C) = ((d + q + C), 0) := if_neg (Nat.not_lt.2 hs)
        rw [e1] at p1
        have r1 : (d + q + C) = R 0 := congrArg Prod.fst p1
        have r2 : 0 = Cf 1 := congrArg Prod.snd p1
        rw [← r1] at p2
        have P2 := Lib.hid r2.symm
        have P3 := Lib.hid p2
        have P4 := Lib.hid p3
        clear p1 p2 p3 e1 r1 r2
        have T1 : decide ((9 : Int) < d + q + C) = false := decide_eq_false (by omega)
        have T2 : decide ((15 : Int) < d + q + C) = false := decide_eq_false (by omega)
        go_wp2_with fail
        refine (digit_0 a d _ ha2 HD.out).mono ?_
        rintro e w' ⟨rfl, rfl⟩
        go_wp2_with fail
        refine (digit_0 t q _ ht2 HQ.out).mono ?_
        rintro e w' ⟨rfl, rfl⟩
        go_wp2_with fail
        refine (one_at false 0 _ rfl).mono ?_
        rintro e w' ⟨rfl, rfl⟩
        go_wp2_with fail
        go_round
        case rel => exact ⟨1, 0, X + (d + q + C), 16, (d + q + C) / 8 % 2, by omega, by omega, by omega, by omega, by omega, by first | rfl | go_num, by first | rfl | go_num, by first | rfl | go_num | exact congrArg (Value.int .i64) (by omega), by first | rfl | go_num, by first | rfl | go_num | exact congrArg (Value.int .i64) (by omega), P2, Lib.hid (by rw [P3.out, Nat.mul_one]), Lib.hid rfl, P4⟩
        case measure => simp [intOf]
    · obtain rfl : 16 = W := hW.out
      have p1 := HS.out.one 1 (by decide)
      have p2 := HS.out.two 1 (by decide)
      have p3 := HS.out.tri 1 (by decide)
      simp only [Nat.reducePow, Nat.reduceAdd] at p1 p2 p3
      obtain ⟨d, hd⟩ : ∃ d, a / 16 % 16 = d := ⟨_, rfl⟩
      obtain ⟨q, hq⟩ : ∃ q, t / 16 % 16 = q := ⟨_, rfl⟩
      have hd2 : d < 16 := by rw [← hd]; exact Nat.mod_lt _ (by decide)
      have hq2 : q < 16 := by rw [← hq]; exact Nat.mod_lt _ (by decide)
      have hX2 : X < 16 := by rw [← hX.out]; exact HS.out.xl 1 (by decide)
      rw [hd, hq, hC.out] at p1 p3
      rw [hX.out] at p2
      have HD := Lib.hid hd
      have HQ := Lib.hid hq
      clear hd hq
      rcases Nat.lt_or_ge 9 (d + q + C) with hs | hs
      · have e1 : corS (d + q + C) = ((d + q + C + 6) % 16, 1) := if_pos hs
        rw [e1] at p1
        have r1 : (d + q + C + 6) % 16 = R 1 := congrArg Prod.fst p1
        have r2 : 1 = Cf 2 := congrArg Prod.snd p1
        rw [← r1] at p2
        have P2 := Lib.hid r2.symm
        have P3 := Lib.hid p2
        have P4 := Lib.hid p3
        clear p1 p2 p3 e1 r1 r2
        have T1 : decide ((9 : Int) < d + q + C) = true := decide_eq_true (by omega)
        have T2 : decide ((15 : Int) < d + q + C + 6) = true := decide_eq_true (by omega)
        go_wp2_with fail
        refine (digit_1 a d _ ha2 HD.out).mono ?_
        rintro e w' ⟨rfl, rfl⟩
        go_wp2_with fail
        refine (digit_1 t q _ ht2 HQ.out).mono ?_
        rintro e w' ⟨rfl, rfl⟩
        go_wp2_with fail
        refine (one_at true 1 _ rfl).mono ?_
        rintro e w' ⟨rfl, rfl⟩
        go_wp2_with fail
        go_round
        case rel => exact ⟨2, 1, X + (d + q + C + 6) % 16 * 16, 256, (d + q + C) / 8 % 2, by omega, by omega, by omega, by omega, by omega, by first | rfl | go_num, by first | rfl | go_num, by first | rfl | go_num | exact congrArg (Value.int .i64) (by omega), by first | rfl | go_num, by first | rfl | go_num | exact congrArg (Value.int .i64) (by omega), P2, P3, Lib.hid rfl, P4⟩
        case measure => simp [intOf]
      · have e1 : corS (d + q + C) = ((d + q + C), 0) := if_neg (Nat.not_lt.2 hs)
        rw [e1] at p1
        have r1 : (d + q + C) = R 1 := congrArg Prod.fst p1
        have r2 : 0 = Cf 2 := congrArg Prod.snd p1
        rw [← r1] at p2
        have P2 := Lib.hid r2.symm
        have P3 := Lib.hid p2
        have P4 := Lib.hid p3
        clear p1 p2 p3 e1 r1 r2
        have T1 : decide ((9 : Int) < d + q + C) = false := decide_eq_false (by omega)
        have T2 : decide ((15 : Int) < d + q + C) = false := decide_eq_false (by omega)
        go_wp2_with fail
        refine (digit_1 a d _ ha2 HD.out).mono ?_
        rintro e w' ⟨rfl, rfl⟩
        go_wp2_with fail
        refine (digit_1 t q _ ht2 HQ.out).mono ?_
        rintro e w' ⟨rfl, rfl⟩
        go_wp2_with fail
        refine (one_at false 0 _ rfl).mono ?_
        rintro e w' ⟨rfl, rfl⟩
        go_wp2_with fail
        go_round
        case rel => exact ⟨2, 0, X + (d + q + C) * 16, 256, (d + q + C) / 8 % 2, by omega, by omega, by omega, by omega, by omega, by first | rfl | go_num, by first | rfl | go_num, by first | rfl | go_num | exact congrArg (Value.int .i64) (by omega), by first | rfl | go_num, by first | rfl | go_num | exact congrArg (Value.int .i64) (by omega), P2, P3, Lib.hid rfl, P4⟩
        case measure => simp [intOf]
    · obtain rfl : X = x := by rw [← hX.out, HX.out]
      obtain rfl : C = o := by rw [← hC.out, HO.out]
      obtain rfl : S' = S := by rw [← hS.out, HG.out]
      go_wp2_with fail
      refine (named_at X nn z false _ hXl HN.out HZ.out).mono ?_
      rintro e w1 ⟨rfl, b1⟩
      have B1 : Whole w1 w.heap.size 40 #[.int .i64 0, .int .i64 0, .int .i64 0, .int .i64 0, .int .i64 0] := (Whole.fresh w 40 _).below b1 (by simp)
      have hlt := B1.lt
      have bw : Below w.heap.size w w1 := ((Below.refl _ _).alloc (Nat.le_refl _) _).trans (b1.mono (by simp))
      have c0 := B1.cell 0
      have c1 := B1.cell 1
      have c2 := B1.cell 2
      have c3 := B1.cell 3
      have c4 := B1.cell 4
      have f0 := B1.free 0
      have f1 := B1.free 1
      have f2 := B1.free 2
      have f3 := B1.free 3
      have f4 := B1.free 4
      clear b1 B1
      go_wp2_with fail
      refine (top_at a ta false _ ha2 HA.out).mono ?_
      rintro e w' ⟨rfl, rfl⟩
      go_wp2_with fail
      refine (top_at t tt false _ ht2 HB.out).mono ?_
      rintro e w' ⟨rfl, rfl⟩
      by_cases he : ta = tt
      · subst he
        have hv9 := HV.out
        rw [show (ta == ta) = true from beq_self_eq_true ta, Bool.true_and, ← bne_cast] at hv9
        have HV2 := Lib.hid hv9
        clear hv9
        clear HV
        go_wp2_with fail
        refine (top_at a ta false _ ha2 HA.out).mono ?_
        rintro e w' ⟨rfl, rfl⟩
        go_wp2_with fail
        refine (one_at _ v _ HV2.out).mono ?_
        rintro e w' ⟨rfl, rfl⟩
        go_wp2_with fail
        refine bodyPost_ret (v := .agg #[.int .i64 X, .int .i64 nn, .int .i64 v, .int .i64 z, .int .i64 C]) (by simp [results, Try.results24, go_sem, c0, c1, c2, c3, c4, hlt]) rfl ⟨rfl, ?_⟩
        exact ((((((bw.setCell (p := ⟨w.heap.size, 0, none⟩) (Nat.le_refl _) _).setCell (p := ⟨w.heap.size, 1, none⟩) (Nat.le_refl _) _).setCell (p := ⟨w.heap.size, 2, none⟩) (Nat.le_refl _) _).setCell (p := ⟨w.heap.size, 3, none⟩) (Nat.le_refl _) _).setCell (p := ⟨w.heap.size, 4, none⟩) (Nat.le_refl _) _).alloc (by simp; omega) _)
      · have hv9 := HV.out
        rw [show (ta == tt) = false from beq_eq_false_iff_ne.2 he, Bool.false_and] at hv9
        have HV2 := Lib.hid hv9
        clear hv9
        have T9 : ((ta : Int) == tt) = false := by rw [beq_eq_false_iff_ne]; omega
        clear HV he
        go_wp2_with fail
        refine (one_at false v _ HV2.out).mono ?_
        rintro e w' ⟨rfl, rfl⟩
        go_wp2_with fail
        refine bodyPost_ret (v := .agg #[.int .i64 X, .int .i64 nn, .int .i64 v, .int .i64 z, .int .i64 C]) (by simp [results, Try.results24, go_sem, c0, c1, c2, c3, c4, hlt]) rfl ⟨rfl, ?_⟩
        exact ((((((bw.setCell (p := ⟨w.heap.size, 0, none⟩) (Nat.le_refl _) _).setCell (p := ⟨w.heap.size, 1, none⟩) (Nat.le_refl _) _).setCell (p := ⟨w.heap.size, 2, none⟩) (Nat.le_refl _) _).setCell (p := ⟨w.heap.size, 3, none⟩) (Nat.le_refl _) _).setCell (p := ⟨w.heap.size, 4, none⟩) (Nat.le_refl _) _).alloc (by simp; omega) _)
theorem rdig_true_false (a b t c : Nat) (Cf Xf Sf R : Nat → Nat) (w : World) (ha : a < 256) (hb : b < 256) (hc : c < 2) (ht : 256 - 1 - b = t) (hs : Steps corD 2 a t c Cf Xf Sf R)
    (x nn z v o S ta tt : Nat) (hx : Xf 2 = x) (ho : Cf 2 = o) (hS : Sf 2 = S) (hn : nat (topb false x) = nn) (hz : nat (x == 0) = z) (hta : nat (topb false a) = ta) (htt : nat (topb false t) = tt) (hv : nat (ta == tt && S != ta) = v) :
    Calls Try.prog 24 #[.int .i64 a, .int .i64 b, .int .i64 c, .bool true, .bool false] w fun e w' => e = .returned (.agg #[.int .i64 x, .int .i64 nn, .int .i64 v, .int .i64 z, .int .i64 o]) ∧ Below w.heap.size w w' := by
  have ht2 : t < 65536 := by omega
  have ha2 : a < 65536 := by omega
  have hx2 : x < 256 := by rw [← hx]; exact hs.xl 2 (Nat.le_refl _)
  have hta2 : ta < 2 := by rw [← hta]; unfold nat; split <;> omega
  have htt2 : tt < 2 := by rw [← htt]; unfold nat; split <;> omega
  have ET := Lib.hid (show (255 : Int) - (b : Nat) = (t : Nat) by omega)
  have HA := Lib.hid hta
  have HB := Lib.hid htt
  have HS := Lib.hid hs
  have HX := Lib.hid hx
  have HO := Lib.hid ho
  have HG := Lib.hid hS
  have HN := Lib.hid hn
  have HZ := Lib.hid hz
  have HV := Lib.hid hv
  clear hs hx ho hn hz hv hS hta htt
  clear ht
  go_enter Try.func24, Try.ntmps24
  go_wp2_with fail
  refine (size_f _).mono ?_
  rintro e w' ⟨rfl, rfl⟩
  go_wp2_with fail
  rw [ET.out]
  go_loop [2, 12, 13, 14, 16] (fun sc sx sw ss si => ∃ k C X W S : Nat, k ≤ 2 ∧ C < 2 ∧ X < 65536 ∧ W ≤ 65536 ∧ S < 2 ∧ si = .int .i64 k ∧ sc = .int .i64 C ∧ sx = .int .i64 X ∧ sw = .int .i64 W ∧ ss = .int .i64 S ∧
      Hid (Cf k = C) ∧ Hid (Xf k = X) ∧ Hid (16 ^ k = W) ∧ Hid (Sf k = S)) (fun _ _ _ _ si => 2 - (intOf si).toNat)
  case atStart => exact ⟨0, c, 0, 1, 0, by omega, hc, by omega, by omega, by omega, rfl, rfl, rfl, rfl, rfl, Lib.hid HS.out.c0, Lib.hid HS.out.x0, Lib.hid rfl, Lib.hid HS.out.s0⟩
  case round =>
    obtain ⟨k, C, X, W, S', hk, hCl, hXl, hWl, hSl, rfl, rfl, rfl, rfl, rfl, hC, hX, hW, hS⟩ := hrel
    obtain rfl | rfl | rfl : k = 0 ∨ k = 1 ∨ k = 2 := by omega
    · obtain rfl : 1 = W := hW.out
      have p1 := HS.out.one 0 (by decide)
      have p2 := HS.out.two 0 (by decide)
      have p3 := HS.out.tri 0 (by decide)
      simp only [Nat.pow_zero, Nat.zero_add] at p1 p2 p3
      obtain ⟨d, hd⟩ : ∃ d, a / 1 % 16 = d := ⟨_, rfl⟩
      obtain ⟨q, hq⟩ : ∃ q, t / 1 % 16 = q := ⟨_, rfl⟩
      have hd2 : d < 16 := by rw [← hd]; exact Nat.mod_lt _ (by decide)
      have hq2 : q < 16 := by rw [← hq]; exact Nat.mod_lt _ (by decide)
      have hX2 : X < 1 := by rw [← hX.out]; exact HS.out.xl 0 (by decide)
      rw [hd, hq, hC.out] at p1 p3
      rw [hX.out] at p2
      have HD := Lib.hid hd
      have HQ := Lib.hid hq
      clear hd hq
      rcases Nat.lt_or_ge 15 (d + q + C) with hs | hs
      · have e1 : corD (d + q + C) = ((d + q + C) % 16, 1) := if_pos hs
        rw [e1] at p1
        have r1 : (d + q + C) % 16 = R 0 := congrArg Prod.fst p1
        have r2 : 1 = Cf 1 := congrArg Prod.snd p1
        rw [← r1] at p2
        have P2 := Lib.hid r2.symm
        have P3 := Lib.hid p2
        have P4 := Lib.hid p3
        clear p1 p2 p3 e1 r1 r2
        have T1 : decide ((d : Int) + q + C ≤ 15) = false := decide_eq_false (by omega)
        go_wp2_with fail
        refine (digit_0 a d _ ha2 HD.out).mono ?_
        rintro e w' ⟨rfl, rfl⟩
        go_wp2_with fail
        refine (digit_0 t q _ ht2 HQ.out).mono ?_
        rintro e w' ⟨rfl, rfl⟩
        go_wp2_with fail
        go_round
        case rel => exact ⟨1, 1, X + (d + q + C) % 16, 16, (d + q + C) / 8 % 2, by omega, by omega, by omega, by omega, by omega, by first | rfl | go_num, by first | rfl | go_num, by first | rfl | go_num | exact congrArg (Value.int .i64) (by omega), by first | rfl | go_num, by first | rfl | go_num | exact congrArg (Value.int .i64) (by omega), P2, Lib.hid (by rw [P3.out, Nat.mul_one]), Lib.hid rfl, P4⟩
        case measure => simp [intOf]
      · have e1 : corD (d + q + C) = ((d + q + C + 10) % 16, 0) := if_neg (Nat.not_lt.2 hs)
        rw [e1] at p1
        have r1 : (d + q + C + 10) % 16 = R 0 := congrArg Prod.fst p1
        have r2 : 0 = Cf 1 := congrArg Prod.snd p1
        rw [← r1] at p2
        have P2 := Lib.hid r2.symm
        have P3 := Lib.hid p2
        have P4 := Lib.hid p3
        clear p1 p2 p3 e1 r1 r2
        have T1 : decide ((d : Int) + q + C ≤ 15) = true := decide_eq_true (by omega)
        go_wp2_with fail
        refine (digit_0 a d _ ha2 HD.out).mono ?_
        rintro e w' ⟨rfl, rfl⟩
        go_wp2_with fail
        refine (digit_0 t q _ ht2 HQ.out).mono ?_
        rintro e w' ⟨rfl, rfl⟩
        go_wp2_with fail
        go_round
        case rel => exact ⟨1, 0, X + (d + q + C + 10) % 16, 16, (d + q + C) / 8 % 2, by omega, by omega, by omega, by omega, by omega, by first | rfl | go_num, by first | rfl | go_num, by first | rfl | go_num | exact congrArg (Value.int .i64) (by omega), by first | rfl | go_num, by first | rfl | go_num | exact congrArg (Value.int .i64) (by omega), P2, Lib.hid (by rw [P3.out, Nat.mul_one]), Lib.hid rfl, P4⟩
        case measure => simp [intOf]
    · obtain rfl : 16 = W := hW.out
      have p1 := HS.out.one 1 (by decide)
      have p2 := HS.out.two 1 (by decide)
      have p3 := HS.out.tri 1 (by decide)
      simp only [Nat.reducePow, Nat.reduceAdd] at p1 p2 p3
      obtain ⟨d, hd⟩ : ∃ d, a / 16 % 16 = d := ⟨_, rfl⟩
      obtain ⟨q, hq⟩ : ∃ q, t / 16 % 16 = q := ⟨_, rfl⟩
      have hd2 : d < 16 := by rw [← hd]; exact Nat.mod_lt _ (by decide)
      have hq2 : q < 16 := by rw [← hq]; exact Nat.mod_lt _ (by decide)
      have hX2 : X < 16 := by rw [← hX.out]; exact HS.out.xl 1 (by decide)
      rw [hd, hq, hC.out] at p1 p3
      rw [hX.out] at p2
      have HD := Lib.hid hd
      have HQ := Lib.hid hq
      clear hd hq
      rcases Nat.lt_or_ge 15 (d + q + C) with hs | hs
      · have e1 : corD (d + q + C) = ((d + q + C) % 16, 1) := if_pos hs
        rw [e1] at p1
        have r1 : (d + q + C) % 16 = R 1 := congrArg Prod.fst p1
        have r2 : 1 = Cf 2 := congrArg Prod.snd p1
        rw [← r1] at p2
        have P2 := Lib.hid r2.symm
        have P3 := Lib.hid p2
        have P4 := Lib.hid p3
        clear p1 p2 p3 e1 r1 r2
        have T1 : decide ((d : Int) + q + C ≤ 15) = false := decide_eq_false (by omega)
        go_wp2_with fail
        refine (digit_1 a d _ ha2 HD.out).mono ?_
        rintro e w' ⟨rfl, rfl⟩
        go_wp2_with fail
        refine (digit_1 t q _ ht2 HQ.out).mono ?_
        rintro e w' ⟨rfl, rfl⟩
        go_wp2_with fail
        go_round
        case rel => exact ⟨2, 1, X + (d + q + C) % 16 * 16, 256, (d + q + C) / 8 % 2, by omega, by omega, by omega, by omega, by omega, by first | rfl | go_num, by first | rfl | go_num, by first | rfl | go_num | exact congrArg (Value.int .i64) (by omega), by first | rfl | go_num, by first | rfl | go_num | exact congrArg (Value.int .i64) (by omega), P2, P3, Lib.hid rfl, P4⟩
        case measure => simp [intOf]
      · have e1 : corD (d + q + C) = ((d + q + C + 10) % 16, 0) := if_neg (Nat.not_lt.2 hs)
        rw [e1] at p1
        have r1 : (d + q + C + 10) % 16 = R 1 := congrArg Prod.fst p1
        have r2 : 0 = Cf 2 := congrArg Prod.snd p1
        rw [← r1] at p2
        have P2 := Lib.hid r2.symm
        have P3 := Lib.hid p2
        have P4 := Lib.hid p3
        clear p1 p2 p3 e1 r1 r2
        have T1 : decide ((d : Int) + q + C ≤ 15) = true := decide_eq_true (by omega)
        go_wp2_with fail
        refine (digit_1 a d _ ha2 HD.out).mono ?_
        rintro e w' ⟨rfl, rfl⟩
        go_wp2_with fail
        refine (digit_1 t q _ ht2 HQ.out).mono ?_
        rintro e w' ⟨rfl, rfl⟩
        go_wp2_with fail
        go_round
        case rel => exact ⟨2, 0, X + (d + q + C + 10) % 16 * 16, 256, (d + q + C) / 8 % 2, by omega, by omega, by omega, by omega, by omega, by first | rfl | go_num, by first | rfl | go_num, by first | rfl | go_num | exact congrArg (Value.int .i64) (by omega), by first | rfl | go_num, by first | rfl | go_num | exact congrArg (Value.int .i64) (by omega), P2, P3, Lib.hid rfl, P4⟩
        case measure => simp [intOf]
    · obtain rfl : X = x := by rw [← hX.out, HX.out]
      obtain rfl : C = o := by rw [← hC.out, HO.out]
      obtain rfl : S' = S := by rw [← hS.out, HG.out]
      go_wp2_with fail
      refine (named_at X nn z false _ hXl HN.out HZ.out).mono ?_
      rintro e w1 ⟨rfl, b1⟩
      have B1 : Whole w1 w.heap.size 40 #[.int .i64 0, .int .i64 0, .int .i64 0, .int .i64 0, .int .i64 0] := (Whole.fresh w 40 _).below b1 (by simp)
      have hlt := B1.lt
      have bw : Below w.heap.size w w1 := ((Below.refl _ _).alloc (Nat.le_refl _) _).trans (b1.mono (by simp))
      have c0 := B1.cell 0
      have c1 := B1.cell 1
      have c2 := B1.cell 2
      have c3 := B1.cell 3
      have c4 := B1.cell 4
      have f0 := B1.free 0
      have f1 := B1.free 1
      have f2 := B1.free 2
      have f3 := B1.free 3
      have f4 := B1.free 4
      clear b1 B1
      go_wp2_with fail
      refine (top_at a ta false _ ha2 HA.out).mono ?_
      rintro e w' ⟨rfl, rfl⟩
      go_wp2_with fail
      refine (top_at t tt false _ ht2 HB.out).mono ?_
      rintro e w' ⟨rfl, rfl⟩
      by_cases he : ta = tt
      · subst he
        have hv9 := HV.out
        rw [show (ta == ta) = true from beq_self_eq_true ta, Bool.true_and, ← bne_cast] at hv9
        have HV2 := Lib.hid hv9
        clear hv9
        clear HV
        go_wp2_with fail
        refine (top_at a ta false _ ha2 HA.out).mono ?_
        rintro e w' ⟨rfl, rfl⟩
        go_wp2_with fail
        refine (one_at _ v _ HV2.out).mono ?_
        rintro e w' ⟨rfl, rfl⟩
        go_wp2_with fail
        refine bodyPost_ret (v := .agg #[.int .i64 X, .int .i64 nn, .int .i64 v, .int .i64 z, .int .i64 C]) (by simp [results, Try.results24, go_sem, c0, c1, c2, c3, c4, hlt]) rfl ⟨rfl, ?_⟩
        exact ((((((bw.setCell (p := ⟨w.heap.size, 0, none⟩) (Nat.le_refl _) _).setCell (p := ⟨w.heap.size, 1, none⟩) (Nat.le_refl _) _).setCell (p := ⟨w.heap.size, 2, none⟩) (Nat.le_refl _) _).setCell (p := ⟨w.heap.size, 3, none⟩) (Nat.le_refl _) _).setCell (p := ⟨w.heap.size, 4, none⟩) (Nat.le_refl _) _).alloc (by simp; omega) _)
      · have hv9 := HV.out
        rw [show (ta == tt) = false from beq_eq_false_iff_ne.2 he, Bool.false_and] at hv9
        have HV2 := Lib.hid hv9
        clear hv9
        have T9 : ((ta : Int) == tt) = false := by rw [beq_eq_false_iff_ne]; omega
        clear HV he
        go_wp2_with fail
        refine (one_at false v _ HV2.out).mono ?_
        rintro e w' ⟨rfl, rfl⟩
        go_wp2_with fail
        refine bodyPost_ret (v := .agg #[.int .i64 X, .int .i64 nn, .int .i64 v, .int .i64 z, .int .i64 C]) (by simp [results, Try.results24, go_sem, c0, c1, c2, c3, c4, hlt]) rfl ⟨rfl, ?_⟩
        exact ((((((bw.setCell (p := ⟨w.heap.size, 0, none⟩) (Nat.le_refl _) _).setCell (p := ⟨w.heap.size, 1, none⟩) (Nat.le_refl _) _).setCell (p := ⟨w.heap.size, 2, none⟩) (Nat.le_refl _) _).setCell (p := ⟨w.heap.size, 3, none⟩) (Nat.le_refl _) _).setCell (p := ⟨w.heap.size, 4, none⟩) (Nat.le_refl _) _).alloc (by simp; omega) _)
end Go.Proofs.Ytnjbgnkbncjnlaa
