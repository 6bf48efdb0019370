/-
  The document's binary sum.
-/
import Derived.Test.YtnjbgnkbncjnlaaRSmall
import Derived.StillTailTactics
namespace Go.Proofs.Ytnjbgnkbncjnlaa
open Go.RowKit Go.Shelf
set_option maxRecDepth 100000
set_option maxHeartbeats 1000000
set_option linter.unusedVariables false
theorem still_gen {P : Program} {ops ops2 : Array Oper} {Q : Exit → Act → World → Prop} {rest l : List Oper} {a : Act} {w : World} (R : World → Prop) (h : R w)
    (k : ∀ W, R W → wpStill P ops W (fun a' => wpList P ops2 Q rest a' W) l a) : wpStill P ops w (fun a' => wpList P ops2 Q rest a' w) l a := k w h
theorem radd_false_00 (a b c x n z o v : Nat) (w : World) (ha : a < 256) (hb : b < 256) (hc : c < 2) (hx : (a + b + c) % 256 = x) (hta : nat (topb false a) = 0) (htb : nat (topb false b) = 0)
    (hn : nat (topb false x) = n) (hz : nat (x == 0) = z) (ho : nat (decide (256 ≤ a + b + c)) = o) (hv : nat (true && n != 0) = v) :
    Calls Try.prog 23 #[.int .i64 a, .int .i64 b, .int .i64 c, .bool false] w fun e w' => e = .returned (.agg #[.int .i64 x, .int .i64 n, .int .i64 v, .int .i64 z, .int .i64 o]) ∧ Below w.heap.size w w' := by
  have E1 := Lib.hid (show ((a : Int) + b + c) % 256 = (x : Nat) by omega)
  have hx2 : x < 65536 := by omega
  have ha2 : a < 65536 := by omega
  have hb2 : b < 65536 := by omega
  have hn2 : n < 2 := by rw [← hn]; unfold nat; split <;> omega
  have HA : Hid (∀ w, Calls Try.prog 34 #[.int .i64 a, .bool false] w fun e w' => e = .returned (.int .i64 0) ∧ w = w') := Lib.hid (fun w => top_at a 0 false w ha2 hta)
  have HB : Hid (∀ w, Calls Try.prog 34 #[.int .i64 b, .bool false] w fun e w' => e = .returned (.int .i64 0) ∧ w = w') := Lib.hid (fun w => top_at b 0 false w hb2 htb)
  have HN := Lib.hid hn
  have HZ := Lib.hid hz
  have HO := Lib.hid (show nat (decide ((256 : Int) ≤ a + b + c)) = o by rw [← ho, decide_eq_decide.2 (show ((256 : Int) ≤ a + b + c) ↔ 256 ≤ a + b + c by omega)])
  have HV := Lib.hid hv
  have S1 : ∀ w, Calls Try.prog 19 #[.bool false] w fun e w' => e = .returned (.int .i64 256) ∧ w = w' := size_f
  clear hx hn hz ho hv hta htb
  go_enter Try.func23, Try.ntmps23
  go_wp2_with fail
  refine (S1 _).mono ?_
  rintro e w' ⟨rfl, rfl⟩
  go_wp2_with fail
  rw [E1.out]
  refine (named_at x n z false _ hx2 HN.out HZ.out).mono ?_
  rintro e w1 ⟨rfl, b1⟩
  have B1 : Whole w1 w.heap.size 40 #[.int .i64 0, .int .i64 0, .int .i64 0, .int .i64 0, .int .i64 0] := (Whole.fresh w 40 _).below b1 (by simp)
  have hlt := B1.lt
  have bw : Below w.heap.size w w1 := ((Below.refl _ _).alloc (Nat.le_refl _) _).trans (b1.mono (by simp))
  have c0 := B1.cell 0
  have c1 := B1.cell 1
  have c2 := B1.cell 2
  have c3 := B1.cell 3
  have c4 := B1.cell 4
  have f0 := B1.free 0
  have f1 := B1.free 1
  have f2 := B1.free 2
  have f3 := B1.free 3
  have f4 := B1.free 4
  have B0 := B1
  clear b1 B1
  go_wp2_with fail
  refine (S1 _).mono ?_
  rintro e w' ⟨rfl, rfl⟩
  go_wp2_with fail
  refine (one_at _ o _ HO.out).mono ?_
  rintro e w' ⟨rfl, rfl⟩
  go_wp2_with fail
  refine wp_region_still_tail 17 (by kernel_rfl) (by kernel_rfl) ?_
  simp only [List.take_succ_cons, List.take_zero, List.drop_succ_cons, List.drop_zero]
  refine still_gen (fun W => Whole W w1.heap.size 40 #[.int .i64 x, .int .i64 n, .int .i64 (-1), .int .i64 z, .int .i64 o] ∧ Whole W w.heap.size 40 #[.int .i64 0, .int .i64 0, .int .i64 0, .int .i64 0, .int .i64 0] ∧ Below w.heap.size w W)
    ⟨Whole.fresh w1 40 _, Whole.alloc B0 _, Below.drew (bw.alloc (Nat.le_of_lt hlt) _)⟩ ?_
  rintro W ⟨G1, G0, hB⟩
  clear S1 bw B0
  obtain ⟨g, hg⟩ : ∃ g, w1.heap.size = g := ⟨_, rfl⟩
  rw [hg] at G1 hlt ⊢
  clear hg
  have hl0 := G0.lt
  have hl1 := G1.lt
  have c0 := G0.cell 0
  have c1 := G0.cell 1
  have c2 := G0.cell 2
  have c3 := G0.cell 3
  have c4 := G0.cell 4
  have f0 := G0.free 0
  have f1 := G0.free 1
  have f2 := G0.free 2
  have f3 := G0.free 3
  have f4 := G0.free 4
  have d0 := G1.cell 0
  have d1 := G1.cell 1
  have d2 := G1.cell 2
  have d3 := G1.cell 3
  have d4 := G1.cell 4
  have k0 := G1.free 0
  have k1 := G1.free 1
  have k2 := G1.free 2
  have k3 := G1.free 3
  have k4 := G1.free 4
  clear G0 G1
  obtain rfl | rfl : n = 0 ∨ n = 1 := by omega
  · have HV2 : Hid (∀ w, Calls Try.prog 35 #[.bool false] w fun e w' => e = .returned (.int .i64 v) ∧ w = w') := Lib.hid (fun w => one_at false v w HV.out)
    clear HV
    repeat (first | ((with_reducible refine wpStill_step (fun K hK => ?_)); go_simp; ((with_reducible refine ⟨_, (HA.out _).mono fun _ _ ⟨he, hw⟩ => ⟨he, hw.symm⟩, hK _ ?_⟩); clear hK K)) | ((with_reducible refine wpStill_step (fun K hK => ?_)); go_simp; ((with_reducible refine ⟨_, (HB.out _).mono fun _ _ ⟨he, hw⟩ => ⟨he, hw.symm⟩, hK _ ?_⟩); clear hK K)) | ((with_reducible refine wpStill_step (fun K hK => ?_)); go_simp; ((with_reducible refine ⟨_, (HV2.out _).mono fun _ _ ⟨he, hw⟩ => ⟨he, hw.symm⟩, hK _ ?_⟩); clear hK K)) | ((with_reducible refine wpStill_step (fun K hK => ?_)); go_simp; (with_reducible refine hK _ ?_); clear hK K))
    with_reducible refine wpStill_nil ?_
    go_wp2_with fail
    refine bodyPost_ret (v := .agg #[.int .i64 x, .int .i64 0, .int .i64 v, .int .i64 z, .int .i64 o]) (by simp [results, Try.results23, go_sem, c0, c1, c2, c3, c4]) rfl ⟨rfl, ?_⟩
    exact (((((((hB.setCell (p := ⟨g, 2, none⟩) (Nat.le_of_lt hlt) _).setCell (p := ⟨w.heap.size, 0, none⟩) (Nat.le_refl _) _).setCell (p := ⟨w.heap.size, 1, none⟩) (Nat.le_refl _) _).setCell (p := ⟨w.heap.size, 2, none⟩) (Nat.le_refl _) _).setCell (p := ⟨w.heap.size, 3, none⟩) (Nat.le_refl _) _).setCell (p := ⟨w.heap.size, 4, none⟩) (Nat.le_refl _) _))
  · have HV2 : Hid (∀ w, Calls Try.prog 35 #[.bool true] w fun e w' => e = .returned (.int .i64 v) ∧ w = w') := Lib.hid (fun w => one_at true v w HV.out)
    clear HV
    repeat (first | ((with_reducible refine wpStill_step (fun K hK => ?_)); go_simp; ((with_reducible refine ⟨_, (HA.out _).mono fun _ _ ⟨he, hw⟩ => ⟨he, hw.symm⟩, hK _ ?_⟩); clear hK K)) | ((with_reducible refine wpStill_step (fun K hK => ?_)); go_simp; ((with_reducible refine ⟨_, (HB.out _).mono fun _ _ ⟨he, hw⟩ => ⟨he, hw.symm⟩, hK _ ?_⟩); clear hK K)) | ((with_reducible refine wpStill_step (fun K hK => ?_)); go_simp; ((with_reducible refine ⟨_, (HV2.out _).mono fun _ _ ⟨he, hw⟩ => ⟨he, hw.symm⟩, hK _ ?_⟩); clear hK K)) | ((with_reducible refine wpStill_step (fun K hK => ?_)); go_simp; (with_reducible refine hK _ ?_); clear hK K))
    with_reducible refine wpStill_nil ?_
    go_wp2_with fail
    refine bodyPost_ret (v := .agg #[.int .i64 x, .int .i64 1, .int .i64 v, .int .i64 z, .int .i64 o]) (by simp [results, Try.results23, go_sem, c0, c1, c2, c3, c4]) rfl ⟨rfl, ?_⟩
    exact (((((((hB.setCell (p := ⟨g, 2, none⟩) (Nat.le_of_lt hlt) _).setCell (p := ⟨w.heap.size, 0, none⟩) (Nat.le_refl _) _).setCell (p := ⟨w.heap.size, 1, none⟩) (Nat.le_refl _) _).setCell (p := ⟨w.heap.size, 2, none⟩) (Nat.le_refl _) _).setCell (p := ⟨w.heap.size, 3, none⟩) (Nat.le_refl _) _).setCell (p := ⟨w.heap.size, 4, none⟩) (Nat.le_refl _) _))
theorem radd_false_01 (a b c x n z o v : Nat) (w : World) (ha : a < 256) (hb : b < 256) (hc : c < 2) (hx : (a + b + c) % 256 = x) (hta : nat (topb false a) = 0) (htb : nat (topb false b) = 1)
    (hn : nat (topb false x) = n) (hz : nat (x == 0) = z) (ho : nat (decide (256 ≤ a + b + c)) = o) (hv : nat (false && n != 0) = v) :
    Calls Try.prog 23 #[.int .i64 a, .int .i64 b, .int .i64 c, .bool false] w fun e w' => e = .returned (.agg #[.int .i64 x, .int .i64 n, .int .i64 v, .int .i64 z, .int .i64 o]) ∧ Below w.heap.size w w' := by
  have E1 := Lib.hid (show ((a : Int) + b + c) % 256 = (x : Nat) by omega)
  have hx2 : x < 65536 := by omega
  have ha2 : a < 65536 := by omega
  have hb2 : b < 65536 := by omega
  have hn2 : n < 2 := by rw [← hn]; unfold nat; split <;> omega
  have HA : Hid (∀ w, Calls Try.prog 34 #[.int .i64 a, .bool false] w fun e w' => e = .returned (.int .i64 0) ∧ w = w') := Lib.hid (fun w => top_at a 0 false w ha2 hta)
  have HB : Hid (∀ w, Calls Try.prog 34 #[.int .i64 b, .bool false] w fun e w' => e = .returned (.int .i64 1) ∧ w = w') := Lib.hid (fun w => top_at b 1 false w hb2 htb)
  have HN := Lib.hid hn
  have HZ := Lib.hid hz
  have HO := Lib.hid (show nat (decide ((256 : Int) ≤ a + b + c)) = o by rw [← ho, decide_eq_decide.2 (show ((256 : Int) ≤ a + b + c) ↔ 256 ≤ a + b + c by omega)])
  have HV := Lib.hid hv
  have S1 : ∀ w, Calls Try.prog 19 #[.bool false] w fun e w' => e = .returned (.int .i64 256) ∧ w = w' := size_f
  clear hx hn hz ho hv hta htb
  go_enter Try.func23, Try.ntmps23
  go_wp2_with fail
  refine (S1 _).mono ?_
  rintro e w' ⟨rfl, rfl⟩
  go_wp2_with fail
  rw [E1.out]
  refine (named_at x n z false _ hx2 HN.out HZ.out).mono ?_
  rintro e w1 ⟨rfl, b1⟩
  have B1 : Whole w1 w.heap.size 40 #[.int .i64 0, .int .i64 0, .int .i64 0, .int .i64 0, .int .i64 0] := (Whole.fresh w 40 _).below b1 (by simp)
  have hlt := B1.lt
  have bw : Below w.heap.size w w1 := ((Below.refl _ _).alloc (Nat.le_refl _) _).trans (b1.mono (by simp))
  have c0 := B1.cell 0
  have c1 := B1.cell 1
  have c2 := B1.cell 2
  have c3 := B1.cell 3
  have c4 := B1.cell 4
  have f0 := B1.free 0
  have f1 := B1.free 1
  have f2 := B1.free 2
  have f3 := B1.free 3
  have f4 := B1.free 4
  have B0 := B1
  clear b1 B1
  go_wp2_with fail
  refine (S1 _).mono ?_
  rintro e w' ⟨rfl, rfl⟩
  go_wp2_with fail
  refine (one_at _ o _ HO.out).mono ?_
  rintro e w' ⟨rfl, rfl⟩
  go_wp2_with fail
  refine wp_region_still_tail 17 (by kernel_rfl) (by kernel_rfl) ?_
  simp only [List.take_succ_cons, List.take_zero, List.drop_succ_cons, List.drop_zero]
  refine still_gen (fun W => Whole W w1.heap.size 40 #[.int .i64 x, .int .i64 n, .int .i64 (-1), .int .i64 z, .int .i64 o] ∧ Whole W w.heap.size 40 #[.int .i64 0, .int .i64 0, .int .i64 0, .int .i64 0, .int .i64 0] ∧ Below w.heap.size w W)
    ⟨Whole.fresh w1 40 _, Whole.alloc B0 _, Below.drew (bw.alloc (Nat.le_of_lt hlt) _)⟩ ?_
  rintro W ⟨G1, G0, hB⟩
  clear S1 bw B0
  obtain ⟨g, hg⟩ : ∃ g, w1.heap.size = g := ⟨_, rfl⟩
  rw [hg] at G1 hlt ⊢
  clear hg
  have hl0 := G0.lt
  have hl1 := G1.lt
  have c0 := G0.cell 0
  have c1 := G0.cell 1
  have c2 := G0.cell 2
  have c3 := G0.cell 3
  have c4 := G0.cell 4
  have f0 := G0.free 0
  have f1 := G0.free 1
  have f2 := G0.free 2
  have f3 := G0.free 3
  have f4 := G0.free 4
  have d0 := G1.cell 0
  have d1 := G1.cell 1
  have d2 := G1.cell 2
  have d3 := G1.cell 3
  have d4 := G1.cell 4
  have k0 := G1.free 0
  have k1 := G1.free 1
  have k2 := G1.free 2
  have k3 := G1.free 3
  have k4 := G1.free 4
  clear G0 G1
  obtain rfl | rfl : n = 0 ∨ n = 1 := by omega
  · have HV2 : Hid (∀ w, Calls Try.prog 35 #[.bool false] w fun e w' => e = .returned (.int .i64 v) ∧ w = w') := Lib.hid (fun w => one_at false v w HV.out)
    clear HV
    repeat (first | ((with_reducible refine wpStill_step (fun K hK => ?_)); go_simp; ((with_reducible refine ⟨_, (HA.out _).mono fun _ _ ⟨he, hw⟩ => ⟨he, hw.symm⟩, hK _ ?_⟩); clear hK K)) | ((with_reducible refine wpStill_step (fun K hK => ?_)); go_simp; ((with_reducible refine ⟨_, (HB.out _).mono fun _ _ ⟨he, hw⟩ => ⟨he, hw.symm⟩, hK _ ?_⟩); clear hK K)) | ((with_reducible refine wpStill_step (fun K hK => ?_)); go_simp; ((with_reducible refine ⟨_, (HV2.out _).mono fun _ _ ⟨he, hw⟩ => ⟨he, hw.symm⟩, hK _ ?_⟩); clear hK K)) | ((with_reducible refine wpStill_step (fun K hK => ?_)); go_simp; (with_reducible refine hK _ ?_); clear hK K))
    with_reducible refine wpStill_nil ?_
    go_wp2_with fail
    refine bodyPost_ret (v := .agg #[.int .i64 x, .int .i64 0, .int .i64 v, .int .i64 z, .int .i64 o]) (by simp [results, Try.results23, go_sem, c0, c1, c2, c3, c4]) rfl ⟨rfl, ?_⟩
    exact (((((((hB.setCell (p := ⟨g, 2, none⟩) (Nat.le_of_lt hlt) _).setCell (p := ⟨w.heap.size, 0, none⟩) (Nat.le_refl _) _).setCell (p := ⟨w.heap.size, 1, none⟩) (Nat.le_refl _) _).setCell (p := ⟨w.heap.size, 2, none⟩) (Nat.le_refl _) _).setCell (p := ⟨w.heap.size, 3, none⟩) (Nat.le_refl _) _).setCell (p := ⟨w.heap.size, 4, none⟩) (Nat.le_refl _) _))
  · have HV2 : Hid (∀ w, Calls Try.prog 35 #[.bool false] w fun e w' => e = .returned (.int .i64 v) ∧ w = w') := Lib.hid (fun w => one_at false v w HV.out)
    clear HV
    repeat (first | ((with_reducible refine wpStill_step (fun K hK => ?_)); go_simp; ((with_reducible refine ⟨_, (HA.out _).mono fun _ _ ⟨he, hw⟩ => ⟨he, hw.symm⟩, hK _ ?_⟩); clear hK K)) | ((with_reducible refine wpStill_step (fun K hK => ?_)); go_simp; ((with_reducible refine ⟨_, (HB.out _).mono fun _ _ ⟨he, hw⟩ => ⟨he, hw.symm⟩, hK _ ?_⟩); clear hK K)) | ((with_reducible refine wpStill_step (fun K hK => ?_)); go_simp; ((with_reducible refine ⟨_, (HV2.out _).mono fun _ _ ⟨he, hw⟩ => ⟨he, hw.symm⟩, hK _ ?_⟩); clear hK K)) | ((with_reducible refine wpStill_step (fun K hK => ?_)); go_simp; (with_reducible refine hK _ ?_); clear hK K))
    with_reducible refine wpStill_nil ?_
    go_wp2_with fail
    refine bodyPost_ret (v := .agg #[.int .i64 x, .int .i64 1, .int .i64 v, .int .i64 z, .int .i64 o]) (by simp [results, Try.results23, go_sem, c0, c1, c2, c3, c4]) rfl ⟨rfl, ?_⟩
    exact (((((((hB.setCell (p := ⟨g, 2, none⟩) (Nat.le_of_lt hlt) _).setCell (p := ⟨w.heap.size, 0, none⟩) (Nat.le_refl _) _).setCell (p := ⟨w.heap.size, 1, none⟩) (Nat.le_refl _) _).setCell (p := ⟨w.heap.size, 2, none⟩) (Nat.le_refl _) _).setCell (p := ⟨w.heap.size, 3, none⟩) (Nat.le_refl _) _).setCell (p := ⟨w.heap.size, 4, none⟩) (Nat.le_refl _) _))
theorem radd_false_10 (a b c x n z o v : Nat) (w : World) (ha : a < 256) (hb : b < 256) (hc : c < 2) (hx : (a + b + c) % 256 = x) (hta : nat (topb false a) = 1) (htb : nat (topb false b) = 0)
    (hn : nat (topb false x) = n) (hz : nat (x == 0) = z) (ho : nat (decide (256 ≤ a + b + c)) = o) (hv : nat (false && n != 1) = v) :
    Calls Try.prog 23 #[.int .i64 a, .int .i64 b, .int .i64 c, .bool false] w fun e w' => e = .returned (.agg #[.int .i64 x, .int .i64 n, .int .i64 v, .int .i64 z, .int .i64 o]) ∧ Below w.heap.size w w' := by
  have E1 := Lib.hid (show ((a : Int) + b + c) % 256 = (x : Nat) by omega)
  have hx2 : x < 65536 := by omega
  have ha2 : a < 65536 := by omega
  have hb2 : b < 65536 := by omega
  have hn2 : n < 2 := by rw [← hn]; unfold nat; split <;> omega
  have HA : Hid (∀ w, Calls Try.prog 34 #[.int .i64 a, .bool false] w fun e w' => e = .returned (.int .i64 1) ∧ w = w') := Lib.hid (fun w => top_at a 1 false w ha2 hta)
  have HB : Hid (∀ w, Calls Try.prog 34 #[.int .i64 b, .bool false] w fun e w' => e = .returned (.int .i64 0) ∧ w = w') := Lib.hid (fun w => top_at b 0 false w hb2 htb)
  have HN := Lib.hid hn
  have HZ := Lib.hid hz
  have HO := Lib.hid (show nat (decide ((256 : Int) ≤ a + b + c)) = o by rw [← ho, decide_eq_decide.2 (show ((256 : Int) ≤ a + b + c) ↔ 256 ≤ a + b + c by omega)])
  have HV := Lib.hid hv
  have S1 : ∀ w, Calls Try.prog 19 #[.bool false] w fun e w' => e = .returned (.int .i64 256) ∧ w = w' := size_f
  clear hx hn hz ho hv hta htb
  go_enter Try.func23, Try.ntmps23
  go_wp2_with fail
  refine (S1 _).mono ?_
  rintro e w' ⟨rfl, rfl⟩
  go_wp2_with fail
  rw [E1.out]
  refine (named_at x n z false _ hx2 HN.out HZ.out).mono ?_
  rintro e w1 ⟨rfl, b1⟩
  have B1 : Whole w1 w.heap.size 40 #[.int .i64 0, .int .i64 0, .int .i64 0, .int .i64 0, .int .i64 0] := (Whole.fresh w 40 _).below b1 (by simp)
  have hlt := B1.lt
  have bw : Below w.heap.size w w1 := ((Below.refl _ _).alloc (Nat.le_refl _) _).trans (b1.mono (by simp))
  have c0 := B1.cell 0
  have c1 := B1.cell 1
  have c2 := B1.cell 2
  have c3 := B1.cell 3
  have c4 := B1.cell 4
  have f0 := B1.free 0
  have f1 := B1.free 1
  have f2 := B1.free 2
  have f3 := B1.free 3
  have f4 := B1.free 4
  have B0 := B1
  clear b1 B1
  go_wp2_with fail
  refine (S1 _).mono ?_
  rintro e w' ⟨rfl, rfl⟩
  go_wp2_with fail
  refine (one_at _ o _ HO.out).mono ?_
  rintro e w' ⟨rfl, rfl⟩
  go_wp2_with fail
  refine wp_region_still_tail 17 (by kernel_rfl) (by kernel_rfl) ?_
  simp only [List.take_succ_cons, List.take_zero, List.drop_succ_cons, List.drop_zero]
  refine still_gen (fun W => Whole W w1.heap.size 40 #[.int .i64 x, .int .i64 n, .int .i64 (-1), .int .i64 z, .int .i64 o] ∧ Whole W w.heap.size 40 #[.int .i64 0, .int .i64 0, .int .i64 0, .int .i64 0, .int .i64 0] ∧ Below w.heap.size w W)
    ⟨Whole.fresh w1 40 _, Whole.alloc B0 _, Below.drew (bw.alloc (Nat.le_of_lt hlt) _)⟩ ?_
  rintro W ⟨G1, G0, hB⟩
  clear S1 bw B0
  obtain ⟨g, hg⟩ : ∃ g, w1.heap.size = g := ⟨_, rfl⟩
  rw [hg] at G1 hlt ⊢
  clear hg
  have hl0 := G0.lt
  have hl1 := G1.lt
  have c0 := G0.cell 0
  have c1 := G0.cell 1
  have c2 := G0.cell 2
  have c3 := G0.cell 3
  have c4 := G0.cell 4
  have f0 := G0.free 0
  have f1 := G0.free 1
  have f2 := G0.free 2
  have f3 := G0.free 3
  have f4 := G0.free 4
  have d0 := G1.cell 0
  have d1 := G1.cell 1
  have d2 := G1.cell 2
  have d3 := G1.cell 3
  have d4 := G1.cell 4
  have k0 := G1.free 0
  have k1 := G1.free 1
  have k2 := G1.free 2
  have k3 := G1.free 3
  have k4 := G1.free 4
  clear G0 G1
  obtain rfl | rfl : n = 0 ∨ n = 1 := by omega
  · have HV2 : Hid (∀ w, Calls Try.prog 35 #[.bool false] w fun e w' => e = .returned (.int .i64 v) ∧ w = w') := Lib.hid (fun w => one_at false v w HV.out)
    clear HV
    repeat (first | ((with_reducible refine wpStill_step (fun K hK => ?_)); go_simp; ((with_reducible refine ⟨_, (HA.out _).mono fun _ _ ⟨he, hw⟩ => ⟨he, hw.symm⟩, hK _ ?_⟩); clear hK K)) | ((with_reducible refine wpStill_step (fun K hK => ?_)); go_simp; ((with_reducible refine ⟨_, (HB.out _).mono fun _ _ ⟨he, hw⟩ => ⟨he, hw.symm⟩, hK _ ?_⟩); clear hK K)) | ((with_reducible refine wpStill_step (fun K hK => ?_)); go_simp; ((with_reducible refine ⟨_, (HV2.out _).mono fun _ _ ⟨he, hw⟩ => ⟨he, hw.symm⟩, hK _ ?_⟩); clear hK K)) | ((with_reducible refine wpStill_step (fun K hK => ?_)); go_simp; (with_reducible refine hK _ ?_); clear hK K))
    with_reducible refine wpStill_nil ?_
    go_wp2_with fail
    refine bodyPost_ret (v := .agg #[.int .i64 x, .int .i64 0, .int .i64 v, .int .i64 z, .int .i64 o]) (by simp [results, Try.results23, go_sem, c0, c1, c2, c3, c4]) rfl ⟨rfl, ?_⟩
    exact (((((((hB.setCell (p := ⟨g, 2, none⟩) (Nat.le_of_lt hlt) _).setCell (p := ⟨w.heap.size, 0, none⟩) (Nat.le_refl _) _).setCell (p := ⟨w.heap.size, 1, none⟩) (Nat.le_refl _) _).setCell (p := ⟨w.heap.size, 2, none⟩) (Nat.le_refl _) _).setCell (p := ⟨w.heap.size, 3, none⟩) (Nat.le_refl _) _).setCell (p := ⟨w.heap.size, 4, none⟩) (Nat.le_refl _) _))
  · have HV2 : Hid (∀ w, Calls Try.prog 35 #[.bool false] w fun e w' => e = .returned (.int .i64 v) ∧ w = w') := Lib.hid (fun w => one_at false v w HV.out)
    clear HV
    repeat (first | ((with_reducible refine wpStill_step (fun K hK => ?_)); go_simp; ((with_reducible refine ⟨_, (HA.out _).mono fun _ _ ⟨he, hw⟩ => ⟨he, hw.symm⟩, hK _ ?_⟩); clear hK K)) | ((with_reducible refine wpStill_step (fun K hK => ?_)); go_simp; ((with_reducible refine ⟨_, (HB.out _).mono fun _ _ ⟨he, hw⟩ => ⟨he, hw.symm⟩, hK _ ?_⟩); clear hK K)) | ((with_reducible refine wpStill_step (fun K hK => ?_)); go_simp; ((with_reducible refine ⟨_, (HV2.out _).mono fun _ _ ⟨he, hw⟩ => ⟨he, hw.symm⟩, hK _ ?_⟩); clear hK K)) | ((with_reducible refine wpStill_step (fun K hK => ?_)); go_simp; (with_reducible refine hK _ ?_); clear hK K))
    with_reducible refine wpStill_nil ?_
    go_wp2_with fail
    refine bodyPost_ret (v := .agg #[.int .i64 x, .int .i64 1, .int .i64 v, .int .i64 z, .int .i64 o]) (by simp [results, Try.results23, go_sem, c0, c1, c2, c3, c4]) rfl ⟨rfl, ?_⟩
    exact (((((((hB.setCell (p := ⟨g, 2, none⟩) (Nat.le_of_lt hlt) _).setCell (p := ⟨w.heap.size, 0, none⟩) (Nat.le_refl _) _).setCell (p := ⟨w.heap.size, 1, none⟩) (Nat.le_refl _) _).setCell (p := ⟨w.heap.size, 2, none⟩) (Nat.le_refl _) _).setCell (p := ⟨w.heap.size, 3, none⟩) (Nat.le_refl _) _).setCell (p := ⟨w.heap.size, 4, none⟩) (Nat.le_refl _) _))
theorem radd_false_11 (a b c x n z o v : Nat) (w : World) (ha : a < 256) (hb : b < 256) (hc : c < 2) (hx : (a + b + c) % 256 = x) (hta : nat (topb false a) = 1) (htb : nat (topb false b) = 1)
    (hn : nat (topb false x) = n) (hz : nat (x == 0) = z) (ho : nat (decide (256 ≤ a + b + c)) = o) (hv : nat (true && n != 1) = v) :
    Calls Try.prog 23 #[.int .i64 a, .int .i64 b, .int .i64 c, .bool false] w fun e w' => e = .returned (.agg #[.int .i64 x, .int .i64 n, .int .i64 v, .int .i64 z, .int .i64 o]) ∧ Below w.heap.size w w' := by
  have E1 := Lib.hid (show ((a : Int) + b + c) % 256 = (x : Nat) by omega)
  have hx2 : x < 65536 := by omega
  have ha2 : a < 65536 := by omega
  have hb2 : b < 65536 := by omega
  have hn2 : n < 2 := by rw [← hn]; unfold nat; split <;> omega
  have HA : Hid (∀ w, Calls Try.prog 34 #[.int .i64 a, .bool false] w fun e w' => e = .returned (.int .i64 1) ∧ w = w') := Lib.hid (fun w => top_at a 1 false w ha2 hta)
  have HB : Hid (∀ w, Calls Try.prog 34 #[.int .i64 b, .bool false] w fun e w' => e = .returned (.int .i64 1) ∧ w = w') := Lib.hid (fun w => top_at b 1 false w hb2 htb)
  have HN := Lib.hid hn
  have HZ := Lib.hid hz
  have HO := Lib.hid (show nat (decide ((256 : Int) ≤ a + b + c)) = o by rw [← ho, decide_eq_decide.2 (show ((256 : Int) ≤ a + b + c) ↔ 256 ≤ a + b + c by omega)])
  have HV := Lib.hid hv
  have S1 : ∀ w, Calls Try.prog 19 #[.bool false] w fun e w' => e = .returned (.int .i64 256) ∧ w = w' := size_f
  clear hx hn hz ho hv hta htb
  go_enter Try.func23, Try.ntmps23
  go_wp2_with fail
  refine (S1 _).mono ?_
  rintro e w' ⟨rfl, rfl⟩
  go_wp2_with fail
  rw [E1.out]
  refine (named_at x n z false _ hx2 HN.out HZ.out).mono ?_
  rintro e w1 ⟨rfl, b1⟩
  have B1 : Whole w1 w.heap.size 40 #[.int .i64 0, .int .i64 0, .int .i64 0, .int .i64 0, .int .i64 0] := (Whole.fresh w 40 _).below b1 (by simp)
  have hlt := B1.lt
  have bw : Below w.heap.size w w1 := ((Below.refl _ _).alloc (Nat.le_refl _) _).trans (b1.mono (by simp))
  have c0 := B1.cell 0
  have c1 := B1.cell 1
  have c2 := B1.cell 2
  have c3 := B1.cell 3
  have c4 := B1.cell 4
  have f0 := B1.free 0
  have f1 := B1.free 1
  have f2 := B1.free 2
  have f3 := B1.free 3
  have f4 := B1.free 4
  have B0 := B1
  clear b1 B1
  go_wp2_with fail
  refine (S1 _).mono ?_
  rintro e w' ⟨rfl, rfl⟩
  go_wp2_with fail
  refine (one_at _ o _ HO.out).mono ?_
  rintro e w' ⟨rfl, rfl⟩
  go_wp2_with fail
  refine wp_region_still_tail 17 (by kernel_rfl) (by kernel_rfl) ?_
  simp only [List.take_succ_cons, List.take_zero, List.drop_succ_cons, List.drop_zero]
  refine still_gen (fun W => Whole W w1.heap.size 40 #[.int .i64 x, .int .i64 n, .int .i64 (-1), .int .i64 z, .int .i64 o] ∧ Whole W w.heap.size 40 #[.int .i64 0, .int .i64 0, .int .i64 0, .int .i64 0, .int .i64 0] ∧ Below w.heap.size w W)
    ⟨Whole.fresh w1 40 _, Whole.alloc B0 _, Below.drew (bw.alloc (Nat.le_of_lt hlt) _)⟩ ?_
  rintro W ⟨G1, G0, hB⟩
  clear S1 bw B0
  obtain ⟨g, hg⟩ : ∃ g, w1.heap.size = g := ⟨_, rfl⟩
  rw [hg] at G1 hlt ⊢
  clear hg
  have hl0 := G0.lt
  have hl1 := G1.lt
  have c0 := G0.cell 0
  have c1 := G0.cell 1
  have c2 := G0.cell 2
  have c3 := G0.cell 3
  have c4 := G0.cell 4
  have f0 := G0.free 0
  have f1 := G0.free 1
  have f2 := G0.free 2
  have f3 := G0.free 3
  have f4 := G0.free 4
  have d0 := G1.cell 0
  have d1 := G1.cell 1
  have d2 := G1.cell 2
  have d3 := G1.cell 3
  have d4 := G1.cell 4
  have k0 := G1.free 0
  have k1 := G1.free 1
  have k2 := G1.free 2
  have k3 := G1.free 3
  have k4 := G1.free 4
  clear G0 G1
  obtain rfl | rfl : n = 0 ∨ n = 1 := by omega
  · have HV2 : Hid (∀ w, Calls Try.prog 35 #[.bool true] w fun e w' => e = .returned (.int .i64 v) ∧ w = w') := Lib.hid (fun w => one_at true v w HV.out)
    clear HV
    repeat (first | ((with_reducible refine wpStill_step (fun K hK => ?_)); go_simp; ((with_reducible refine ⟨_, (HA.out _).mono fun _ _ ⟨he, hw⟩ => ⟨he, hw.symm⟩, hK _ ?_⟩); clear hK K)) | ((with_reducible refine wpStill_step (fun K hK => ?_)); go_simp; ((with_reducible refine ⟨_, (HB.out _).mono fun _ _ ⟨he, hw⟩ => ⟨he, hw.symm⟩, hK _ ?_⟩); clear hK K)) | ((with_reducible refine wpStill_step (fun K hK => ?_)); go_simp; ((with_reducible refine ⟨_, (HV2.out _).mono fun _ _ ⟨he, hw⟩ => ⟨he, hw.symm⟩, hK _ ?_⟩); clear hK K)) | ((with_reducible refine wpStill_step (fun K hK => ?_)); go_simp; (with_reducible refine hK _ ?_); clear hK K))
    with_reducible refine wpStill_nil ?_
    go_wp2_with fail
    refine bodyPost_ret (v := .agg #[.int .i64 x, .int .i64 0, .int .i64 v, .int .i64 z, .int .i64 o]) (by simp [results, Try.results23, go_sem, c0, c1, c2, c3, c4]) rfl ⟨rfl, ?_⟩
    exact (((((((hB.setCell (p := ⟨g, 2, none⟩) (Nat.le_of_lt hlt) _).setCell (p := ⟨w.heap.size, 0, none⟩) (Nat.le_refl _) _).setCell (p := ⟨w.heap.size, 1, none⟩) (Nat.le_refl _) _).setCell (p := ⟨w.heap.size, 2, none⟩) (Nat.le_refl _) _).setCell (p := ⟨w.heap.size, 3, none⟩) (Nat.le_refl _) _).setCell (p := ⟨w.heap.size, 4, none⟩) (Nat.le_refl _) _))
  · have HV2 : Hid (∀ w, Calls Try.prog 35 #[.bool false] w fun e w' => e = .returned (.int .i64 v) ∧ w = w') := Lib.hid (fun w => one_at false v w HV.out)
    clear HV
    repeat (first | ((with_reducible refine wpStill_step (fun K hK => ?_)); go_simp; ((with_reducible refine ⟨_, (HA.out _).mono fun _ _ ⟨he, hw⟩ => ⟨he, hw.symm⟩, hK _ ?_⟩); clear hK K)) | ((with_reducible refine wpStill_step (fun K hK => ?_)); go_simp; ((with_reducible refine ⟨_, (HB.out _).mono fun _ _ ⟨he, hw⟩ => ⟨he, hw.symm⟩, hK _ ?_⟩); clear hK K)) | ((with_reducible refine wpStill_step (fun K hK => ?_)); go_simp; ((with_reducible refine ⟨_, (HV2.out _).mono fun _ _ ⟨he, hw⟩ => ⟨he, hw.symm⟩, hK _ ?_⟩); clear hK K)) | ((with_reducible refine wpStill_step (fun K hK => ?_)); go_simp; (with_reducible refine hK _ ?_); clear hK K))
    with_reducible refine wpStill_nil ?_
    go_wp2_with fail
    refine bodyPost_ret (v := .agg #[.int .i64 x, .int .i64 1, .int .i64 v, .int .i64 z, .int .i64 o]) (by simp [results, Try.results23, go_sem, c0, c1, c2, c3, c4]) rfl ⟨rfl, ?_⟩
    exact (((((((hB.setCell (p := ⟨g, 2, none⟩) (Nat.le_of_lt hlt) _).setCell (p := ⟨w.heap.size, 0, none⟩) (Nat.le_refl _) _).setCell (p := ⟨w.heap.size, 1, none⟩) (Nat.le_refl _) _).setCell (p := ⟨w.heap.size, 2, none⟩) (Nat.le_refl _) _).setCell (p := ⟨w.heap.size, 3, none⟩) (Nat.le_refl _) _).setCell (p := ⟨w.heap.size, 4, none⟩) (Nat.le_refl _) _))
end Go.Proofs.Ytnjbgnkbncjnlaa
