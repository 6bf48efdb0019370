/-
  The document's Takes: Open.
-/
import Derived.Test.YtacnmnodbmbplaaRTkB
import Derived.BigQuiet
namespace Go.Proofs.Ytacnmnodbmbplaa
open Go.RowKit Go.Shelf
set_option maxRecDepth 100000
set_option maxHeartbeats 1000000
set_option linter.unusedVariables false

theorem num_adv1 {s : RS} {P X : Nat} (hP : P = s.at_ + 1) (h : (s.adv 1).num 4 = X) : numN (shiftF P s.f) 4 = X := by
  subst hP
  unfold RS.num RS.adv at h
  exact h
theorem byte_form {w : World} {a : Option Addr} {n A : Nat} {f : Nat → Nat} (h : Row w a n f) (hf : A + 5 ≤ n) : ∃ bb bo, a = some ⟨bb, bo, none⟩ ∧ bb < w.heap.size ∧ w.cell? ⟨bb, bo + A, none⟩ = some (.int .u8 (f A : Nat)) := by
  rcases h.2 with h0 | ⟨bb, bo, e, hbb, hc⟩
  · omega
  · exact ⟨bb, bo, e, hbb, hc A (by omega)⟩
theorem step_open (s : RS) (n : Int) {E : Nat} (h : s.openE (n % 256).toNat = E) : s.step 6 n = ⟨if E = 0 then s.opened else s, 0, 0, fun _ => 0, E⟩ := by
  subst h
  rfl
theorem tag_facts (n : Int) : IntKind.u8.wrap n = ((n % 256).toNat : Nat) ∧ (n % 256).toNat < 256 ∧ n % 256 = ((n % 256).toNat : Nat) := ⟨by simp only [IntKind.wrap_u8]; omega, by omega, by omega⟩
theorem k_facts {q K : Nat} (h : q + 1 = K) (h16 : q ≤ 16) (ho : q ≠ 16) : decide ((K : Int) > 16) = false ∧ ¬ (16 : Int) < (K : Int) ∧ ¬ 16 < K := ⟨decide_eq_false (by omega), by omega, by omega⟩
theorem five_facts {A n c : Nat} (h : A + 5 ≤ n) (h2 : n ≤ 16777216) (hc : n ≤ c) : ∃ P Z, P = A + 1 ∧ Z = A + 5 ∧ wrap64 ((A : Int) + 1) = (P : Int) ∧ IntKind.i64.wrap ((A : Int) + 1) = (P : Int) ∧ wrap64 ((A : Int) + 5) = (Z : Int) ∧ IntKind.i64.wrap ((A : Int) + 5) = (Z : Int) ∧ (P : Int) ≤ (Z : Int) ∧ (Z : Int) ≤ (c : Int) ∧ ¬ c = P ∧ Z ≤ c ∧ Z - P = 4 ∧ P ≤ Z ∧ (P : Int) ≤ (c : Int) ∧ (A : Int) < (n : Int) ∧ P + 4 ≤ n :=
  ⟨_, _, rfl, rfl, by unfold wrap64; omega, by simp only [IntKind.wrap_i64]; omega, by unfold wrap64; omega, by simp only [IntKind.wrap_i64]; omega, by omega, by omega, by omega, by omega, by omega, by omega, by omega, by omega, by omega⟩
theorem fit5 {s : RS} (hg : s.Good) (hz : ¬ s.left < 5) : s.at_ + 5 ≤ s.n := by have := hg.end_le; have := hg.le; unfold RS.left at hz; omega
theorem sub_five {L : Nat} (h : ¬ L < 5) (h2 : L ≤ 16777216) : wrap64 ((L : Int) - 5) = ((L - 5 : Nat) : Int) ∧ IntKind.i64.wrap ((L : Int) - 5) = ((L - 5 : Nat) : Int) := ⟨by unfold wrap64; omega, by simp only [IntKind.wrap_i64]; omega⟩
theorem rtk_6a {a ae : Option Addr} {c ce : Nat} {s : RS} (n : Int) (pa : Option Addr) (len cap : Nat) (w : World) (h : RDoc w a c ae ce s) (hg : s.Good) (ho : s.op = 16) :
    Calls Try.prog 20 #[rdV a c ae ce s, putV 6 n pa len cap] w fun e w' => ∃ ab cb ae' ce', e = .returned (.tuple #[rdV a c ae' ce' (s.step 6 n).s, tookV (s.step 6 n).N ab (s.step 6 n).len cb (s.step 6 n).E]) ∧ RDoc w' a c ae' ce' (s.step 6 n).s ∧ Row w' ab (s.step 6 n).len (s.step 6 n).g ∧ Below w.heap.size w w' ∧ NewRow w.heap.size w' ae ae' := by
  have hX := (((Whole.fresh w 48 #[.slice a s.n c, .int .i64 (s.at_ : Nat), .slice ae (s.op + 1) ce]).alloc (.cells #[.int .i64 6, .int .i64 n, .slice pa len cap] 32)).alloc (.cells #[.slice none 0 0, .int .i64 0, .slice none 0 0] 48)).alloc (.cells #[.int .i64 0, .slice none 0 0, .int .i64 0] 50)
  have hY := ((Whole.fresh (w.alloc (.cells #[.slice a s.n c, .int .i64 (s.at_ : Nat), .slice ae (s.op + 1) ce] 48)) 32 #[.int .i64 6, .int .i64 n, .slice pa len cap]).alloc (.cells #[.slice none 0 0, .int .i64 0, .slice none 0 0] 48)).alloc (.cells #[.int .i64 0, .slice none 0 0, .int .i64 0] 50)
  have hU := (Whole.fresh ((w.alloc (.cells #[.slice a s.n c, .int .i64 (s.at_ : Nat), .slice ae (s.op + 1) ce] 48)).alloc (.cells #[.int .i64 6, .int .i64 n, .slice pa len cap] 32)) 48 #[.slice none 0 0, .int .i64 0, .slice none 0 0]).alloc (.cells #[.int .i64 0, .slice none 0 0, .int .i64 0] 50)
  have hV := Whole.fresh (((w.alloc (.cells #[.slice a s.n c, .int .i64 (s.at_ : Nat), .slice ae (s.op + 1) ce] 48)).alloc (.cells #[.int .i64 6, .int .i64 n, .slice pa len cap] 32)).alloc (.cells #[.slice none 0 0, .int .i64 0, .slice none 0 0] 48)) 50 #[.int .i64 0, .slice none 0 0, .int .i64 0]
  have hB := ((((Below.refl w.heap.size w).alloc (Nat.le_refl _) (.cells #[.slice a s.n c, .int .i64 (s.at_ : Nat), .slice ae (s.op + 1) ce] 48)).alloc (by simp) (.cells #[.int .i64 6, .int .i64 n, .slice pa len cap] 32)).alloc (by simp; omega) (.cells #[.slice none 0 0, .int .i64 0, .slice none 0 0] 48)).alloc (by simp; omega) (.cells #[.int .i64 0, .slice none 0 0, .int .i64 0] 50)
  have hs1 : (w.alloc (.cells #[.slice a s.n c, .int .i64 (s.at_ : Nat), .slice ae (s.op + 1) ce] 48)).heap.size = w.heap.size + 1 := by simp
  have hs2 : ((w.alloc (.cells #[.slice a s.n c, .int .i64 (s.at_ : Nat), .slice ae (s.op + 1) ce] 48)).alloc (.cells #[.int .i64 6, .int .i64 n, .slice pa len cap] 32)).heap.size = w.heap.size + 1 + 1 := by simp
  have hs3 : (((w.alloc (.cells #[.slice a s.n c, .int .i64 (s.at_ : Nat), .slice ae (s.op + 1) ce] 48)).alloc (.cells #[.int .i64 6, .int .i64 n, .slice pa len cap] 32)).alloc (.cells #[.slice none 0 0, .int .i64 0, .slice none 0 0] 48)).heap.size = w.heap.size + 1 + 1 + 1 := by simp
  rw [hs1] at hY
  rw [hs2] at hU
  rw [hs3] at hV
  clear hs1 hs2 hs3
  have hE : s.openE (n % 256).toNat = 4 := if_pos ho
  rw [step_open s n hE]
  have hRD := Lib.hid h
  unfold rdV putV at *
  obtain ⟨K, hK⟩ : ∃ K, s.op + 1 = K := ⟨_, rfl⟩
  rw [hK] at hX hB
  rw [hK] at hY hU hV
  show Calls _ _ _ _ fun e w' => ∃ ab cb ae' ce', e = .returned (.tuple #[.agg #[.slice a s.n c, .int .i64 (s.at_ : Nat), .slice ae' (s.op + 1) ce'], tookV 0 ab 0 cb 4]) ∧ RDoc w' a c ae' ce' s ∧ Row w' ab 0 (fun _ => 0) ∧ Below w.heap.size w w' ∧ NewRow w.heap.size w' ae ae'
  rw [hK]
  obtain rfl : K = 17 := by omega
  replace hK := Lib.hid hK
  clear hE ho hg h
  go_enter Try.func20, Try.ntmps20
  go_upto_region 1 with (fail)
  generalize ((((w.alloc (.cells #[.slice a s.n c, .int .i64 (s.at_ : Nat), .slice ae 17 ce] 48)).alloc (.cells #[.int .i64 6, .int .i64 n, .slice pa len cap] 32)).alloc (.cells #[.slice none 0 0, .int .i64 0, .slice none 0 0] 48)).alloc (.cells #[.int .i64 0, .slice none 0 0, .int .i64 0] 50)) = W0 at *
  have x0 := hX.cell 0
  have x1 := hX.cell 1
  have x2 := hX.cell 2
  have y0 := hY.cell 0
  simp only [List.getElem?_toArray, List.getElem?_cons_zero, List.getElem?_cons_succ] at x0 x1 x2 y0
  have z0 := hU.cell 0
  have z1 := hU.cell 1
  have z2 := hU.cell 2
  have v0 := hV.cell 0
  have v1 := hV.cell 1
  have v2 := hV.cell 2
  simp only [List.getElem?_toArray, List.getElem?_cons_zero, List.getElem?_cons_succ] at z0 z1 z2 v0 v1 v2
  have g0 := hU.free 0
  have g1 := hU.free 1
  have g2 := hU.free 2
  have k0 := hV.free 0
  have k1 := hV.free 1
  have k2 := hV.free 2
  have fin := Lib.hid (rd_end hB hU hV (.slice a s.n c) (.int .i64 (s.at_ : Nat)) (.slice ae 17 ce) (.int .i64 0) (.slice none 0 0) (.int .i64 4))
  clear hX hY hU hV hB
  go_wp2_with fail
  exact bodyPost_ret (results_cells2 (fn := Try.f20) (p1 := 4) (p2 := 5) (ty1 := 48) (ty2 := 50) rfl _ _ _ _ _ _ _ _ (0, 0) (0, 0) _ _ rfl fin.out.1 Try.underlying48 rfl (by kernel_rfl) rfl fin.out.2.1 Try.underlying50 rfl (by kernel_rfl)) rfl ⟨_, _, _, _, rfl, hRD.out.below fin.out.2.2, Row.nil _ _ _, fin.out.2.2, .inl rfl⟩
theorem rtk_6b {a ae : Option Addr} {c ce : Nat} {s : RS} (n : Int) (pa : Option Addr) (len cap : Nat) (w : World) (h : RDoc w a c ae ce s) (hg : s.Good) (ho : s.op ≠ 16) (hz : s.left < 5) :
    Calls Try.prog 20 #[rdV a c ae ce s, putV 6 n pa len cap] w fun e w' => ∃ ab cb ae' ce', e = .returned (.tuple #[rdV a c ae' ce' (s.step 6 n).s, tookV (s.step 6 n).N ab (s.step 6 n).len cb (s.step 6 n).E]) ∧ RDoc w' a c ae' ce' (s.step 6 n).s ∧ Row w' ab (s.step 6 n).len (s.step 6 n).g ∧ Below w.heap.size w w' ∧ NewRow w.heap.size w' ae ae' := by
  have hX := (((Whole.fresh w 48 #[.slice a s.n c, .int .i64 (s.at_ : Nat), .slice ae (s.op + 1) ce]).alloc (.cells #[.int .i64 6, .int .i64 n, .slice pa len cap] 32)).alloc (.cells #[.slice none 0 0, .int .i64 0, .slice none 0 0] 48)).alloc (.cells #[.int .i64 0, .slice none 0 0, .int .i64 0] 50)
  have hY := ((Whole.fresh (w.alloc (.cells #[.slice a s.n c, .int .i64 (s.at_ : Nat), .slice ae (s.op + 1) ce] 48)) 32 #[.int .i64 6, .int .i64 n, .slice pa len cap]).alloc (.cells #[.slice none 0 0, .int .i64 0, .slice none 0 0] 48)).alloc (.cells #[.int .i64 0, .slice none 0 0, .int .i64 0] 50)
  have hU := (Whole.fresh ((w.alloc (.cells #[.slice a s.n c, .int .i64 (s.at_ : Nat), .slice ae (s.op + 1) ce] 48)).alloc (.cells #[.int .i64 6, .int .i64 n, .slice pa len cap] 32)) 48 #[.slice none 0 0, .int .i64 0, .slice none 0 0]).alloc (.cells #[.int .i64 0, .slice none 0 0, .int .i64 0] 50)
  have hV := Whole.fresh (((w.alloc (.cells #[.slice a s.n c, .int .i64 (s.at_ : Nat), .slice ae (s.op + 1) ce] 48)).alloc (.cells #[.int .i64 6, .int .i64 n, .slice pa len cap] 32)).alloc (.cells #[.slice none 0 0, .int .i64 0, .slice none 0 0] 48)) 50 #[.int .i64 0, .slice none 0 0, .int .i64 0]
  have hB := ((((Below.refl w.heap.size w).alloc (Nat.le_refl _) (.cells #[.slice a s.n c, .int .i64 (s.at_ : Nat), .slice ae (s.op + 1) ce] 48)).alloc (by simp) (.cells #[.int .i64 6, .int .i64 n, .slice pa len cap] 32)).alloc (by simp; omega) (.cells #[.slice none 0 0, .int .i64 0, .slice none 0 0] 48)).alloc (by simp; omega) (.cells #[.int .i64 0, .slice none 0 0, .int .i64 0] 50)
  have hs1 : (w.alloc (.cells #[.slice a s.n c, .int .i64 (s.at_ : Nat), .slice ae (s.op + 1) ce] 48)).heap.size = w.heap.size + 1 := by simp
  have hs2 : ((w.alloc (.cells #[.slice a s.n c, .int .i64 (s.at_ : Nat), .slice ae (s.op + 1) ce] 48)).alloc (.cells #[.int .i64 6, .int .i64 n, .slice pa len cap] 32)).heap.size = w.heap.size + 1 + 1 := by simp
  have hs3 : (((w.alloc (.cells #[.slice a s.n c, .int .i64 (s.at_ : Nat), .slice ae (s.op + 1) ce] 48)).alloc (.cells #[.int .i64 6, .int .i64 n, .slice pa len cap] 32)).alloc (.cells #[.slice none 0 0, .int .i64 0, .slice none 0 0] 48)).heap.size = w.heap.size + 1 + 1 + 1 := by simp
  rw [hs1] at hY
  rw [hs2] at hU
  rw [hs3] at hV
  clear hs1 hs2 hs3
  have hE : s.openE (n % 256).toNat = 56 := by unfold RS.openE; rw [if_neg ho, if_pos hz]
  rw [step_open s n hE]
  clear hE
  have HLf := Lib.hid (fun (W : World) (hW : RDoc W a c ae ce s) => rleftd_any W hW hg)
  have hRD := Lib.hid h
  have h16 := hg.op
  show Calls _ _ _ _ fun e w' => ∃ ab cb ae' ce', e = .returned (.tuple #[.agg #[.slice a s.n c, .int .i64 (s.at_ : Nat), .slice ae' (s.op + 1) ce'], tookV 0 ab 0 cb 56]) ∧ RDoc w' a c ae' ce' s ∧ Row w' ab 0 (fun _ => 0) ∧ Below w.heap.size w w' ∧ NewRow w.heap.size w' ae ae'
  unfold rdV putV at *
  obtain ⟨K, hK⟩ : ∃ K, s.op + 1 = K := ⟨_, rfl⟩
  rw [hK] at hX hB HLf
  rw [hK] at hY hU hV
  have ⟨q1, q2, q3⟩ := k_facts hK h16 ho
  rw [hK]
  have i1 : decide ((s.left : Int) < 5) = true := decide_eq_true (by omega)
  have i2 : (s.left : Int) < 5 := by omega
  replace hK := Lib.hid hK
  clear ho hg h h16
  generalize s.left = L at *
  go_enter Try.func20, Try.ntmps20
  go_upto_region 1 with (fail)
  generalize ((((w.alloc (.cells #[.slice a s.n c, .int .i64 (s.at_ : Nat), .slice ae K ce] 48)).alloc (.cells #[.int .i64 6, .int .i64 n, .slice pa len cap] 32)).alloc (.cells #[.slice none 0 0, .int .i64 0, .slice none 0 0] 48)).alloc (.cells #[.int .i64 0, .slice none 0 0, .int .i64 0] 50)) = W0 at *
  have x0 := hX.cell 0
  have x1 := hX.cell 1
  have x2 := hX.cell 2
  have y0 := hY.cell 0
  simp only [List.getElem?_toArray, List.getElem?_cons_zero, List.getElem?_cons_succ] at x0 x1 x2 y0
  go_wp2_with fail
  refine (HLf.out _ (hRD.out.below hB)).mono ?_
  rintro e W1 ⟨rfl, hB1⟩
  clear x0 x1 x2 y0
  replace hX := hX.below hB1 hX.lt
  replace hY := hY.below hB1 hY.lt
  replace hU := hU.below hB1 hU.lt
  replace hV := hV.below hB1 hV.lt
  have hB := hB.trans (hB1.mono hB.size)
  clear hB1
  have x0 := hX.cell 0
  have x1 := hX.cell 1
  have x2 := hX.cell 2
  simp only [List.getElem?_toArray, List.getElem?_cons_zero, List.getElem?_cons_succ] at x0 x1 x2
  have z0 := hU.cell 0
  have z1 := hU.cell 1
  have z2 := hU.cell 2
  have v0 := hV.cell 0
  have v1 := hV.cell 1
  have v2 := hV.cell 2
  simp only [List.getElem?_toArray, List.getElem?_cons_zero, List.getElem?_cons_succ] at z0 z1 z2 v0 v1 v2
  have g0 := hU.free 0
  have g1 := hU.free 1
  have g2 := hU.free 2
  have k0 := hV.free 0
  have k1 := hV.free 1
  have k2 := hV.free 2
  have fin := Lib.hid (rd_end hB hU hV (.slice a s.n c) (.int .i64 (s.at_ : Nat)) (.slice ae K ce) (.int .i64 0) (.slice none 0 0) (.int .i64 56))
  clear HLf hX hY hU hV hB
  go_wp2_with fail
  exact bodyPost_ret (results_cells2 (fn := Try.f20) (p1 := 4) (p2 := 5) (ty1 := 48) (ty2 := 50) rfl _ _ _ _ _ _ _ _ (0, 0) (0, 0) _ _ rfl fin.out.1 Try.underlying48 rfl (by kernel_rfl) rfl fin.out.2.1 Try.underlying50 rfl (by kernel_rfl)) rfl ⟨_, _, _, _, rfl, hRD.out.below fin.out.2.2, Row.nil _ _ _, fin.out.2.2, .inl rfl⟩
theorem rtk_6c {a ae : Option Addr} {c ce : Nat} {s : RS} (n : Int) (pa : Option Addr) (len cap : Nat) (w : World) (h : RDoc w a c ae ce s) (hg : s.Good) (ho : s.op ≠ 16) (hz : ¬ s.left < 5) (ht : s.f s.at_ ≠ (n % 256).toNat) :
    Calls Try.prog 20 #[rdV a c ae ce s, putV 6 n pa len cap] w fun e w' => ∃ ab cb ae' ce', e = .returned (.tuple #[rdV a c ae' ce' (s.step 6 n).s, tookV (s.step 6 n).N ab (s.step 6 n).len cb (s.step 6 n).E]) ∧ RDoc w' a c ae' ce' (s.step 6 n).s ∧ Row w' ab (s.step 6 n).len (s.step 6 n).g ∧ Below w.heap.size w w' ∧ NewRow w.heap.size w' ae ae' := by
  have hX := (((Whole.fresh w 48 #[.slice a s.n c, .int .i64 (s.at_ : Nat), .slice ae (s.op + 1) ce]).alloc (.cells #[.int .i64 6, .int .i64 n, .slice pa len cap] 32)).alloc (.cells #[.slice none 0 0, .int .i64 0, .slice none 0 0] 48)).alloc (.cells #[.int .i64 0, .slice none 0 0, .int .i64 0] 50)
  have hY := ((Whole.fresh (w.alloc (.cells #[.slice a s.n c, .int .i64 (s.at_ : Nat), .slice ae (s.op + 1) ce] 48)) 32 #[.int .i64 6, .int .i64 n, .slice pa len cap]).alloc (.cells #[.slice none 0 0, .int .i64 0, .slice none 0 0] 48)).alloc (.cells #[.int .i64 0, .slice none 0 0, .int .i64 0] 50)
  have hU := (Whole.fresh ((w.alloc (.cells #[.slice a s.n c, .int .i64 (s.at_ : Nat), .slice ae (s.op + 1) ce] 48)).alloc (.cells #[.int .i64 6, .int .i64 n, .slice pa len cap] 32)) 48 #[.slice none 0 0, .int .i64 0, .slice none 0 0]).alloc (.cells #[.int .i64 0, .slice none 0 0, .int .i64 0] 50)
  have hV := Whole.fresh (((w.alloc (.cells #[.slice a s.n c, .int .i64 (s.at_ : Nat), .slice ae (s.op + 1) ce] 48)).alloc (.cells #[.int .i64 6, .int .i64 n, .slice pa len cap] 32)).alloc (.cells #[.slice none 0 0, .int .i64 0, .slice none 0 0] 48)) 50 #[.int .i64 0, .slice none 0 0, .int .i64 0]
  have hB := ((((Below.refl w.heap.size w).alloc (Nat.le_refl _) (.cells #[.slice a s.n c, .int .i64 (s.at_ : Nat), .slice ae (s.op + 1) ce] 48)).alloc (by simp) (.cells #[.int .i64 6, .int .i64 n, .slice pa len cap] 32)).alloc (by simp; omega) (.cells #[.slice none 0 0, .int .i64 0, .slice none 0 0] 48)).alloc (by simp; omega) (.cells #[.int .i64 0, .slice none 0 0, .int .i64 0] 50)
  have hs1 : (w.alloc (.cells #[.slice a s.n c, .int .i64 (s.at_ : Nat), .slice ae (s.op + 1) ce] 48)).heap.size = w.heap.size + 1 := by simp
  have hs2 : ((w.alloc (.cells #[.slice a s.n c, .int .i64 (s.at_ : Nat), .slice ae (s.op + 1) ce] 48)).alloc (.cells #[.int .i64 6, .int .i64 n, .slice pa len cap] 32)).heap.size = w.heap.size + 1 + 1 := by simp
  have hs3 : (((w.alloc (.cells #[.slice a s.n c, .int .i64 (s.at_ : Nat), .slice ae (s.op + 1) ce] 48)).alloc (.cells #[.int .i64 6, .int .i64 n, .slice pa len cap] 32)).alloc (.cells #[.slice none 0 0, .int .i64 0, .slice none 0 0] 48)).heap.size = w.heap.size + 1 + 1 + 1 := by simp
  rw [hs1] at hY
  rw [hs2] at hU
  rw [hs3] at hV
  clear hs1 hs2 hs3
  have hE : s.openE (n % 256).toNat = 58 := by unfold RS.openE; rw [if_neg ho, if_neg hz, if_pos ht]
  rw [step_open s n hE]
  clear hE
  have HLf := Lib.hid (fun (W : World) (hW : RDoc W a c ae ce s) => rleftd_any W hW hg)
  have hRD := Lib.hid h
  have h16 := hg.op
  show Calls _ _ _ _ fun e w' => ∃ ab cb ae' ce', e = .returned (.tuple #[.agg #[.slice a s.n c, .int .i64 (s.at_ : Nat), .slice ae' (s.op + 1) ce'], tookV 0 ab 0 cb 58]) ∧ RDoc w' a c ae' ce' s ∧ Row w' ab 0 (fun _ => 0) ∧ Below w.heap.size w w' ∧ NewRow w.heap.size w' ae ae'
  have hfit := fit5 hg hz
  obtain ⟨P, Z, hP', hZ, w1, w2, w3, w4, w5, w6, w7, w8, w9, w10, w11, w12, w13⟩ := five_facts hfit hg.n h.le
  have i1 : decide ((s.left : Int) < 5) = false := decide_eq_false (ltI hz)
  have i2 : ¬ (s.left : Int) < 5 := ltI hz
  have i3 : ¬ s.left < 5 := hz
  have ⟨tg, tgl, tge⟩ := tag_facts n
  obtain ⟨bb, bo, rfl, hbb, hbc⟩ : ∃ bb bo, a = some ⟨bb, bo, none⟩ ∧ bb < w.heap.size ∧ w.cell? ⟨bb, bo + s.at_, none⟩ = some (.int .u8 (s.f s.at_ : Nat)) := byte_form h.body hfit
  generalize (n % 256).toNat = x at *
  generalize s.f s.at_ = y at *
  have t1 : ((y : Int) != (x : Int)) = true := by rw [bne_iff_ne]; omega
  unfold rdV putV at *
  obtain ⟨K, hK⟩ : ∃ K, s.op + 1 = K := ⟨_, rfl⟩
  rw [hK] at hX hB HLf
  rw [hK] at hY hU hV
  have ⟨q1, q2, q3⟩ := k_facts hK h16 ho
  rw [hK]
  replace hK := Lib.hid hK
  clear ho hg h h16 hfit
  generalize s.left = L at *
  go_enter Try.func20, Try.ntmps20
  go_upto_region 1 with (fail)
  generalize ((((w.alloc (.cells #[.slice (some ⟨bb, bo, none⟩) s.n c, .int .i64 (s.at_ : Nat), .slice ae K ce] 48)).alloc (.cells #[.int .i64 6, .int .i64 n, .slice pa len cap] 32)).alloc (.cells #[.slice none 0 0, .int .i64 0, .slice none 0 0] 48)).alloc (.cells #[.int .i64 0, .slice none 0 0, .int .i64 0] 50)) = W0 at *
  have x0 := hX.cell 0
  have x1 := hX.cell 1
  have x2 := hX.cell 2
  have y0 := hY.cell 0
  simp only [List.getElem?_toArray, List.getElem?_cons_zero, List.getElem?_cons_succ] at x0 x1 x2 y0
  go_wp2_with fail
  refine (HLf.out _ (hRD.out.below hB)).mono ?_
  rintro e W1 ⟨rfl, hB1⟩
  clear x0 x1 x2 y0
  replace hX := hX.below hB1 hX.lt
  replace hY := hY.below hB1 hY.lt
  replace hU := hU.below hB1 hU.lt
  replace hV := hV.below hB1 hV.lt
  have hB := hB.trans (hB1.mono hB.size)
  clear hB1
  have x0 := hX.cell 0
  have x1 := hX.cell 1
  have x2 := hX.cell 2
  simp only [List.getElem?_toArray, List.getElem?_cons_zero, List.getElem?_cons_succ] at x0 x1 x2
  have y0 := hY.cell 0
  have y1 := hY.cell 1
  simp only [List.getElem?_toArray, List.getElem?_cons_zero, List.getElem?_cons_succ] at y0 y1
  have bc := (hB.cell (p := ⟨bb, bo + s.at_, none⟩) hbb).trans hbc
  go_upto_region 28 with (fail)
  go_quiet (fail)
  replace hB := below_drewN hB nq
  replace hX := hX.drewN nq
  replace hU := hU.drewN nq
  replace hV := hV.drewN nq
  clear hY x0 x1 x2 y0 y1 bc HLf
  generalize W1.drewN nq = W2 at *
  have x0 := hX.cell 0
  have x1 := hX.cell 1
  have x2 := hX.cell 2
  simp only [List.getElem?_toArray, List.getElem?_cons_zero, List.getElem?_cons_succ] at x0 x1 x2
  have z0 := hU.cell 0
  have z1 := hU.cell 1
  have z2 := hU.cell 2
  have v0 := hV.cell 0
  have v1 := hV.cell 1
  have v2 := hV.cell 2
  simp only [List.getElem?_toArray, List.getElem?_cons_zero, List.getElem?_cons_succ] at z0 z1 z2 v0 v1 v2
  have g0 := hU.free 0
  have g1 := hU.free 1
  have g2 := hU.free 2
  have k0 := hV.free 0
  have k1 := hV.free 1
  have k2 := hV.free 2
  have fin := Lib.hid (rd_end hB hU hV (.slice (some ⟨bb, bo, none⟩) s.n c) (.int .i64 (s.at_ : Nat)) (.slice ae K ce) (.int .i64 0) (.slice none 0 0) (.int .i64 58))
  clear hX hU hV hB
  go_wp2_with fail
  exact bodyPost_ret (results_cells2 (fn := Try.f20) (p1 := 4) (p2 := 5) (ty1 := 48) (ty2 := 50) rfl _ _ _ _ _ _ _ _ (0, 0) (0, 0) _ _ rfl fin.out.1 Try.underlying48 rfl (by kernel_rfl) rfl fin.out.2.1 Try.underlying50 rfl (by kernel_rfl)) rfl ⟨_, _, _, _, rfl, hRD.out.below fin.out.2.2, Row.nil _ _ _, fin.out.2.2, .inl rfl⟩
theorem rtk_6d {a ae : Option Addr} {c ce : Nat} {s : RS} (n : Int) (pa : Option Addr) (len cap : Nat) (w : World) (h : RDoc w a c ae ce s) (hg : s.Good) (ho : s.op ≠ 16) (hz : ¬ s.left < 5) (ht : s.f s.at_ = (n % 256).toNat) (hm : s.left - 5 < (s.adv 1).num 4) :
    Calls Try.prog 20 #[rdV a c ae ce s, putV 6 n pa len cap] w fun e w' => ∃ ab cb ae' ce', e = .returned (.tuple #[rdV a c ae' ce' (s.step 6 n).s, tookV (s.step 6 n).N ab (s.step 6 n).len cb (s.step 6 n).E]) ∧ RDoc w' a c ae' ce' (s.step 6 n).s ∧ Row w' ab (s.step 6 n).len (s.step 6 n).g ∧ Below w.heap.size w w' ∧ NewRow w.heap.size w' ae ae' := by
  have hX := (((Whole.fresh w 48 #[.slice a s.n c, .int .i64 (s.at_ : Nat), .slice ae (s.op + 1) ce]).alloc (.cells #[.int .i64 6, .int .i64 n, .slice pa len cap] 32)).alloc (.cells #[.slice none 0 0, .int .i64 0, .slice none 0 0] 48)).alloc (.cells #[.int .i64 0, .slice none 0 0, .int .i64 0] 50)
  have hY := ((Whole.fresh (w.alloc (.cells #[.slice a s.n c, .int .i64 (s.at_ : Nat), .slice ae (s.op + 1) ce] 48)) 32 #[.int .i64 6, .int .i64 n, .slice pa len cap]).alloc (.cells #[.slice none 0 0, .int .i64 0, .slice none 0 0] 48)).alloc (.cells #[.int .i64 0, .slice none 0 0, .int .i64 0] 50)
  have hU := (Whole.fresh ((w.alloc (.cells #[.slice a s.n c, .int .i64 (s.at_ : Nat), .slice ae (s.op + 1) ce] 48)).alloc (.cells #[.int .i64 6, .int .i64 n, .slice pa len cap] 32)) 48 #[.slice none 0 0, .int .i64 0, .slice none 0 0]).alloc (.cells #[.int .i64 0, .slice none 0 0, .int .i64 0] 50)
  have hV := Whole.fresh (((w.alloc (.cells #[.slice a s.n c, .int .i64 (s.at_ : Nat), .slice ae (s.op + 1) ce] 48)).alloc (.cells #[.int .i64 6, .int .i64 n, .slice pa len cap] 32)).alloc (.cells #[.slice none 0 0, .int .i64 0, .slice none 0 0] 48)) 50 #[.int .i64 0, .slice none 0 0, .int .i64 0]
  have hB := ((((Below.refl w.heap.size w).alloc (Nat.le_refl _) (.cells #[.slice a s.n c, .int .i64 (s.at_ : Nat), .slice ae (s.op + 1) ce] 48)).alloc (by simp) (.cells #[.int .i64 6, .int .i64 n, .slice pa len cap] 32)).alloc (by simp; omega) (.cells #[.slice none 0 0, .int .i64 0, .slice none 0 0] 48)).alloc (by simp; omega) (.cells #[.int .i64 0, .slice none 0 0, .int .i64 0] 50)
  have hs1 : (w.alloc (.cells #[.slice a s.n c, .int .i64 (s.at_ : Nat), .slice ae (s.op + 1) ce] 48)).heap.size = w.heap.size + 1 := by simp
  have hs2 : ((w.alloc (.cells #[.slice a s.n c, .int .i64 (s.at_ : Nat), .slice ae (s.op + 1) ce] 48)).alloc (.cells #[.int .i64 6, .int .i64 n, .slice pa len cap] 32)).heap.size = w.heap.size + 1 + 1 := by simp
  have hs3 : (((w.alloc (.cells #[.slice a s.n c, .int .i64 (s.at_ : Nat), .slice ae (s.op + 1) ce] 48)).alloc (.cells #[.int .i64 6, .int .i64 n, .slice pa len cap] 32)).alloc (.cells #[.slice none 0 0, .int .i64 0, .slice none 0 0] 48)).heap.size = w.heap.size + 1 + 1 + 1 := by simp
  rw [hs1] at hY
  rw [hs2] at hU
  rw [hs3] at hV
  clear hs1 hs2 hs3
  have hE : s.openE (n % 256).toNat = 54 := by unfold RS.openE; rw [if_neg ho, if_neg hz, if_neg (fun h => h ht), if_pos hm]
  rw [step_open s n hE]
  clear hE
  have HLf := Lib.hid (fun (W : World) (hW : RDoc W a c ae ce s) => rleftd_any W hW hg)
  have hRD := Lib.hid h
  have h16 := hg.op
  show Calls _ _ _ _ fun e w' => ∃ ab cb ae' ce', e = .returned (.tuple #[.agg #[.slice a s.n c, .int .i64 (s.at_ : Nat), .slice ae' (s.op + 1) ce'], tookV 0 ab 0 cb 54]) ∧ RDoc w' a c ae' ce' s ∧ Row w' ab 0 (fun _ => 0) ∧ Below w.heap.size w w' ∧ NewRow w.heap.size w' ae ae'
  obtain ⟨X, hXX⟩ : ∃ X, (s.adv 1).num 4 = X := ⟨_, rfl⟩
  rw [hXX] at hm
  replace hm := Lib.hid hm
  replace hXX := Lib.hid hXX
  have hfit := fit5 hg hz
  obtain ⟨P, Z, hP', hZ, w1, w2, w3, w4, w5, w6, w7, w8, w9, w10, w11, w12, w13⟩ := five_facts hfit hg.n h.le
  have i1 : decide ((s.left : Int) < 5) = false := decide_eq_false (ltI hz)
  have i2 : ¬ (s.left : Int) < 5 := ltI hz
  have i3 : ¬ s.left < 5 := hz
  have ⟨tg, tgl, tge⟩ := tag_facts n
  obtain ⟨bb, bo, rfl, hbb, hbc⟩ : ∃ bb bo, a = some ⟨bb, bo, none⟩ ∧ bb < w.heap.size ∧ w.cell? ⟨bb, bo + s.at_, none⟩ = some (.int .u8 (s.f s.at_ : Nat)) := byte_form h.body hfit
  have hX0 : numN (shiftF P s.f) 4 = X := num_adv1 hP' hXX.out
  have hXlt : X < 4294967296 := num4_lt hX0 (h.body.1) w13
  have ⟨x1w, x2w⟩ := w64_small hXlt
  clear hXlt
  replace hX0 := Lib.hid hX0
  have ⟨l1, l2⟩ := sub_five hz (left_le hg)
  have hRw := Lib.hid (Row.shift h.body P 4 w13)
  have HNu := (fun W (hW : Row W (some ⟨bb, bo + P, none⟩) 4 (shiftF P s.f)) => rnumber_any (some ⟨bb, bo + P, none⟩) 4 (c - P) (shiftF P s.f) W hW (by decide))
  rw [hX0.out] at HNu
  replace HNu := Lib.hid HNu
  clear hX0
  rw [ht] at hbc
  clear ht
  generalize (n % 256).toNat = x at *
  have t1 : ((x : Int) != (x : Int)) = false := by simp
  have j1 := gt_yes hm.out
  have j2 : s.left - 5 < X := hm.out
  unfold rdV putV at *
  obtain ⟨K, hK⟩ : ∃ K, s.op + 1 = K := ⟨_, rfl⟩
  rw [hK] at hX hB HLf
  rw [hK] at hY hU hV
  have ⟨q1, q2, q3⟩ := k_facts hK h16 ho
  rw [hK]
  replace hK := Lib.hid hK
  clear ho hg h h16 hfit
  generalize s.left = L at *
  replace hP' := Lib.hid hP'
  replace hZ := Lib.hid hZ
  go_enter Try.func20, Try.ntmps20
  go_upto_region 1 with (fail)
  generalize ((((w.alloc (.cells #[.slice (some ⟨bb, bo, none⟩) s.n c, .int .i64 (s.at_ : Nat), .slice ae K ce] 48)).alloc (.cells #[.int .i64 6, .int .i64 n, .slice pa len cap] 32)).alloc (.cells #[.slice none 0 0, .int .i64 0, .slice none 0 0] 48)).alloc (.cells #[.int .i64 0, .slice none 0 0, .int .i64 0] 50)) = W0 at *
  have x0 := hX.cell 0
  have x1 := hX.cell 1
  have x2 := hX.cell 2
  have y0 := hY.cell 0
  simp only [List.getElem?_toArray, List.getElem?_cons_zero, List.getElem?_cons_succ] at x0 x1 x2 y0
  go_wp2_with fail
  refine (HLf.out _ (hRD.out.below hB)).mono ?_
  rintro e W1 ⟨rfl, hB1⟩
  clear x0 x1 x2 y0
  replace hX := hX.below hB1 hX.lt
  replace hY := hY.below hB1 hY.lt
  replace hU := hU.below hB1 hU.lt
  replace hV := hV.below hB1 hV.lt
  replace hB := hB.trans (hB1.mono hB.size)
  clear hB1
  have x0 := hX.cell 0
  have x1 := hX.cell 1
  have x2 := hX.cell 2
  simp only [List.getElem?_toArray, List.getElem?_cons_zero, List.getElem?_cons_succ] at x0 x1 x2
  have y0 := hY.cell 0
  have y1 := hY.cell 1
  simp only [List.getElem?_toArray, List.getElem?_cons_zero, List.getElem?_cons_succ] at y0 y1
  have bc := (hB.cell (p := ⟨bb, bo + s.at_, none⟩) hbb).trans hbc
  go_upto_region 28 with (fail)
  go_quiet (fail)
  replace hB := below_drewN hB nq
  replace hX := hX.drewN nq
  replace hU := hU.drewN nq
  replace hV := hV.drewN nq
  clear hY x0 x1 x2 y0 y1 bc
  generalize W1.drewN nq = W2 at *
  have x0 := hX.cell 0
  have x1 := hX.cell 1
  have x2 := hX.cell 2
  simp only [List.getElem?_toArray, List.getElem?_cons_zero, List.getElem?_cons_succ] at x0 x1 x2
  go_wp2_with fail
  refine (HNu.out _ (hRw.out.below hB)).mono ?_
  rintro e W3 ⟨rfl, rfl⟩
  clear HNu hRw
  go_wp2_with fail
  refine (HLf.out _ (hRD.out.below hB)).mono ?_
  rintro e W4 ⟨rfl, hB1⟩
  clear x0 x1 x2
  replace hX := hX.below hB1 hX.lt
  replace hU := hU.below hB1 hU.lt
  replace hV := hV.below hB1 hV.lt
  replace hB := hB.trans (hB1.mono hB.size)
  clear hB1 HLf
  have x0 := hX.cell 0
  have x1 := hX.cell 1
  have x2 := hX.cell 2
  simp only [List.getElem?_toArray, List.getElem?_cons_zero, List.getElem?_cons_succ] at x0 x1 x2
  have z0 := hU.cell 0
  have z1 := hU.cell 1
  have z2 := hU.cell 2
  have v0 := hV.cell 0
  have v1 := hV.cell 1
  have v2 := hV.cell 2
  simp only [List.getElem?_toArray, List.getElem?_cons_zero, List.getElem?_cons_succ] at z0 z1 z2 v0 v1 v2
  have g0 := hU.free 0
  have g1 := hU.free 1
  have g2 := hU.free 2
  have k0 := hV.free 0
  have k1 := hV.free 1
  have k2 := hV.free 2
  have fin := Lib.hid (rd_end hB hU hV (.slice (some ⟨bb, bo, none⟩) s.n c) (.int .i64 (s.at_ : Nat)) (.slice ae K ce) (.int .i64 0) (.slice none 0 0) (.int .i64 54))
  clear hX hU hV hB
  go_wp2_with fail
  exact bodyPost_ret (results_cells2 (fn := Try.f20) (p1 := 4) (p2 := 5) (ty1 := 48) (ty2 := 50) rfl _ _ _ _ _ _ _ _ (0, 0) (0, 0) _ _ rfl fin.out.1 Try.underlying48 rfl (by kernel_rfl) rfl fin.out.2.1 Try.underlying50 rfl (by kernel_rfl)) rfl ⟨_, _, _, _, rfl, hRD.out.below fin.out.2.2, Row.nil _ _ _, fin.out.2.2, .inl rfl⟩
end Go.Proofs.Ytacnmnodbmbplaa
namespace Go.Proofs.Ytacnmnodbmbplaa
open Go.RowKit Go.Shelf
set_option maxRecDepth 100000
set_option maxHeartbeats 1000000
set_option linter.unusedVariables false

theorem v_facts {A Z X : Nat} (hZ : Z = A + 5) (h : A + 5 + X ≤ 16777216) : ∃ V, V = A + 5 + X ∧ wrap64 ((Z : Int) + (X : Int)) = (V : Int) ∧ IntKind.i64.wrap ((Z : Int) + (X : Int)) = (V : Int) := ⟨_, rfl, by unfold wrap64; omega, by simp only [IntKind.wrap_i64]; omega⟩
theorem endF_opened (s : RS) (V : Nat) (X : Nat) (hX : (s.adv 1).num 4 = X) (hV : V = s.at_ + 5 + X) (i : Nat) (hi : i < s.op + 1 + 1) : both (both (fun _ => 0) 0 s.endF) (s.op + 1) (fun _ => V) i = s.opened.endF i := by
  subst hX
  subst hV
  unfold both RS.endF RS.opened upd
  simp only [Nat.not_lt_zero, if_false, Nat.sub_zero]
  by_cases h0 : i = 0
  · subst h0
    simp
  · rw [if_neg h0, if_neg h0]
    by_cases h1 : i < s.op + 1
    · rw [if_pos h1, if_neg (by omega)]
    · rw [if_neg h1, if_pos (by omega)]
theorem open_rd {w w' : World} {a ae a11 : Option Addr} {c ce c11 K V X : Nat} {s : RS} (h : RDoc w a c ae ce s) (hB : Below w.heap.size w w') (hO : IOwns w' (.slice a11 (K + 1) c11) (K + 1) (both (both (fun _ => 0) 0 s.endF) K (fun _ => V))) (hK : s.op + 1 = K) (hV : V = s.at_ + 5 + X) (hX : (s.adv 1).num 4 = X) : RDoc w' a c a11 c11 s.opened := by
  subst hK
  obtain ⟨a2, c2, e, hr, hle⟩ := hO.row
  injection e with e1 e2 e3
  subst e1 e3
  refine ⟨(h.below hB).body, ?_, h.le, hle⟩
  exact hr.imp id (fun ⟨b, o, k1, k2, k3⟩ => ⟨b, o, k1, k2, fun i hi => by rw [k3 i hi, endF_opened s V X hX hV i hi]⟩)
theorem rtk_6e {a ae : Option Addr} {c ce : Nat} {s : RS} (n : Int) (pa : Option Addr) (len cap : Nat) (w : World) (h : RDoc w a c ae ce s) (hg : s.Good) (ho : s.op ≠ 16) (hz : ¬ s.left < 5) (ht : s.f s.at_ = (n % 256).toNat) (hm : ¬ s.left - 5 < (s.adv 1).num 4) :
    Calls Try.prog 20 #[rdV a c ae ce s, putV 6 n pa len cap] w fun e w' => ∃ ab cb ae' ce', e = .returned (.tuple #[rdV a c ae' ce' (s.step 6 n).s, tookV (s.step 6 n).N ab (s.step 6 n).len cb (s.step 6 n).E]) ∧ RDoc w' a c ae' ce' (s.step 6 n).s ∧ Row w' ab (s.step 6 n).len (s.step 6 n).g ∧ Below w.heap.size w w' ∧ NewRow w.heap.size w' ae ae' := by
  have hX := (((Whole.fresh w 48 #[.slice a s.n c, .int .i64 (s.at_ : Nat), .slice ae (s.op + 1) ce]).alloc (.cells #[.int .i64 6, .int .i64 n, .slice pa len cap] 32)).alloc (.cells #[.slice none 0 0, .int .i64 0, .slice none 0 0] 48)).alloc (.cells #[.int .i64 0, .slice none 0 0, .int .i64 0] 50)
  have hY := ((Whole.fresh (w.alloc (.cells #[.slice a s.n c, .int .i64 (s.at_ : Nat), .slice ae (s.op + 1) ce] 48)) 32 #[.int .i64 6, .int .i64 n, .slice pa len cap]).alloc (.cells #[.slice none 0 0, .int .i64 0, .slice none 0 0] 48)).alloc (.cells #[.int .i64 0, .slice none 0 0, .int .i64 0] 50)
  have hU := (Whole.fresh ((w.alloc (.cells #[.slice a s.n c, .int .i64 (s.at_ : Nat), .slice ae (s.op + 1) ce] 48)).alloc (.cells #[.int .i64 6, .int .i64 n, .slice pa len cap] 32)) 48 #[.slice none 0 0, .int .i64 0, .slice none 0 0]).alloc (.cells #[.int .i64 0, .slice none 0 0, .int .i64 0] 50)
  have hV := Whole.fresh (((w.alloc (.cells #[.slice a s.n c, .int .i64 (s.at_ : Nat), .slice ae (s.op + 1) ce] 48)).alloc (.cells #[.int .i64 6, .int .i64 n, .slice pa len cap] 32)).alloc (.cells #[.slice none 0 0, .int .i64 0, .slice none 0 0] 48)) 50 #[.int .i64 0, .slice none 0 0, .int .i64 0]
  have hB := ((((Below.refl w.heap.size w).alloc (Nat.le_refl _) (.cells #[.slice a s.n c, .int .i64 (s.at_ : Nat), .slice ae (s.op + 1) ce] 48)).alloc (by simp) (.cells #[.int .i64 6, .int .i64 n, .slice pa len cap] 32)).alloc (by simp; omega) (.cells #[.slice none 0 0, .int .i64 0, .slice none 0 0] 48)).alloc (by simp; omega) (.cells #[.int .i64 0, .slice none 0 0, .int .i64 0] 50)
  have hs1 : (w.alloc (.cells #[.slice a s.n c, .int .i64 (s.at_ : Nat), .slice ae (s.op + 1) ce] 48)).heap.size = w.heap.size + 1 := by simp
  have hs2 : ((w.alloc (.cells #[.slice a s.n c, .int .i64 (s.at_ : Nat), .slice ae (s.op + 1) ce] 48)).alloc (.cells #[.int .i64 6, .int .i64 n, .slice pa len cap] 32)).heap.size = w.heap.size + 1 + 1 := by simp
  have hs3 : (((w.alloc (.cells #[.slice a s.n c, .int .i64 (s.at_ : Nat), .slice ae (s.op + 1) ce] 48)).alloc (.cells #[.int .i64 6, .int .i64 n, .slice pa len cap] 32)).alloc (.cells #[.slice none 0 0, .int .i64 0, .slice none 0 0] 48)).heap.size = w.heap.size + 1 + 1 + 1 := by simp
  rw [hs1] at hY
  rw [hs2] at hU
  rw [hs3] at hV
  clear hs1 hs2 hs3
  have hE : s.openE (n % 256).toNat = 0 := by unfold RS.openE; rw [if_neg ho, if_neg hz, if_neg (fun h => h ht), if_neg hm]
  rw [step_open s n hE]
  clear hE
  have HLf := Lib.hid (fun (W : World) (hW : RDoc W a c ae ce s) => rleftd_any W hW hg)
  have hRD := Lib.hid h
  have h16 := hg.op
  show Calls _ _ _ _ fun e w' => ∃ ab cb ae' ce', e = .returned (.tuple #[.agg #[.slice a s.n c, .int .i64 ((s.at_ + 5 : Nat) : Int), .slice ae' (s.op + 1 + 1) ce'], tookV 0 ab 0 cb 0]) ∧ RDoc w' a c ae' ce' s.opened ∧ Row w' ab 0 (fun _ => 0) ∧ Below w.heap.size w w' ∧ NewRow w.heap.size w' ae ae'
  obtain ⟨X, hXX⟩ : ∃ X, (s.adv 1).num 4 = X := ⟨_, rfl⟩
  rw [hXX] at hm
  replace hm := Lib.hid hm
  replace hXX := Lib.hid hXX
  have hfit := fit5 hg hz
  obtain ⟨P, Z, hP', hZ, w1, w2, w3, w4, w5, w6, w7, w8, w9, w10, w11, w12, w13⟩ := five_facts hfit hg.n h.le
  have i1 : decide ((s.left : Int) < 5) = false := decide_eq_false (ltI hz)
  have i2 : ¬ (s.left : Int) < 5 := ltI hz
  have i3 : ¬ s.left < 5 := hz
  have ⟨tg, tgl, tge⟩ := tag_facts n
  obtain ⟨bb, bo, rfl, hbb, hbc⟩ : ∃ bb bo, a = some ⟨bb, bo, none⟩ ∧ bb < w.heap.size ∧ w.cell? ⟨bb, bo + s.at_, none⟩ = some (.int .u8 (s.f s.at_ : Nat)) := byte_form h.body hfit
  have hX0 : numN (shiftF P s.f) 4 = X := num_adv1 hP' hXX.out
  have hXlt : X < 4294967296 := num4_lt hX0 (h.body.1) w13
  have ⟨x1w, x2w⟩ := w64_small hXlt
  clear hXlt
  replace hX0 := Lib.hid hX0
  have ⟨l1, l2⟩ := sub_five hz (left_le hg)
  have hRw := Lib.hid (Row.shift h.body P 4 w13)
  have HNu := (fun W (hW : Row W (some ⟨bb, bo + P, none⟩) 4 (shiftF P s.f)) => rnumber_any (some ⟨bb, bo + P, none⟩) 4 (c - P) (shiftF P s.f) W hW (by decide))
  rw [hX0.out] at HNu
  replace HNu := Lib.hid HNu
  clear hX0
  rw [ht] at hbc
  clear ht
  generalize (n % 256).toNat = x at *
  have t1 : ((x : Int) != (x : Int)) = false := by simp
  have j1 := gt_no hm.out
  have j2 : ¬ s.left - 5 < X := hm.out
  have hV16 : s.at_ + 5 + X ≤ 16777216 := opened_fits hg.end_le hg.n rfl hz hm.out
  obtain ⟨V, hVV, v1w, v2w⟩ := v_facts hZ hV16
  have hcn := h.le
  rw [← hZ]
  unfold rdV putV at *
  obtain ⟨K, hK⟩ : ∃ K, s.op + 1 = K := ⟨_, rfl⟩
  rw [hK] at hX hB HLf
  rw [hK] at hY hU hV
  have ⟨q1, q2, q3⟩ := k_facts hK h16 ho
  rw [hK]
  have hK17 : K ≤ 17 := by omega
  replace hK := Lib.hid hK
  clear ho hg h h16 hfit
  generalize s.left = L at *
  replace hP' := Lib.hid hP'
  replace hZ := Lib.hid hZ
  replace hVV := Lib.hid hVV
  replace hK17 := Lib.hid hK17
  replace hcn := Lib.hid hcn
  clear hV16
  go_enter Try.func20, Try.ntmps20
  go_upto_region 1 with (fail)
  generalize ((((w.alloc (.cells #[.slice (some ⟨bb, bo, none⟩) s.n c, .int .i64 (s.at_ : Nat), .slice ae K ce] 48)).alloc (.cells #[.int .i64 6, .int .i64 n, .slice pa len cap] 32)).alloc (.cells #[.slice none 0 0, .int .i64 0, .slice none 0 0] 48)).alloc (.cells #[.int .i64 0, .slice none 0 0, .int .i64 0] 50)) = W0 at *
  have x0 := hX.cell 0
  have x1 := hX.cell 1
  have x2 := hX.cell 2
  have y0 := hY.cell 0
  simp only [List.getElem?_toArray, List.getElem?_cons_zero, List.getElem?_cons_succ] at x0 x1 x2 y0
  go_wp2_with fail
  refine (HLf.out _ (hRD.out.below hB)).mono ?_
  rintro e W1 ⟨rfl, hB1⟩
  clear x0 x1 x2 y0
  replace hX := hX.below hB1 hX.lt
  replace hY := hY.below hB1 hY.lt
  replace hU := hU.below hB1 hU.lt
  replace hV := hV.below hB1 hV.lt
  replace hB := hB.trans (hB1.mono hB.size)
  clear hB1
  have x0 := hX.cell 0
  have x1 := hX.cell 1
  have x2 := hX.cell 2
  simp only [List.getElem?_toArray, List.getElem?_cons_zero, List.getElem?_cons_succ] at x0 x1 x2
  have y0 := hY.cell 0
  have y1 := hY.cell 1
  simp only [List.getElem?_toArray, List.getElem?_cons_zero, List.getElem?_cons_succ] at y0 y1
  have bc := (hB.cell (p := ⟨bb, bo + s.at_, none⟩) hbb).trans hbc
  go_upto_region 28 with (fail)
  go_quiet (fail)
  replace hB := below_drewN hB nq
  replace hX := hX.drewN nq
  replace hU := hU.drewN nq
  replace hV := hV.drewN nq
  clear hY x0 x1 x2 y0 y1 bc
  generalize W1.drewN nq = W2 at *
  have x0 := hX.cell 0
  have x1 := hX.cell 1
  have x2 := hX.cell 2
  simp only [List.getElem?_toArray, List.getElem?_cons_zero, List.getElem?_cons_succ] at x0 x1 x2
  go_wp2_with fail
  refine (HNu.out _ (hRw.out.below hB)).mono ?_
  rintro e W3 ⟨rfl, rfl⟩
  clear HNu hRw
  go_wp2_with fail
  refine (HLf.out _ (hRD.out.below hB)).mono ?_
  rintro e W4 ⟨rfl, hB1⟩
  clear x0 x1 x2
  replace hX := hX.below hB1 hX.lt
  replace hU := hU.below hB1 hU.lt
  replace hV := hV.below hB1 hV.lt
  replace hB := hB.trans (hB1.mono hB.size)
  clear hB1 HLf
  have x0 := hX.cell 0
  have x1 := hX.cell 1
  have x2 := hX.cell 2
  simp only [List.getElem?_toArray, List.getElem?_cons_zero, List.getElem?_cons_succ] at x0 x1 x2
  have hfx := hX.free 1
  have hX5 := hX.put 1 (.int .i64 (Z : Nat))
  have hU5 := hU.away (p := ⟨w.heap.size, 1, none⟩) (by show w.heap.size + 1 + 1 ≠ w.heap.size; omega) (.int .i64 (Z : Nat))
  have hV5 := hV.away (p := ⟨w.heap.size, 1, none⟩) (by show w.heap.size + 1 + 1 + 1 ≠ w.heap.size; omega) (.int .i64 (Z : Nat))
  have hB5 := hB.setCell (p := ⟨w.heap.size, 1, none⟩) (Nat.le_refl _) (.int .i64 (Z : Nat))
  replace hX5 := Lib.hid hX5
  replace hU5 := Lib.hid hU5
  replace hV5 := Lib.hid hV5
  replace hB5 := Lib.hid hB5
  clear hX hU hV hB
  go_upto_region 35 with (fail)
  clear x0 x1 x2 hfx
  generalize W4.setCell ⟨w.heap.size, 1, none⟩ (.int .i64 (Z : Nat)) = W5 at *
  replace hX5 := hX5.out
  replace hU5 := hU5.out
  replace hV5 := hV5.out
  replace hB5 := hB5.out
  simp only [List.setIfInBounds_toArray, List.set_cons_zero, List.set_cons_succ] at hX5
  have hio := (hRD.out.below hB5).ends
  rw [hK.out] at hio
  obtain ⟨v10, W10, hr10, hO10, hF10, hg10⟩ := run_iappend_more W5 26 W5.heap.size (.slice none 0 0) 0 K ce ae (fun _ => 0) s.endF (.inl ⟨rfl, rfl⟩) (fun y hy => by cases hy) hio (by have := hK17.out; omega) (Nat.le_refl _)
  rw [Nat.zero_add] at hO10
  have hB10 : Below W5.heap.size W5 W10 := From.below (fun y hy => by cases hy) hg10 (Nat.le_refl _)
  have hX10 := hX5.below hB10 hX5.lt
  have b0 := hX5.cell 2
  have b1 := hX10.cell 1
  simp only [List.getElem?_toArray, List.getElem?_cons_zero, List.getElem?_cons_succ] at b0 b1
  have hA := Whole.fresh W10 3 #[.int .i64 (V : Nat)]
  have hBA : Below W10.heap.size W10 (W10.alloc (.cells #[.int .i64 (V : Nat)] 3)) := (Below.refl _ W10).alloc (Nat.le_refl _) _
  have hIA : IRow (W10.alloc (.cells #[.int .i64 (V : Nat)] 3)) (some ⟨W10.heap.size, 0, none⟩) 1 (fun _ => V) := .inr ⟨_, 0, rfl, hA.lt, fun i hi => by
    obtain rfl : i = 0 := by omega
    exact hA.cell 0⟩
  obtain ⟨v11, W11, hr11, hO11, hF11, hg11⟩ := run_iappend_more (W10.alloc (.cells #[.int .i64 (V : Nat)] 3)) 26 W5.heap.size v10 K 1 1 _ _ _ (hO10.below hBA) hF10 hIA (by have := hK17.out; omega) (Nat.le_trans hB10.size hBA.size)
  have hB11 : Below W5.heap.size W5 W11 := (hB10.trans (hBA.mono hB10.size)).trans (hF10.below hg11 (Nat.le_trans hB10.size hBA.size))
  obtain ⟨a11, c11, rfl, hI11, hle11⟩ := hO11.row
  have hXf := hX5.below hB11 hX5.lt
  have hUf := hU5.below hB11 hU5.lt
  have hVf := hV5.below hB11 hV5.lt
  have hBf := hB5.trans (hB11.mono hB5.size)
  have hl5 := hV5.lt
  have hF11l : ∀ y, (Value.slice a11 (K + 1) c11).ownBlock = some y → w.heap.size + 1 + 1 + 1 < y := fun y hy => by have := hF11 y hy; omega
  have fx2 := hXf.free 2
  have q2 := hXf.cell 2
  simp only [List.getElem?_toArray, List.getElem?_cons_zero, List.getElem?_cons_succ] at q2
  have hX2 := Lib.hid (hXf.put 2 (.slice a11 (K + 1) c11))
  have hU2 := Lib.hid (hUf.away (p := ⟨w.heap.size, 2, none⟩) (by show w.heap.size + 1 + 1 ≠ w.heap.size; omega) (.slice a11 (K + 1) c11))
  have hV2 := Lib.hid (hVf.away (p := ⟨w.heap.size, 2, none⟩) (by show w.heap.size + 1 + 1 + 1 ≠ w.heap.size; omega) (.slice a11 (K + 1) c11))
  have hB2 := Lib.hid (hBf.setCell (p := ⟨w.heap.size, 2, none⟩) (Nat.le_refl _) (.slice a11 (K + 1) c11))
  have hI2 := Lib.hid (hO11.away (x := w.heap.size) (fun e => by have := hF11l _ e; omega) 2 (.slice a11 (K + 1) c11))
  have hFl := Lib.hid hF11l
  clear hX5 hU5 hV5 hB5 hio hO10 hF10 hg10 hB10 hX10 hA hBA hIA hO11 hF11 hg11 hB11 hI11 hXf hUf hVf hBf hl5 hF11l
  replace hle11 := Lib.hid hle11
  go_upto_region 36 with (at_builtin; refine wpList_append_ran2 rfl _ _ 26 26 rfl _ _ _ W10 rfl rfl hr10 ?_)
  clear hr10
  go_upto_region 37 with (at_builtin; refine wpList_append_ran2 rfl _ _ 26 26 rfl _ _ _ W11 rfl rfl hr11 ?_)
  clear hr11 b0 b1 fx2 q2
  generalize W11.setCell ⟨w.heap.size, 2, none⟩ (.slice a11 (K + 1) c11) = W12 at *
  have hX := hX2.out
  have hU := hU2.out
  have hV := hV2.out
  have hB := hB2.out
  clear hX2 hU2 hV2 hB2
  simp only [List.setIfInBounds_toArray, List.set_cons_zero, List.set_cons_succ] at hX
  have x0 := hX.cell 0
  have x1 := hX.cell 1
  have x2 := hX.cell 2
  simp only [List.getElem?_toArray, List.getElem?_cons_zero, List.getElem?_cons_succ] at x0 x1 x2
  have z0 := hU.cell 0
  have z1 := hU.cell 1
  have z2 := hU.cell 2
  have v0 := hV.cell 0
  have v1 := hV.cell 1
  have v2 := hV.cell 2
  simp only [List.getElem?_toArray, List.getElem?_cons_zero, List.getElem?_cons_succ] at z0 z1 z2 v0 v1 v2
  have g0 := hU.free 0
  have g1 := hU.free 1
  have g2 := hU.free 2
  have k0 := hV.free 0
  have k1 := hV.free 1
  have k2 := hV.free 2
  have fin := Lib.hid (rd_end hB hU hV (.slice (some ⟨bb, bo, none⟩) s.n c) (.int .i64 (Z : Nat)) (.slice a11 (K + 1) c11) (.int .i64 0) (.slice none 0 0) (.int .i64 0))
  have hIf := Lib.hid ((((((hI2.out.away (x := w.heap.size + 1 + 1) (fun e => by have := hFl.out _ e; omega) 0 (.slice (some ⟨bb, bo, none⟩) s.n c)).away (x := w.heap.size + 1 + 1) (fun e => by have := hFl.out _ e; omega) 1 (.int .i64 (Z : Nat))).away (x := w.heap.size + 1 + 1) (fun e => by have := hFl.out _ e; omega) 2 (.slice a11 (K + 1) c11)).away (x := w.heap.size + 1 + 1 + 1) (fun e => by have := hFl.out _ e; omega) 0 (.int .i64 0)).away (x := w.heap.size + 1 + 1 + 1) (fun e => by have := hFl.out _ e; omega) 1 (.slice none 0 0)).away (x := w.heap.size + 1 + 1 + 1) (fun e => by have := hFl.out _ e; omega) 2 (.int .i64 0))
  clear hX hU hV hB
  go_wp2_with fail
  exact bodyPost_ret (results_cells2 (fn := Try.f20) (p1 := 4) (p2 := 5) (ty1 := 48) (ty2 := 50) rfl _ _ _ _ _ _ _ _ (0, 0) (0, 0) _ _ rfl fin.out.1 Try.underlying48 rfl (by kernel_rfl) rfl fin.out.2.1 Try.underlying50 rfl (by kernel_rfl)) rfl ⟨_, _, _, _, rfl, open_rd hRD.out fin.out.2.2 hIf.out hK.out hVV.out hXX.out, Row.nil _ _ _, fin.out.2.2, .inr fun ad e => ⟨by subst e; have := hFl.out ad.block rfl; omega, by subst e; exact hIf.out.lt _ rfl⟩⟩
end Go.Proofs.Ytacnmnodbmbplaa
