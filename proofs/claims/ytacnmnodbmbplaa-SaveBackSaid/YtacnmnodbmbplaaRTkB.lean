/-
  The document's Takes: Bytes.
-/
import Derived.Test.YtacnmnodbmbplaaRTk3M
namespace Go.Proofs.Ytacnmnodbmbplaa
open Go.RowKit Go.Shelf
set_option maxRecDepth 100000
set_option maxHeartbeats 1000000
set_option linter.unusedVariables false

theorem four_facts {A n c : Nat} (h : A + 4 ≤ n) (h2 : n ≤ 16777216) (hc : n ≤ c) : ∃ Z, Z = A + 4 ∧ wrap64 ((A : Int) + 4) = (Z : Int) ∧ IntKind.i64.wrap ((A : Int) + 4) = (Z : Int) ∧ (A : Int) ≤ (Z : Int) ∧ (Z : Int) ≤ (c : Int) ∧ ¬ c = A ∧ Z ≤ c ∧ Z - A = 4 :=
  ⟨_, rfl, by unfold wrap64; omega, by simp only [IntKind.wrap_i64]; omega, by omega, by omega, by omega, by omega, by omega⟩
theorem gt_yes4 {L X : Nat} (h : L - 4 < X) : decide ((X : Int) > ((L - 4 : Nat) : Int)) = true := decide_eq_true (by omega)
theorem gt_no4 {L X : Nat} (h : ¬ L - 4 < X) : decide ((X : Int) > ((L - 4 : Nat) : Int)) = false := decide_eq_false (by omega)
theorem num4_lt {g : Nat → Nat} {A n X : Nat} (hX : numN (shiftF A g) 4 = X) (hf : ∀ i, i < n → g i < 256) (h : A + 4 ≤ n) : X < 4294967296 := hX ▸ numN_lt (n := 4) (fun i hi => hf _ (by omega))
theorem fit4 {s : RS} (hg : s.Good) (hz : ¬ s.left < 4) : s.at_ + 4 ≤ s.n := by have := hg.end_le; have := hg.le; unfold RS.left at hz; omega
theorem left_le {s : RS} (hg : s.Good) : s.left ≤ 16777216 := by have := hg.end_le; have := hg.n; unfold RS.left; omega
theorem ltI {L k : Nat} (h : ¬ L < k) : ¬ (L : Int) < (k : Int) := by omega
theorem row_form {w : World} {a : Option Addr} {n A : Nat} {f : Nat → Nat} (h : Row w a n f) (hf : A + 4 ≤ n) : ∃ bb bo, a = some ⟨bb, bo, none⟩ ∧ bb < w.heap.size := by
  rcases h.2 with h0 | ⟨bb, bo, e, hbb, _⟩
  · omega
  · exact ⟨bb, bo, e, hbb⟩
theorem fit_all {A E n L X Z : Nat} (hL : L = E - A) (hE : E ≤ n) (hz : ¬ L < 4) (ht : ¬ L - 4 < X) (hZ : Z = A + 4) : Z + X ≤ n := by omega
theorem fit_none {X Z n c : Nat} (h : Z + X ≤ n) (hc : n ≤ c) (hcz : c = Z) : X = 0 := by omega
theorem adv2_n (s : RS) (z : Nat) : ((s.adv 4).adv z).n = s.n := rfl
theorem adv2_op (s : RS) (z : Nat) : ((s.adv 4).adv z).op = s.op := rfl
theorem adv2_at (s : RS) (z X : Nat) (h : z = X) : ((s.adv 4).adv z).at_ = s.at_ + 4 + X := by subst h; rfl
theorem sub_four {L : Nat} (h : ¬ L < 4) (h2 : L ≤ 16777216) : wrap64 ((L : Int) - 4) = ((L - 4 : Nat) : Int) ∧ IntKind.i64.wrap ((L : Int) - 4) = ((L - 4 : Nat) : Int) := ⟨by unfold wrap64; omega, by simp only [IntKind.wrap_i64]; omega⟩
theorem end_facts {Z X n c : Nat} (h : Z + X ≤ n) (h2 : n ≤ 16777216) (hc : n ≤ c) : ∃ V U, V = Z + X ∧ U = 4 + X ∧ wrap64 ((Z : Int) + (X : Int)) = (V : Int) ∧ IntKind.i64.wrap ((Z : Int) + (X : Int)) = (V : Int) ∧ wrap64 (4 + (X : Int)) = (U : Int) ∧ IntKind.i64.wrap (4 + (X : Int)) = (U : Int) ∧ (Z : Int) ≤ (V : Int) ∧ (V : Int) ≤ (c : Int) ∧ V ≤ c ∧ Z ≤ V ∧ V - Z = X ∧ (Z : Int) ≤ (c : Int) :=
  ⟨_, _, rfl, rfl, by unfold wrap64; omega, by simp only [IntKind.wrap_i64]; omega, by unfold wrap64; omega, by simp only [IntKind.wrap_i64]; omega, by omega, by omega, by omega, by omega, by omega, by omega⟩
theorem at_facts {A U V X : Nat} (hV : V = A + 4 + X) (hU : U = 4 + X) (h : V ≤ 16777216) : wrap64 ((A : Int) + (U : Int)) = (V : Int) ∧ IntKind.i64.wrap ((A : Int) + (U : Int)) = (V : Int) := ⟨by unfold wrap64; omega, by simp only [IntKind.wrap_i64]; omega⟩
theorem rtk_5a {a ae : Option Addr} {c ce : Nat} {s : RS} (n : Int) (pa : Option Addr) (len cap : Nat) (w : World) (h : RDoc w a c ae ce s) (hg : s.Good) (hz : s.left < 4) :
    Calls Try.prog 20 #[rdV a c ae ce s, putV 5 n pa len cap] w fun e w' => ∃ ab cb ae' ce', e = .returned (.tuple #[rdV a c ae' ce' (s.step 5 n).s, tookV (s.step 5 n).N ab (s.step 5 n).len cb (s.step 5 n).E]) ∧ RDoc w' a c ae' ce' (s.step 5 n).s ∧ Row w' ab (s.step 5 n).len (s.step 5 n).g ∧ Below w.heap.size w w' ∧ NewRow w.heap.size w' ae ae' := by
  have hX := (((Whole.fresh w 48 #[.slice a s.n c, .int .i64 (s.at_ : Nat), .slice ae (s.op + 1) ce]).alloc (.cells #[.int .i64 5, .int .i64 n, .slice pa len cap] 32)).alloc (.cells #[.slice none 0 0, .int .i64 0, .slice none 0 0] 48)).alloc (.cells #[.int .i64 0, .slice none 0 0, .int .i64 0] 50)
  have hY := ((Whole.fresh (w.alloc (.cells #[.slice a s.n c, .int .i64 (s.at_ : Nat), .slice ae (s.op + 1) ce] 48)) 32 #[.int .i64 5, .int .i64 n, .slice pa len cap]).alloc (.cells #[.slice none 0 0, .int .i64 0, .slice none 0 0] 48)).alloc (.cells #[.int .i64 0, .slice none 0 0, .int .i64 0] 50)
  have hU := (Whole.fresh ((w.alloc (.cells #[.slice a s.n c, .int .i64 (s.at_ : Nat), .slice ae (s.op + 1) ce] 48)).alloc (.cells #[.int .i64 5, .int .i64 n, .slice pa len cap] 32)) 48 #[.slice none 0 0, .int .i64 0, .slice none 0 0]).alloc (.cells #[.int .i64 0, .slice none 0 0, .int .i64 0] 50)
  have hV := Whole.fresh (((w.alloc (.cells #[.slice a s.n c, .int .i64 (s.at_ : Nat), .slice ae (s.op + 1) ce] 48)).alloc (.cells #[.int .i64 5, .int .i64 n, .slice pa len cap] 32)).alloc (.cells #[.slice none 0 0, .int .i64 0, .slice none 0 0] 48)) 50 #[.int .i64 0, .slice none 0 0, .int .i64 0]
  have hB := ((((Below.refl w.heap.size w).alloc (Nat.le_refl _) (.cells #[.slice a s.n c, .int .i64 (s.at_ : Nat), .slice ae (s.op + 1) ce] 48)).alloc (by simp) (.cells #[.int .i64 5, .int .i64 n, .slice pa len cap] 32)).alloc (by simp; omega) (.cells #[.slice none 0 0, .int .i64 0, .slice none 0 0] 48)).alloc (by simp; omega) (.cells #[.int .i64 0, .slice none 0 0, .int .i64 0] 50)
  have hs1 : (w.alloc (.cells #[.slice a s.n c, .int .i64 (s.at_ : Nat), .slice ae (s.op + 1) ce] 48)).heap.size = w.heap.size + 1 := by simp
  have hs2 : ((w.alloc (.cells #[.slice a s.n c, .int .i64 (s.at_ : Nat), .slice ae (s.op + 1) ce] 48)).alloc (.cells #[.int .i64 5, .int .i64 n, .slice pa len cap] 32)).heap.size = w.heap.size + 1 + 1 := by simp
  have hs3 : (((w.alloc (.cells #[.slice a s.n c, .int .i64 (s.at_ : Nat), .slice ae (s.op + 1) ce] 48)).alloc (.cells #[.int .i64 5, .int .i64 n, .slice pa len cap] 32)).alloc (.cells #[.slice none 0 0, .int .i64 0, .slice none 0 0] 48)).heap.size = w.heap.size + 1 + 1 + 1 := by simp
  rw [hs1] at hY
  rw [hs2] at hU
  rw [hs3] at hV
  clear hs1 hs2 hs3
  have hE : s.bytesE n = 56 := if_pos hz
  have hstep : s.step 5 n = ⟨s, 0, 0, shiftF (s.at_ + 4) s.f, 56⟩ := by
    show (⟨if s.bytesE n = 0 then s.bytesS else s, 0, if s.bytesE n = 0 then s.num 4 else 0, shiftF (s.at_ + 4) s.f, s.bytesE n⟩ : Tk) = _
    rw [hE]; rfl
  rw [hstep]
  have HLf := Lib.hid (fun (W : World) (hW : RDoc W a c ae ce s) => rleftd_any W hW hg)
  have hRD := Lib.hid h
  have i1 : decide ((s.left : Int) < 4) = true := decide_eq_true (by omega)
  have i2 : (s.left : Int) < 4 := by omega
  unfold rdV putV at *
  clear hstep hg h hE
  generalize s.left = L at *
  go_enter Try.func20, Try.ntmps20
  go_upto_region 1 with (fail)
  generalize ((((w.alloc (.cells #[.slice a s.n c, .int .i64 (s.at_ : Nat), .slice ae (s.op + 1) ce] 48)).alloc (.cells #[.int .i64 5, .int .i64 n, .slice pa len cap] 32)).alloc (.cells #[.slice none 0 0, .int .i64 0, .slice none 0 0] 48)).alloc (.cells #[.int .i64 0, .slice none 0 0, .int .i64 0] 50)) = W0 at *
  have x0 := hX.cell 0
  have x1 := hX.cell 1
  have x2 := hX.cell 2
  have y0 := hY.cell 0
  simp only [List.getElem?_toArray, List.getElem?_cons_zero, List.getElem?_cons_succ] at x0 x1 x2 y0
  go_wp2_with fail
  refine (HLf.out _ (hRD.out.below hB)).mono ?_
  rintro e W1 ⟨rfl, hB1⟩
  clear x0 x1 x2 y0
  replace hX := hX.below hB1 hX.lt
  replace hY := hY.below hB1 hY.lt
  replace hU := hU.below hB1 hU.lt
  replace hV := hV.below hB1 hV.lt
  have hB := hB.trans (hB1.mono hB.size)
  clear hB1
  have x0 := hX.cell 0
  have x1 := hX.cell 1
  have x2 := hX.cell 2
  simp only [List.getElem?_toArray, List.getElem?_cons_zero, List.getElem?_cons_succ] at x0 x1 x2
  have z0 := hU.cell 0
  have z1 := hU.cell 1
  have z2 := hU.cell 2
  have v0 := hV.cell 0
  have v1 := hV.cell 1
  have v2 := hV.cell 2
  simp only [List.getElem?_toArray, List.getElem?_cons_zero, List.getElem?_cons_succ] at z0 z1 z2 v0 v1 v2
  have g0 := hU.free 0
  have g1 := hU.free 1
  have g2 := hU.free 2
  have k0 := hV.free 0
  have k1 := hV.free 1
  have k2 := hV.free 2
  have fin := Lib.hid (rd_end hB hU hV (.slice a s.n c) (.int .i64 (s.at_ : Nat)) (.slice ae (s.op + 1) ce) (.int .i64 0) (.slice none 0 0) (.int .i64 56))
  clear HLf hX hY hU hV hB
  go_wp2_with fail
  exact bodyPost_ret (results_cells2 (fn := Try.f20) (p1 := 4) (p2 := 5) (ty1 := 48) (ty2 := 50) rfl _ _ _ _ _ _ _ _ (0, 0) (0, 0) _ _ rfl fin.out.1 Try.underlying48 rfl (by kernel_rfl) rfl fin.out.2.1 Try.underlying50 rfl (by kernel_rfl)) rfl ⟨_, _, _, _, rfl, hRD.out.below fin.out.2.2, Row.nil _ _ _, fin.out.2.2, .inl rfl⟩
theorem rtk_5b {a ae : Option Addr} {c ce : Nat} {s : RS} (n : Int) (pa : Option Addr) (len cap : Nat) (w : World) (h : RDoc w a c ae ce s) (hg : s.Good) (hz : ¬ s.left < 4) (hm : n < (s.num 4 : Nat)) :
    Calls Try.prog 20 #[rdV a c ae ce s, putV 5 n pa len cap] w fun e w' => ∃ ab cb ae' ce', e = .returned (.tuple #[rdV a c ae' ce' (s.step 5 n).s, tookV (s.step 5 n).N ab (s.step 5 n).len cb (s.step 5 n).E]) ∧ RDoc w' a c ae' ce' (s.step 5 n).s ∧ Row w' ab (s.step 5 n).len (s.step 5 n).g ∧ Below w.heap.size w w' ∧ NewRow w.heap.size w' ae ae' := by
  have hX := (((Whole.fresh w 48 #[.slice a s.n c, .int .i64 (s.at_ : Nat), .slice ae (s.op + 1) ce]).alloc (.cells #[.int .i64 5, .int .i64 n, .slice pa len cap] 32)).alloc (.cells #[.slice none 0 0, .int .i64 0, .slice none 0 0] 48)).alloc (.cells #[.int .i64 0, .slice none 0 0, .int .i64 0] 50)
  have hY := ((Whole.fresh (w.alloc (.cells #[.slice a s.n c, .int .i64 (s.at_ : Nat), .slice ae (s.op + 1) ce] 48)) 32 #[.int .i64 5, .int .i64 n, .slice pa len cap]).alloc (.cells #[.slice none 0 0, .int .i64 0, .slice none 0 0] 48)).alloc (.cells #[.int .i64 0, .slice none 0 0, .int .i64 0] 50)
  have hU := (Whole.fresh ((w.alloc (.cells #[.slice a s.n c, .int .i64 (s.at_ : Nat), .slice ae (s.op + 1) ce] 48)).alloc (.cells #[.int .i64 5, .int .i64 n, .slice pa len cap] 32)) 48 #[.slice none 0 0, .int .i64 0, .slice none 0 0]).alloc (.cells #[.int .i64 0, .slice none 0 0, .int .i64 0] 50)
  have hV := Whole.fresh (((w.alloc (.cells #[.slice a s.n c, .int .i64 (s.at_ : Nat), .slice ae (s.op + 1) ce] 48)).alloc (.cells #[.int .i64 5, .int .i64 n, .slice pa len cap] 32)).alloc (.cells #[.slice none 0 0, .int .i64 0, .slice none 0 0] 48)) 50 #[.int .i64 0, .slice none 0 0, .int .i64 0]
  have hB := ((((Below.refl w.heap.size w).alloc (Nat.le_refl _) (.cells #[.slice a s.n c, .int .i64 (s.at_ : Nat), .slice ae (s.op + 1) ce] 48)).alloc (by simp) (.cells #[.int .i64 5, .int .i64 n, .slice pa len cap] 32)).alloc (by simp; omega) (.cells #[.slice none 0 0, .int .i64 0, .slice none 0 0] 48)).alloc (by simp; omega) (.cells #[.int .i64 0, .slice none 0 0, .int .i64 0] 50)
  have hs1 : (w.alloc (.cells #[.slice a s.n c, .int .i64 (s.at_ : Nat), .slice ae (s.op + 1) ce] 48)).heap.size = w.heap.size + 1 := by simp
  have hs2 : ((w.alloc (.cells #[.slice a s.n c, .int .i64 (s.at_ : Nat), .slice ae (s.op + 1) ce] 48)).alloc (.cells #[.int .i64 5, .int .i64 n, .slice pa len cap] 32)).heap.size = w.heap.size + 1 + 1 := by simp
  have hs3 : (((w.alloc (.cells #[.slice a s.n c, .int .i64 (s.at_ : Nat), .slice ae (s.op + 1) ce] 48)).alloc (.cells #[.int .i64 5, .int .i64 n, .slice pa len cap] 32)).alloc (.cells #[.slice none 0 0, .int .i64 0, .slice none 0 0] 48)).heap.size = w.heap.size + 1 + 1 + 1 := by simp
  rw [hs1] at hY
  rw [hs2] at hU
  rw [hs3] at hV
  clear hs1 hs2 hs3
  have hE : s.bytesE n = 4 := by unfold RS.bytesE; rw [if_neg hz, if_pos hm]
  have hstep : s.step 5 n = ⟨s, 0, 0, shiftF (s.at_ + 4) s.f, 4⟩ := by
    show (⟨if s.bytesE n = 0 then s.bytesS else s, 0, if s.bytesE n = 0 then s.num 4 else 0, shiftF (s.at_ + 4) s.f, s.bytesE n⟩ : Tk) = _
    rw [hE]; rfl
  rw [hstep]
  obtain ⟨X, hXX⟩ : ∃ X, s.num 4 = X := ⟨_, rfl⟩
  have hX0 : numN (shiftF s.at_ s.f) 4 = X := hXX
  rw [hXX] at hm
  clear hE hstep
  replace hXX := Lib.hid hXX
  have hXlt : X < 4294967296 := num4_lt hX0 (h.body.1) (fit4 hg hz)
  have ⟨x1w, x2w⟩ := w64_small hXlt
  clear hXlt
  replace hX0 := Lib.hid hX0
  have HLf := Lib.hid (fun (W : World) (hW : RDoc W a c ae ce s) => rleftd_any W hW hg)
  have hRD := Lib.hid h
  have hlE : s.left = s.endN - s.at_ := rfl
  have hge := hg.end_le
  have hgn := hg.n
  have hgl := hg.le
  have hfit : s.at_ + 4 ≤ s.n := fit4 hg hz
  obtain ⟨Z, hZ, w1, w2, w3, w4, w5, w6, w7⟩ := four_facts hfit hg.n h.le
  have ⟨l1, l2⟩ := sub_four hz (left_le hg)
  have i1 : decide ((s.left : Int) < 4) = false := decide_eq_false (ltI hz)
  have i2 : ¬ (s.left : Int) < 4 := ltI hz
  have i3 : ¬ s.left < 4 := hz
  obtain ⟨bb, bo, rfl, hbb⟩ : ∃ bb bo, a = some ⟨bb, bo, none⟩ ∧ bb < w.heap.size := row_form h.body hfit
  have hRw := Lib.hid (Row.shift h.body s.at_ 4 hfit)
  have HNu := (fun W (hW : Row W (some ⟨bb, bo + s.at_, none⟩) 4 (shiftF s.at_ s.f)) => rnumber_any (some ⟨bb, bo + s.at_, none⟩) 4 (c - s.at_) (shiftF s.at_ s.f) W hW (by decide))
  rw [hX0.out] at HNu
  replace HNu := Lib.hid HNu
  clear hX0
  have j1 : decide ((X : Int) > n) = true := decide_eq_true hm
  unfold rdV putV at *
  clear hg h hfit hlE hge hgn hgl
  generalize s.left = L at *
  replace hZ := Lib.hid hZ
  go_enter Try.func20, Try.ntmps20
  go_upto_region 1 with (fail)
  generalize ((((w.alloc (.cells #[.slice (some ⟨bb, bo, none⟩) s.n c, .int .i64 (s.at_ : Nat), .slice ae (s.op + 1) ce] 48)).alloc (.cells #[.int .i64 5, .int .i64 n, .slice pa len cap] 32)).alloc (.cells #[.slice none 0 0, .int .i64 0, .slice none 0 0] 48)).alloc (.cells #[.int .i64 0, .slice none 0 0, .int .i64 0] 50)) = W0 at *
  have x0 := hX.cell 0
  have x1 := hX.cell 1
  have x2 := hX.cell 2
  have y0 := hY.cell 0
  simp only [List.getElem?_toArray, List.getElem?_cons_zero, List.getElem?_cons_succ] at x0 x1 x2 y0
  go_wp2_with fail
  refine (HLf.out _ (hRD.out.below hB)).mono ?_
  rintro e W1 ⟨rfl, hB1⟩
  clear x0 x1 x2 y0
  replace hX := hX.below hB1 hX.lt
  replace hY := hY.below hB1 hY.lt
  replace hU := hU.below hB1 hU.lt
  replace hV := hV.below hB1 hV.lt
  have hB := hB.trans (hB1.mono hB.size)
  clear hB1
  have x0 := hX.cell 0
  have x1 := hX.cell 1
  have x2 := hX.cell 2
  simp only [List.getElem?_toArray, List.getElem?_cons_zero, List.getElem?_cons_succ] at x0 x1 x2
  have y0 := hY.cell 0
  have y1 := hY.cell 1
  simp only [List.getElem?_toArray, List.getElem?_cons_zero, List.getElem?_cons_succ] at y0 y1
  go_wp2_with fail
  refine (HNu.out _ (hRw.out.below hB)).mono ?_
  rintro e W2 ⟨rfl, rfl⟩
  clear HNu hRw
  have z0 := hU.cell 0
  have z1 := hU.cell 1
  have z2 := hU.cell 2
  have v0 := hV.cell 0
  have v1 := hV.cell 1
  have v2 := hV.cell 2
  simp only [List.getElem?_toArray, List.getElem?_cons_zero, List.getElem?_cons_succ] at z0 z1 z2 v0 v1 v2
  have g0 := hU.free 0
  have g1 := hU.free 1
  have g2 := hU.free 2
  have k0 := hV.free 0
  have k1 := hV.free 1
  have k2 := hV.free 2
  have fin := Lib.hid (rd_end hB hU hV (.slice (some ⟨bb, bo, none⟩) s.n c) (.int .i64 (s.at_ : Nat)) (.slice ae (s.op + 1) ce) (.int .i64 0) (.slice none 0 0) (.int .i64 4))
  clear HLf hX hY hU hV hB
  go_wp2_with fail
  exact bodyPost_ret (results_cells2 (fn := Try.f20) (p1 := 4) (p2 := 5) (ty1 := 48) (ty2 := 50) rfl _ _ _ _ _ _ _ _ (0, 0) (0, 0) _ _ rfl fin.out.1 Try.underlying48 rfl (by kernel_rfl) rfl fin.out.2.1 Try.underlying50 rfl (by kernel_rfl)) rfl ⟨_, _, _, _, rfl, hRD.out.below fin.out.2.2, Row.nil _ _ _, fin.out.2.2, .inl rfl⟩
end Go.Proofs.Ytacnmnodbmbplaa
namespace Go.Proofs.Ytacnmnodbmbplaa
open Go.RowKit Go.Shelf
set_option maxRecDepth 100000
set_option maxHeartbeats 1000000
set_option linter.unusedVariables false

theorem rtk_5c {a ae : Option Addr} {c ce : Nat} {s : RS} (n : Int) (pa : Option Addr) (len cap : Nat) (w : World) (h : RDoc w a c ae ce s) (hg : s.Good) (hz : ¬ s.left < 4) (hm : ¬ n < (s.num 4 : Nat)) (ht : s.left - 4 < s.num 4) :
    Calls Try.prog 20 #[rdV a c ae ce s, putV 5 n pa len cap] w fun e w' => ∃ ab cb ae' ce', e = .returned (.tuple #[rdV a c ae' ce' (s.step 5 n).s, tookV (s.step 5 n).N ab (s.step 5 n).len cb (s.step 5 n).E]) ∧ RDoc w' a c ae' ce' (s.step 5 n).s ∧ Row w' ab (s.step 5 n).len (s.step 5 n).g ∧ Below w.heap.size w w' ∧ NewRow w.heap.size w' ae ae' := by
  have hX := (((Whole.fresh w 48 #[.slice a s.n c, .int .i64 (s.at_ : Nat), .slice ae (s.op + 1) ce]).alloc (.cells #[.int .i64 5, .int .i64 n, .slice pa len cap] 32)).alloc (.cells #[.slice none 0 0, .int .i64 0, .slice none 0 0] 48)).alloc (.cells #[.int .i64 0, .slice none 0 0, .int .i64 0] 50)
  have hY := ((Whole.fresh (w.alloc (.cells #[.slice a s.n c, .int .i64 (s.at_ : Nat), .slice ae (s.op + 1) ce] 48)) 32 #[.int .i64 5, .int .i64 n, .slice pa len cap]).alloc (.cells #[.slice none 0 0, .int .i64 0, .slice none 0 0] 48)).alloc (.cells #[.int .i64 0, .slice none 0 0, .int .i64 0] 50)
  have hU := (Whole.fresh ((w.alloc (.cells #[.slice a s.n c, .int .i64 (s.at_ : Nat), .slice ae (s.op + 1) ce] 48)).alloc (.cells #[.int .i64 5, .int .i64 n, .slice pa len cap] 32)) 48 #[.slice none 0 0, .int .i64 0, .slice none 0 0]).alloc (.cells #[.int .i64 0, .slice none 0 0, .int .i64 0] 50)
  have hV := Whole.fresh (((w.alloc (.cells #[.slice a s.n c, .int .i64 (s.at_ : Nat), .slice ae (s.op + 1) ce] 48)).alloc (.cells #[.int .i64 5, .int .i64 n, .slice pa len cap] 32)).alloc (.cells #[.slice none 0 0, .int .i64 0, .slice none 0 0] 48)) 50 #[.int .i64 0, .slice none 0 0, .int .i64 0]
  have hB := ((((Below.refl w.heap.size w).alloc (Nat.le_refl _) (.cells #[.slice a s.n c, .int .i64 (s.at_ : Nat), .slice ae (s.op + 1) ce] 48)).alloc (by simp) (.cells #[.int .i64 5, .int .i64 n, .slice pa len cap] 32)).alloc (by simp; omega) (.cells #[.slice none 0 0, .int .i64 0, .slice none 0 0] 48)).alloc (by simp; omega) (.cells #[.int .i64 0, .slice none 0 0, .int .i64 0] 50)
  have hs1 : (w.alloc (.cells #[.slice a s.n c, .int .i64 (s.at_ : Nat), .slice ae (s.op + 1) ce] 48)).heap.size = w.heap.size + 1 := by simp
  have hs2 : ((w.alloc (.cells #[.slice a s.n c, .int .i64 (s.at_ : Nat), .slice ae (s.op + 1) ce] 48)).alloc (.cells #[.int .i64 5, .int .i64 n, .slice pa len cap] 32)).heap.size = w.heap.size + 1 + 1 := by simp
  have hs3 : (((w.alloc (.cells #[.slice a s.n c, .int .i64 (s.at_ : Nat), .slice ae (s.op + 1) ce] 48)).alloc (.cells #[.int .i64 5, .int .i64 n, .slice pa len cap] 32)).alloc (.cells #[.slice none 0 0, .int .i64 0, .slice none 0 0] 48)).heap.size = w.heap.size + 1 + 1 + 1 := by simp
  rw [hs1] at hY
  rw [hs2] at hU
  rw [hs3] at hV
  clear hs1 hs2 hs3
  have hE : s.bytesE n = 56 := by unfold RS.bytesE; rw [if_neg hz, if_neg hm, if_pos ht]
  have hstep : s.step 5 n = ⟨s, 0, 0, shiftF (s.at_ + 4) s.f, 56⟩ := by
    show (⟨if s.bytesE n = 0 then s.bytesS else s, 0, if s.bytesE n = 0 then s.num 4 else 0, shiftF (s.at_ + 4) s.f, s.bytesE n⟩ : Tk) = _
    rw [hE]; rfl
  rw [hstep]
  obtain ⟨X, hXX⟩ : ∃ X, s.num 4 = X := ⟨_, rfl⟩
  have hX0 : numN (shiftF s.at_ s.f) 4 = X := hXX
  rw [hXX] at hm ht
  clear hE hstep
  replace hXX := Lib.hid hXX
  have hXlt : X < 4294967296 := num4_lt hX0 (h.body.1) (fit4 hg hz)
  have ⟨x1w, x2w⟩ := w64_small hXlt
  clear hXlt
  replace hX0 := Lib.hid hX0
  have HLf := Lib.hid (fun (W : World) (hW : RDoc W a c ae ce s) => rleftd_any W hW hg)
  have hRD := Lib.hid h
  have hlE : s.left = s.endN - s.at_ := rfl
  have hge := hg.end_le
  have hgn := hg.n
  have hgl := hg.le
  have hfit : s.at_ + 4 ≤ s.n := fit4 hg hz
  obtain ⟨Z, hZ, w1, w2, w3, w4, w5, w6, w7⟩ := four_facts hfit hg.n h.le
  have ⟨l1, l2⟩ := sub_four hz (left_le hg)
  have i1 : decide ((s.left : Int) < 4) = false := decide_eq_false (ltI hz)
  have i2 : ¬ (s.left : Int) < 4 := ltI hz
  have i3 : ¬ s.left < 4 := hz
  obtain ⟨bb, bo, rfl, hbb⟩ : ∃ bb bo, a = some ⟨bb, bo, none⟩ ∧ bb < w.heap.size := row_form h.body hfit
  have hRw := Lib.hid (Row.shift h.body s.at_ 4 hfit)
  have HNu := (fun W (hW : Row W (some ⟨bb, bo + s.at_, none⟩) 4 (shiftF s.at_ s.f)) => rnumber_any (some ⟨bb, bo + s.at_, none⟩) 4 (c - s.at_) (shiftF s.at_ s.f) W hW (by decide))
  rw [hX0.out] at HNu
  replace HNu := Lib.hid HNu
  clear hX0
  have j1 : decide ((X : Int) > n) = false := decide_eq_false hm
  have j3 := gt_yes4 ht
  have j4 : s.left - 4 < X := ht
  unfold rdV putV at *
  clear hg h hfit hlE hge hgn hgl
  generalize s.left = L at *
  replace hZ := Lib.hid hZ
  go_enter Try.func20, Try.ntmps20
  go_upto_region 1 with (fail)
  generalize ((((w.alloc (.cells #[.slice (some ⟨bb, bo, none⟩) s.n c, .int .i64 (s.at_ : Nat), .slice ae (s.op + 1) ce] 48)).alloc (.cells #[.int .i64 5, .int .i64 n, .slice pa len cap] 32)).alloc (.cells #[.slice none 0 0, .int .i64 0, .slice none 0 0] 48)).alloc (.cells #[.int .i64 0, .slice none 0 0, .int .i64 0] 50)) = W0 at *
  have x0 := hX.cell 0
  have x1 := hX.cell 1
  have x2 := hX.cell 2
  have y0 := hY.cell 0
  simp only [List.getElem?_toArray, List.getElem?_cons_zero, List.getElem?_cons_succ] at x0 x1 x2 y0
  go_wp2_with fail
  refine (HLf.out _ (hRD.out.below hB)).mono ?_
  rintro e W1 ⟨rfl, hB1⟩
  clear x0 x1 x2 y0
  replace hX := hX.below hB1 hX.lt
  replace hY := hY.below hB1 hY.lt
  replace hU := hU.below hB1 hU.lt
  replace hV := hV.below hB1 hV.lt
  have hB := hB.trans (hB1.mono hB.size)
  clear hB1
  have x0 := hX.cell 0
  have x1 := hX.cell 1
  have x2 := hX.cell 2
  simp only [List.getElem?_toArray, List.getElem?_cons_zero, List.getElem?_cons_succ] at x0 x1 x2
  have y0 := hY.cell 0
  have y1 := hY.cell 1
  simp only [List.getElem?_toArray, List.getElem?_cons_zero, List.getElem?_cons_succ] at y0 y1
  go_wp2_with fail
  refine (HNu.out _ (hRw.out.below hB)).mono ?_
  rintro e W2 ⟨rfl, rfl⟩
  clear HNu hRw
  go_wp2_with fail
  refine (HLf.out _ (hRD.out.below hB)).mono ?_
  rintro e W3 ⟨rfl, hB1⟩
  clear x0 x1 x2 y0 y1
  replace hX := hX.below hB1 hX.lt
  replace hY := hY.below hB1 hY.lt
  replace hU := hU.below hB1 hU.lt
  replace hV := hV.below hB1 hV.lt
  replace hB := hB.trans (hB1.mono hB.size)
  clear hB1 HLf
  have x0 := hX.cell 0
  have x1 := hX.cell 1
  have x2 := hX.cell 2
  simp only [List.getElem?_toArray, List.getElem?_cons_zero, List.getElem?_cons_succ] at x0 x1 x2
  have z0 := hU.cell 0
  have z1 := hU.cell 1
  have z2 := hU.cell 2
  have v0 := hV.cell 0
  have v1 := hV.cell 1
  have v2 := hV.cell 2
  simp only [List.getElem?_toArray, List.getElem?_cons_zero, List.getElem?_cons_succ] at z0 z1 z2 v0 v1 v2
  have g0 := hU.free 0
  have g1 := hU.free 1
  have g2 := hU.free 2
  have k0 := hV.free 0
  have k1 := hV.free 1
  have k2 := hV.free 2
  have fin := Lib.hid (rd_end hB hU hV (.slice (some ⟨bb, bo, none⟩) s.n c) (.int .i64 (s.at_ : Nat)) (.slice ae (s.op + 1) ce) (.int .i64 0) (.slice none 0 0) (.int .i64 56))
  clear hX hY hU hV hB
  go_wp2_with fail
  exact bodyPost_ret (results_cells2 (fn := Try.f20) (p1 := 4) (p2 := 5) (ty1 := 48) (ty2 := 50) rfl _ _ _ _ _ _ _ _ (0, 0) (0, 0) _ _ rfl fin.out.1 Try.underlying48 rfl (by kernel_rfl) rfl fin.out.2.1 Try.underlying50 rfl (by kernel_rfl)) rfl ⟨_, _, _, _, rfl, hRD.out.below fin.out.2.2, Row.nil _ _ _, fin.out.2.2, .inl rfl⟩
end Go.Proofs.Ytacnmnodbmbplaa
namespace Go.Proofs.Ytacnmnodbmbplaa
open Go.RowKit Go.Shelf
set_option maxRecDepth 100000
set_option maxHeartbeats 1000000
set_option linter.unusedVariables false

theorem rtk_5d {a ae : Option Addr} {c ce : Nat} {s : RS} (n : Int) (pa : Option Addr) (len cap : Nat) (w : World) (h : RDoc w a c ae ce s) (hg : s.Good) (hz : ¬ s.left < 4) (hm : ¬ n < (s.num 4 : Nat)) (ht : ¬ s.left - 4 < s.num 4) (hcz : c = s.at_ + 4) :
    Calls Try.prog 20 #[rdV a c ae ce s, putV 5 n pa len cap] w fun e w' => ∃ ab cb ae' ce', e = .returned (.tuple #[rdV a c ae' ce' (s.step 5 n).s, tookV (s.step 5 n).N ab (s.step 5 n).len cb (s.step 5 n).E]) ∧ RDoc w' a c ae' ce' (s.step 5 n).s ∧ Row w' ab (s.step 5 n).len (s.step 5 n).g ∧ Below w.heap.size w w' ∧ NewRow w.heap.size w' ae ae' := by
  have hX := (((Whole.fresh w 48 #[.slice a s.n c, .int .i64 (s.at_ : Nat), .slice ae (s.op + 1) ce]).alloc (.cells #[.int .i64 5, .int .i64 n, .slice pa len cap] 32)).alloc (.cells #[.slice none 0 0, .int .i64 0, .slice none 0 0] 48)).alloc (.cells #[.int .i64 0, .slice none 0 0, .int .i64 0] 50)
  have hY := ((Whole.fresh (w.alloc (.cells #[.slice a s.n c, .int .i64 (s.at_ : Nat), .slice ae (s.op + 1) ce] 48)) 32 #[.int .i64 5, .int .i64 n, .slice pa len cap]).alloc (.cells #[.slice none 0 0, .int .i64 0, .slice none 0 0] 48)).alloc (.cells #[.int .i64 0, .slice none 0 0, .int .i64 0] 50)
  have hU := (Whole.fresh ((w.alloc (.cells #[.slice a s.n c, .int .i64 (s.at_ : Nat), .slice ae (s.op + 1) ce] 48)).alloc (.cells #[.int .i64 5, .int .i64 n, .slice pa len cap] 32)) 48 #[.slice none 0 0, .int .i64 0, .slice none 0 0]).alloc (.cells #[.int .i64 0, .slice none 0 0, .int .i64 0] 50)
  have hV := Whole.fresh (((w.alloc (.cells #[.slice a s.n c, .int .i64 (s.at_ : Nat), .slice ae (s.op + 1) ce] 48)).alloc (.cells #[.int .i64 5, .int .i64 n, .slice pa len cap] 32)).alloc (.cells #[.slice none 0 0, .int .i64 0, .slice none 0 0] 48)) 50 #[.int .i64 0, .slice none 0 0, .int .i64 0]
  have hB := ((((Below.refl w.heap.size w).alloc (Nat.le_refl _) (.cells #[.slice a s.n c, .int .i64 (s.at_ : Nat), .slice ae (s.op + 1) ce] 48)).alloc (by simp) (.cells #[.int .i64 5, .int .i64 n, .slice pa len cap] 32)).alloc (by simp; omega) (.cells #[.slice none 0 0, .int .i64 0, .slice none 0 0] 48)).alloc (by simp; omega) (.cells #[.int .i64 0, .slice none 0 0, .int .i64 0] 50)
  have hs1 : (w.alloc (.cells #[.slice a s.n c, .int .i64 (s.at_ : Nat), .slice ae (s.op + 1) ce] 48)).heap.size = w.heap.size + 1 := by simp
  have hs2 : ((w.alloc (.cells #[.slice a s.n c, .int .i64 (s.at_ : Nat), .slice ae (s.op + 1) ce] 48)).alloc (.cells #[.int .i64 5, .int .i64 n, .slice pa len cap] 32)).heap.size = w.heap.size + 1 + 1 := by simp
  have hs3 : (((w.alloc (.cells #[.slice a s.n c, .int .i64 (s.at_ : Nat), .slice ae (s.op + 1) ce] 48)).alloc (.cells #[.int .i64 5, .int .i64 n, .slice pa len cap] 32)).alloc (.cells #[.slice none 0 0, .int .i64 0, .slice none 0 0] 48)).heap.size = w.heap.size + 1 + 1 + 1 := by simp
  rw [hs1] at hY
  rw [hs2] at hU
  rw [hs3] at hV
  clear hs1 hs2 hs3
  have hE : s.bytesE n = 0 := by unfold RS.bytesE; rw [if_neg hz, if_neg hm, if_neg ht]
  have hstep : s.step 5 n = ⟨s.bytesS, 0, s.num 4, shiftF (s.at_ + 4) s.f, 0⟩ := by
    show (⟨if s.bytesE n = 0 then s.bytesS else s, 0, if s.bytesE n = 0 then s.num 4 else 0, shiftF (s.at_ + 4) s.f, s.bytesE n⟩ : Tk) = _
    rw [hE]; rfl
  rw [hstep]
  obtain ⟨X, hXX⟩ : ∃ X, s.num 4 = X := ⟨_, rfl⟩
  have hX0 : numN (shiftF s.at_ s.f) 4 = X := hXX
  rw [hXX] at hm ht ⊢
  clear hE hstep
  replace hXX := Lib.hid hXX
  have hXlt : X < 4294967296 := num4_lt hX0 (h.body.1) (fit4 hg hz)
  have ⟨x1w, x2w⟩ := w64_small hXlt
  clear hXlt
  replace hX0 := Lib.hid hX0
  have HLf := Lib.hid (fun (W : World) (hW : RDoc W a c ae ce s) => rleftd_any W hW hg)
  have hRD := Lib.hid h
  have hlE : s.left = s.endN - s.at_ := rfl
  have hge := hg.end_le
  have hgn := hg.n
  have hgl := hg.le
  have hfit : s.at_ + 4 ≤ s.n := fit4 hg hz
  obtain ⟨Z, hZ, w1, w2, w3, w4, w5, w6, w7⟩ := four_facts hfit hg.n h.le
  have ⟨l1, l2⟩ := sub_four hz (left_le hg)
  have i1 : decide ((s.left : Int) < 4) = false := decide_eq_false (ltI hz)
  have i2 : ¬ (s.left : Int) < 4 := ltI hz
  have i3 : ¬ s.left < 4 := hz
  obtain ⟨bb, bo, rfl, hbb⟩ : ∃ bb bo, a = some ⟨bb, bo, none⟩ ∧ bb < w.heap.size := row_form h.body hfit
  have hRw := Lib.hid (Row.shift h.body s.at_ 4 hfit)
  have HNu := (fun W (hW : Row W (some ⟨bb, bo + s.at_, none⟩) 4 (shiftF s.at_ s.f)) => rnumber_any (some ⟨bb, bo + s.at_, none⟩) 4 (c - s.at_) (shiftF s.at_ s.f) W hW (by decide))
  rw [hX0.out] at HNu
  replace HNu := Lib.hid HNu
  clear hX0
  have j1 : decide ((X : Int) > n) = false := decide_eq_false hm
  have j3 := gt_no4 ht
  have j4 := Lib.hid ht
  have hZX : Z + X ≤ s.n := fit_all hlE hge hz ht hZ
  obtain ⟨V, U, hVV, hUU, e1, e2, e3, e4, e5, e6, e7, e8, e9, e10⟩ := end_facts hZX hg.n h.le
  have ⟨f1, f2⟩ := at_facts (A := s.at_) (V := V) (U := U) (X := X) (by rw [hVV, hZ]) hUU (by rw [hVV]; exact Nat.le_trans hZX hgn)
  have hX00 : X = 0 := fit_none hZX h.le (hcz.trans hZ.symm)
  obtain ⟨S2, hS2⟩ : ∃ S2, s.bytesS = S2 := ⟨_, rfl⟩
  have hsn : S2.n = s.n := by rw [← hS2]; unfold RS.bytesS; exact adv2_n s _
  have hso : S2.op = s.op := by rw [← hS2]; unfold RS.bytesS; exact adv2_op s _
  have hsa : S2.at_ = V := by rw [← hS2, hVV, hZ]; unfold RS.bytesS; exact adv2_at s _ X hXX.out
  rw [hS2]
  replace hS2 := Lib.hid hS2
  replace hVV := Lib.hid hVV
  replace hUU := Lib.hid hUU
  clear hZX
  replace hX00 := Lib.hid hX00
  unfold rdV putV at *
  rw [hsn, hso, hsa]
  clear hsn hso hsa
  rw [← hZ] at hcz
  subst hcz
  rw [w7] at HNu
  clear hg h hfit hlE hge hgn hgl
  generalize s.left = L at *
  replace hZ := Lib.hid hZ
  go_enter Try.func20, Try.ntmps20
  go_upto_region 1 with (fail)
  generalize ((((w.alloc (.cells #[.slice (some ⟨bb, bo, none⟩) s.n c, .int .i64 (s.at_ : Nat), .slice ae (s.op + 1) ce] 48)).alloc (.cells #[.int .i64 5, .int .i64 n, .slice pa len cap] 32)).alloc (.cells #[.slice none 0 0, .int .i64 0, .slice none 0 0] 48)).alloc (.cells #[.int .i64 0, .slice none 0 0, .int .i64 0] 50)) = W0 at *
  have x0 := hX.cell 0
  have x1 := hX.cell 1
  have x2 := hX.cell 2
  have y0 := hY.cell 0
  simp only [List.getElem?_toArray, List.getElem?_cons_zero, List.getElem?_cons_succ] at x0 x1 x2 y0
  go_wp2_with fail
  refine (HLf.out _ (hRD.out.below hB)).mono ?_
  rintro e W1 ⟨rfl, hB1⟩
  clear x0 x1 x2 y0
  replace hX := hX.below hB1 hX.lt
  replace hY := hY.below hB1 hY.lt
  replace hU := hU.below hB1 hU.lt
  replace hV := hV.below hB1 hV.lt
  have hB := hB.trans (hB1.mono hB.size)
  clear hB1
  have x0 := hX.cell 0
  have x1 := hX.cell 1
  have x2 := hX.cell 2
  simp only [List.getElem?_toArray, List.getElem?_cons_zero, List.getElem?_cons_succ] at x0 x1 x2
  have y0 := hY.cell 0
  have y1 := hY.cell 1
  simp only [List.getElem?_toArray, List.getElem?_cons_zero, List.getElem?_cons_succ] at y0 y1
  go_wp2_with fail
  refine (HNu.out _ (hRw.out.below hB)).mono ?_
  rintro e W2 ⟨rfl, rfl⟩
  clear HNu hRw
  go_wp2_with fail
  refine (HLf.out _ (hRD.out.below hB)).mono ?_
  rintro e W3 ⟨rfl, hB1⟩
  clear x0 x1 x2 y0 y1
  replace hX := hX.below hB1 hX.lt
  replace hY := hY.below hB1 hY.lt
  replace hU := hU.below hB1 hU.lt
  replace hV := hV.below hB1 hV.lt
  replace hB := hB.trans (hB1.mono hB.size)
  clear hB1 HLf
  have x0 := hX.cell 0
  have x1 := hX.cell 1
  have x2 := hX.cell 2
  simp only [List.getElem?_toArray, List.getElem?_cons_zero, List.getElem?_cons_succ] at x0 x1 x2
  have hfx := hX.free 1
  have hX2 := Lib.hid (hX.put 1 (.int .i64 (V : Nat)))
  have hU2 := Lib.hid (hU.away (p := ⟨w.heap.size, 1, none⟩) (by show w.heap.size + 1 + 1 ≠ w.heap.size; omega) (.int .i64 (V : Nat)))
  have hV2 := Lib.hid (hV.away (p := ⟨w.heap.size, 1, none⟩) (by show w.heap.size + 1 + 1 + 1 ≠ w.heap.size; omega) (.int .i64 (V : Nat)))
  have hB2 := Lib.hid (hB.setCell (p := ⟨w.heap.size, 1, none⟩) (Nat.le_refl _) (.int .i64 (V : Nat)))
  clear hX hY hU hV hB
  go_upto_region 22 with (fail)
  clear x0 x1 x2 hfx
  generalize W3.setCell ⟨w.heap.size, 1, none⟩ (.int .i64 (V : Nat)) = W4 at *
  have hX := hX2.out
  have hU := hU2.out
  have hV := hV2.out
  have hB := hB2.out
  clear hX2 hU2 hV2 hB2
  simp only [List.setIfInBounds_toArray, List.set_cons_zero, List.set_cons_succ] at hX
  have x0 := hX.cell 0
  have x1 := hX.cell 1
  have x2 := hX.cell 2
  simp only [List.getElem?_toArray, List.getElem?_cons_zero, List.getElem?_cons_succ] at x0 x1 x2
  have z0 := hU.cell 0
  have z1 := hU.cell 1
  have z2 := hU.cell 2
  have v0 := hV.cell 0
  have v1 := hV.cell 1
  have v2 := hV.cell 2
  simp only [List.getElem?_toArray, List.getElem?_cons_zero, List.getElem?_cons_succ] at z0 z1 z2 v0 v1 v2
  have g0 := hU.free 0
  have g1 := hU.free 1
  have g2 := hU.free 2
  have k0 := hV.free 0
  have k1 := hV.free 1
  have k2 := hV.free 2
  have fin := Lib.hid (rd_end hB hU hV (.slice (some ⟨bb, bo, none⟩) s.n c) (.int .i64 (V : Nat)) (.slice ae (s.op + 1) ce) (.int .i64 0) (.slice (some ⟨bb, bo, none⟩) X 0) (.int .i64 0))
  clear hX hU hV hB
  go_wp2_with fail
  exact bodyPost_ret (results_cells2 (fn := Try.f20) (p1 := 4) (p2 := 5) (ty1 := 48) (ty2 := 50) rfl _ _ _ _ _ _ _ _ (0, 0) (0, 0) _ _ rfl fin.out.1 Try.underlying48 rfl (by kernel_rfl) rfl fin.out.2.1 Try.underlying50 rfl (by kernel_rfl)) rfl ⟨_, _, _, _, rfl, by rw [← hS2.out]; exact ((hRD.out.below fin.out.2.2).adv 4).adv (s.num 4), by rw [hX00.out]; exact Row.nil _ _ _, fin.out.2.2, .inl rfl⟩
end Go.Proofs.Ytacnmnodbmbplaa
namespace Go.Proofs.Ytacnmnodbmbplaa
open Go.RowKit Go.Shelf
set_option maxRecDepth 100000
set_option maxHeartbeats 1000000
set_option linter.unusedVariables false

theorem rtk_5e {a ae : Option Addr} {c ce : Nat} {s : RS} (n : Int) (pa : Option Addr) (len cap : Nat) (w : World) (h : RDoc w a c ae ce s) (hg : s.Good) (hz : ¬ s.left < 4) (hm : ¬ n < (s.num 4 : Nat)) (ht : ¬ s.left - 4 < s.num 4) (hcz : c ≠ s.at_ + 4) :
    Calls Try.prog 20 #[rdV a c ae ce s, putV 5 n pa len cap] w fun e w' => ∃ ab cb ae' ce', e = .returned (.tuple #[rdV a c ae' ce' (s.step 5 n).s, tookV (s.step 5 n).N ab (s.step 5 n).len cb (s.step 5 n).E]) ∧ RDoc w' a c ae' ce' (s.step 5 n).s ∧ Row w' ab (s.step 5 n).len (s.step 5 n).g ∧ Below w.heap.size w w' ∧ NewRow w.heap.size w' ae ae' := by
  have hX := (((Whole.fresh w 48 #[.slice a s.n c, .int .i64 (s.at_ : Nat), .slice ae (s.op + 1) ce]).alloc (.cells #[.int .i64 5, .int .i64 n, .slice pa len cap] 32)).alloc (.cells #[.slice none 0 0, .int .i64 0, .slice none 0 0] 48)).alloc (.cells #[.int .i64 0, .slice none 0 0, .int .i64 0] 50)
  have hY := ((Whole.fresh (w.alloc (.cells #[.slice a s.n c, .int .i64 (s.at_ : Nat), .slice ae (s.op + 1) ce] 48)) 32 #[.int .i64 5, .int .i64 n, .slice pa len cap]).alloc (.cells #[.slice none 0 0, .int .i64 0, .slice none 0 0] 48)).alloc (.cells #[.int .i64 0, .slice none 0 0, .int .i64 0] 50)
  have hU := (Whole.fresh ((w.alloc (.cells #[.slice a s.n c, .int .i64 (s.at_ : Nat), .slice ae (s.op + 1) ce] 48)).alloc (.cells #[.int .i64 5, .int .i64 n, .slice pa len cap] 32)) 48 #[.slice none 0 0, .int .i64 0, .slice none 0 0]).alloc (.cells #[.int .i64 0, .slice none 0 0, .int .i64 0] 50)
  have hV := Whole.fresh (((w.alloc (.cells #[.slice a s.n c, .int .i64 (s.at_ : Nat), .slice ae (s.op + 1) ce] 48)).alloc (.cells #[.int .i64 5, .int .i64 n, .slice pa len cap] 32)).alloc (.cells #[.slice none 0 0, .int .i64 0, .slice none 0 0] 48)) 50 #[.int .i64 0, .slice none 0 0, .int .i64 0]
  have hB := ((((Below.refl w.heap.size w).alloc (Nat.le_refl _) (.cells #[.slice a s.n c, .int .i64 (s.at_ : Nat), .slice ae (s.op + 1) ce] 48)).alloc (by simp) (.cells #[.int .i64 5, .int .i64 n, .slice pa len cap] 32)).alloc (by simp; omega) (.cells #[.slice none 0 0, .int .i64 0, .slice none 0 0] 48)).alloc (by simp; omega) (.cells #[.int .i64 0, .slice none 0 0, .int .i64 0] 50)
  have hs1 : (w.alloc (.cells #[.slice a s.n c, .int .i64 (s.at_ : Nat), .slice ae (s.op + 1) ce] 48)).heap.size = w.heap.size + 1 := by simp
  have hs2 : ((w.alloc (.cells #[.slice a s.n c, .int .i64 (s.at_ : Nat), .slice ae (s.op + 1) ce] 48)).alloc (.cells #[.int .i64 5, .int .i64 n, .slice pa len cap] 32)).heap.size = w.heap.size + 1 + 1 := by simp
  have hs3 : (((w.alloc (.cells #[.slice a s.n c, .int .i64 (s.at_ : Nat), .slice ae (s.op + 1) ce] 48)).alloc (.cells #[.int .i64 5, .int .i64 n, .slice pa len cap] 32)).alloc (.cells #[.slice none 0 0, .int .i64 0, .slice none 0 0] 48)).heap.size = w.heap.size + 1 + 1 + 1 := by simp
  rw [hs1] at hY
  rw [hs2] at hU
  rw [hs3] at hV
  clear hs1 hs2 hs3
  have hE : s.bytesE n = 0 := by unfold RS.bytesE; rw [if_neg hz, if_neg hm, if_neg ht]
  have hstep : s.step 5 n = ⟨s.bytesS, 0, s.num 4, shiftF (s.at_ + 4) s.f, 0⟩ := by
    show (⟨if s.bytesE n = 0 then s.bytesS else s, 0, if s.bytesE n = 0 then s.num 4 else 0, shiftF (s.at_ + 4) s.f, s.bytesE n⟩ : Tk) = _
    rw [hE]; rfl
  rw [hstep]
  obtain ⟨X, hXX⟩ : ∃ X, s.num 4 = X := ⟨_, rfl⟩
  have hX0 : numN (shiftF s.at_ s.f) 4 = X := hXX
  rw [hXX] at hm ht ⊢
  clear hE hstep
  replace hXX := Lib.hid hXX
  have hXlt : X < 4294967296 := num4_lt hX0 (h.body.1) (fit4 hg hz)
  have ⟨x1w, x2w⟩ := w64_small hXlt
  clear hXlt
  replace hX0 := Lib.hid hX0
  have HLf := Lib.hid (fun (W : World) (hW : RDoc W a c ae ce s) => rleftd_any W hW hg)
  have hRD := Lib.hid h
  have hlE : s.left = s.endN - s.at_ := rfl
  have hge := hg.end_le
  have hgn := hg.n
  have hgl := hg.le
  have hfit : s.at_ + 4 ≤ s.n := fit4 hg hz
  obtain ⟨Z, hZ, w1, w2, w3, w4, w5, w6, w7⟩ := four_facts hfit hg.n h.le
  have ⟨l1, l2⟩ := sub_four hz (left_le hg)
  have i1 : decide ((s.left : Int) < 4) = false := decide_eq_false (ltI hz)
  have i2 : ¬ (s.left : Int) < 4 := ltI hz
  have i3 : ¬ s.left < 4 := hz
  obtain ⟨bb, bo, rfl, hbb⟩ : ∃ bb bo, a = some ⟨bb, bo, none⟩ ∧ bb < w.heap.size := row_form h.body hfit
  have hRw := Lib.hid (Row.shift h.body s.at_ 4 hfit)
  have HNu := (fun W (hW : Row W (some ⟨bb, bo + s.at_, none⟩) 4 (shiftF s.at_ s.f)) => rnumber_any (some ⟨bb, bo + s.at_, none⟩) 4 (c - s.at_) (shiftF s.at_ s.f) W hW (by decide))
  rw [hX0.out] at HNu
  replace HNu := Lib.hid HNu
  clear hX0
  have j1 : decide ((X : Int) > n) = false := decide_eq_false hm
  have j3 := gt_no4 ht
  have j4 := Lib.hid ht
  have hZX : Z + X ≤ s.n := fit_all hlE hge hz ht hZ
  obtain ⟨V, U, hVV, hUU, e1, e2, e3, e4, e5, e6, e7, e8, e9, e10⟩ := end_facts hZX hg.n h.le
  have ⟨f1, f2⟩ := at_facts (A := s.at_) (V := V) (U := U) (X := X) (by rw [hVV, hZ]) hUU (by rw [hVV]; exact Nat.le_trans hZX hgn)
  have hcz' : ¬ c = Z := fun e => hcz (e.trans hZ)
  have hRow2 := Lib.hid (show Row w (some ⟨bb, bo + Z, none⟩) X (shiftF (s.at_ + 4) s.f) by rw [← hZ]; exact Row.shift h.body Z X hZX)
  obtain ⟨S2, hS2⟩ : ∃ S2, s.bytesS = S2 := ⟨_, rfl⟩
  have hsn : S2.n = s.n := by rw [← hS2]; unfold RS.bytesS; exact adv2_n s _
  have hso : S2.op = s.op := by rw [← hS2]; unfold RS.bytesS; exact adv2_op s _
  have hsa : S2.at_ = V := by rw [← hS2, hVV, hZ]; unfold RS.bytesS; exact adv2_at s _ X hXX.out
  rw [hS2]
  replace hS2 := Lib.hid hS2
  replace hVV := Lib.hid hVV
  replace hUU := Lib.hid hUU
  clear hZX
  unfold rdV putV at *
  rw [hsn, hso, hsa]
  clear hsn hso hsa
  clear hg h hfit hlE hge hgn hgl
  generalize s.left = L at *
  replace hZ := Lib.hid hZ
  go_enter Try.func20, Try.ntmps20
  go_upto_region 1 with (fail)
  generalize ((((w.alloc (.cells #[.slice (some ⟨bb, bo, none⟩) s.n c, .int .i64 (s.at_ : Nat), .slice ae (s.op + 1) ce] 48)).alloc (.cells #[.int .i64 5, .int .i64 n, .slice pa len cap] 32)).alloc (.cells #[.slice none 0 0, .int .i64 0, .slice none 0 0] 48)).alloc (.cells #[.int .i64 0, .slice none 0 0, .int .i64 0] 50)) = W0 at *
  have x0 := hX.cell 0
  have x1 := hX.cell 1
  have x2 := hX.cell 2
  have y0 := hY.cell 0
  simp only [List.getElem?_toArray, List.getElem?_cons_zero, List.getElem?_cons_succ] at x0 x1 x2 y0
  go_wp2_with fail
  refine (HLf.out _ (hRD.out.below hB)).mono ?_
  rintro e W1 ⟨rfl, hB1⟩
  clear x0 x1 x2 y0
  replace hX := hX.below hB1 hX.lt
  replace hY := hY.below hB1 hY.lt
  replace hU := hU.below hB1 hU.lt
  replace hV := hV.below hB1 hV.lt
  have hB := hB.trans (hB1.mono hB.size)
  clear hB1
  have x0 := hX.cell 0
  have x1 := hX.cell 1
  have x2 := hX.cell 2
  simp only [List.getElem?_toArray, List.getElem?_cons_zero, List.getElem?_cons_succ] at x0 x1 x2
  have y0 := hY.cell 0
  have y1 := hY.cell 1
  simp only [List.getElem?_toArray, List.getElem?_cons_zero, List.getElem?_cons_succ] at y0 y1
  go_wp2_with fail
  refine (HNu.out _ (hRw.out.below hB)).mono ?_
  rintro e W2 ⟨rfl, rfl⟩
  clear HNu hRw
  go_wp2_with fail
  refine (HLf.out _ (hRD.out.below hB)).mono ?_
  rintro e W3 ⟨rfl, hB1⟩
  clear x0 x1 x2 y0 y1
  replace hX := hX.below hB1 hX.lt
  replace hY := hY.below hB1 hY.lt
  replace hU := hU.below hB1 hU.lt
  replace hV := hV.below hB1 hV.lt
  replace hB := hB.trans (hB1.mono hB.size)
  clear hB1 HLf
  have x0 := hX.cell 0
  have x1 := hX.cell 1
  have x2 := hX.cell 2
  simp only [List.getElem?_toArray, List.getElem?_cons_zero, List.getElem?_cons_succ] at x0 x1 x2
  have hfx := hX.free 1
  have hX2 := Lib.hid (hX.put 1 (.int .i64 (V : Nat)))
  have hU2 := Lib.hid (hU.away (p := ⟨w.heap.size, 1, none⟩) (by show w.heap.size + 1 + 1 ≠ w.heap.size; omega) (.int .i64 (V : Nat)))
  have hV2 := Lib.hid (hV.away (p := ⟨w.heap.size, 1, none⟩) (by show w.heap.size + 1 + 1 + 1 ≠ w.heap.size; omega) (.int .i64 (V : Nat)))
  have hB2 := Lib.hid (hB.setCell (p := ⟨w.heap.size, 1, none⟩) (Nat.le_refl _) (.int .i64 (V : Nat)))
  clear hX hY hU hV hB
  go_upto_region 22 with (fail)
  clear x0 x1 x2 hfx
  generalize W3.setCell ⟨w.heap.size, 1, none⟩ (.int .i64 (V : Nat)) = W4 at *
  have hX := hX2.out
  have hU := hU2.out
  have hV := hV2.out
  have hB := hB2.out
  clear hX2 hU2 hV2 hB2
  simp only [List.setIfInBounds_toArray, List.set_cons_zero, List.set_cons_succ] at hX
  have x0 := hX.cell 0
  have x1 := hX.cell 1
  have x2 := hX.cell 2
  simp only [List.getElem?_toArray, List.getElem?_cons_zero, List.getElem?_cons_succ] at x0 x1 x2
  have z0 := hU.cell 0
  have z1 := hU.cell 1
  have z2 := hU.cell 2
  have v0 := hV.cell 0
  have v1 := hV.cell 1
  have v2 := hV.cell 2
  simp only [List.getElem?_toArray, List.getElem?_cons_zero, List.getElem?_cons_succ] at z0 z1 z2 v0 v1 v2
  have g0 := hU.free 0
  have g1 := hU.free 1
  have g2 := hU.free 2
  have k0 := hV.free 0
  have k1 := hV.free 1
  have k2 := hV.free 2
  have fin := Lib.hid (rd_end hB hU hV (.slice (some ⟨bb, bo, none⟩) s.n c) (.int .i64 (V : Nat)) (.slice ae (s.op + 1) ce) (.int .i64 0) (.slice (some ⟨bb, bo + Z, none⟩) X (c - Z)) (.int .i64 0))
  clear hX hU hV hB
  go_wp2_with fail
  exact bodyPost_ret (results_cells2 (fn := Try.f20) (p1 := 4) (p2 := 5) (ty1 := 48) (ty2 := 50) rfl _ _ _ _ _ _ _ _ (0, 0) (0, 0) _ _ rfl fin.out.1 Try.underlying48 rfl (by kernel_rfl) rfl fin.out.2.1 Try.underlying50 rfl (by kernel_rfl)) rfl ⟨_, _, _, _, rfl, by rw [← hS2.out]; exact ((hRD.out.below fin.out.2.2).adv 4).adv (s.num 4), (hRow2.out.below fin.out.2.2), fin.out.2.2, .inl rfl⟩
end Go.Proofs.Ytacnmnodbmbplaa
