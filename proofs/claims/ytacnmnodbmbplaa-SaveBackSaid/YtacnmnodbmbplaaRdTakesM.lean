/-
  A call to a reader, by the code.
-/
import Derived.Test.YtacnmnodbmbplaaRdC
import Derived.Test.YtacnmnodbmbplaaRDoesA
namespace Go.Proofs.Ytacnmnodbmbplaa
open Go.RowKit Go.Shelf
set_option maxRecDepth 100000
set_option maxHeartbeats 1000000

theorem grown_set {w W : World} {b x : Nat} (h : w.grownBy W (some b)) (hx : w.heap.size ≤ x) (i : Nat) (u : Value) : w.grownBy (W.setCell ⟨x, i, none⟩ u) (some b) :=
  ⟨h.os, h.tape, h.output, by simpa [World.setCell] using h.size, fun k hk hne => (Below.heap_setCell _ _ _ _ (by show k ≠ x; omega)).trans (h.block k hk hne)⟩
theorem grown_from {w W0 W1 : World} {b : Nat} (hB : Below w.heap.size w W0) (h : W0.grownBy W1 (some b)) : w.grownBy W1 (some b) :=
  ⟨h.os.trans hB.os, h.tape.trans hB.tape, h.output.trans hB.output, Nat.le_trans hB.size h.size, fun k hk hne => (h.block k (Nat.lt_of_lt_of_le hk hB.size) hne).trans (hB.block k hk)⟩
theorem OwnRow.none (B : Nat) (w : World) (g : Nat → Nat) : OwnRow B w Option.none 0 g := .inl ⟨rfl, rfl⟩
theorem w64_long {X : Nat} (h : X < 4294967297) : wrap64 (X : Int) = (X : Int) ∧ IntKind.i64.wrap (X : Int) = (X : Int) := ⟨by unfold wrap64; omega, by simp only [IntKind.wrap_i64]; omega⟩
theorem took_end {w W0 W1 : World} {b len : Nat} {v : Value} {s' : RS} {a : Option Addr} {g : Nat → Nat} (hB : Below w.heap.size w W0) (hs : W0.heap.size = w.heap.size + 1 + 1) (hbl : b < w.heap.size) (hol : ∀ x, v.ownBlock = some x → x < w.heap.size)
    (hR : Rd W1 b v s') (hG : W0.grownBy W1 (some b)) (hO : OwnRow W0.heap.size W1 a len g) (hnb : ∀ G, a = some G → G.block ≠ b) (u0 u1 u2 : Value) :
    OwnRow w.heap.size (((W1.setCell ⟨w.heap.size + 1, 0, none⟩ u0).setCell ⟨w.heap.size + 1, 1, none⟩ u1).setCell ⟨w.heap.size + 1, 2, none⟩ u2) a len g ∧ (∀ G, a = some G → G.block ≠ b) ∧
      Rd (((W1.setCell ⟨w.heap.size + 1, 0, none⟩ u0).setCell ⟨w.heap.size + 1, 1, none⟩ u1).setCell ⟨w.heap.size + 1, 2, none⟩ u2) b v s' ∧ w.grownBy (((W1.setCell ⟨w.heap.size + 1, 0, none⟩ u0).setCell ⟨w.heap.size + 1, 1, none⟩ u1).setCell ⟨w.heap.size + 1, 2, none⟩ u2) (some b) := by
  have hx : w.heap.size + 1 ≠ b := by omega
  have hv : v.ownBlock ≠ some (w.heap.size + 1) := fun e => by have := hol _ e; omega
  refine ⟨?_, hnb, ((hR.away hx hv 0 u0).away hx hv 1 u1).away hx hv 2 u2, grown_set (grown_set (grown_set (grown_from hB hG) (by omega) 0 u0) (by omega) 1 u1) (by omega) 2 u2⟩
  rcases hO with ⟨e, h0⟩ | ⟨G, e, hl, hH⟩
  · exact .inl ⟨e, h0⟩
  · exact .inr ⟨G, e, by omega, ((hH.away (p := ⟨w.heap.size + 1, 0, none⟩) (by show G ≠ w.heap.size + 1; omega) u0).away (p := ⟨w.heap.size + 1, 1, none⟩) (by show G ≠ w.heap.size + 1; omega) u1).away (p := ⟨w.heap.size + 1, 2, none⟩) (by show G ≠ w.heap.size + 1; omega) u2⟩
theorem takes_0n {b : Nat} {v : Value} {s : RS} (n : Int) (pa : Option Addr) (len cap : Nat) (w : World) (h : Rd w b v s) (hg : s.Good) (hz : s.left < 1) :
    Calls Try.prog 21 #[.pointer (some ⟨b, 0, none⟩), putV 0 n pa len cap] w fun e w' => ∃ a c, e = .returned (tookV (s.step 0 n).N a (s.step 0 n).len c (s.step 0 n).E) ∧ OwnRow w.heap.size w' a (s.step 0 n).len (s.step 0 n).g ∧ (∀ G, a = some G → G.block ≠ b) ∧ Rd w' b v (s.step 0 n).s ∧ w.grownBy w' (some b) := by
  have hS := Whole.fresh (w.alloc (.cells #[.int .i64 0, .int .i64 n, .slice pa len cap] 32)) 50 #[.int .i64 0, .slice none 0 0, .int .i64 0]
  have hB := ((Below.refl w.heap.size w).alloc (Nat.le_refl _) (.cells #[.int .i64 0, .int .i64 n, .slice pa len cap] 32)).alloc (by simp) (.cells #[.int .i64 0, .slice none 0 0, .int .i64 0] 50)
  have hP := (Whole.fresh w 32 #[.int .i64 0, .int .i64 n, .slice pa len cap]).alloc (.cells #[.int .i64 0, .slice none 0 0, .int .i64 0] 50)
  rw [World.size_alloc] at hS
  have hs2 : ((w.alloc (.cells #[.int .i64 0, .int .i64 n, .slice pa len cap] 32)).alloc (.cells #[.int .i64 0, .slice none 0 0, .int .i64 0] 50)).heap.size = w.heap.size + 1 + 1 := by simp
  have hbl := h.head.lt
  have hol := h.body.lt
  have h2 := h.below hB
  unfold putV
  have hstep : s.step 0 n = ⟨s, 0, 0, fun _ => 0, 56⟩ := (show s.step 0 n = s.stepN 1 from rfl).trans (if_pos hz)
  rw [hstep]
  have HC := Lib.hid (fun (W : World) (hW : Rd W b v s) => rbyte_no W hW hg hz)
  clear h hg hstep hz
  go_enter Try.func21, Try.ntmps21
  go_upto_region 1 with (fail)
  generalize (w.alloc (.cells #[.int .i64 0, .int .i64 n, .slice pa len cap] 32)).alloc (.cells #[.int .i64 0, .slice none 0 0, .int .i64 0] 50) = W0 at *
  have p0 := hP.cell 0
  simp only [List.getElem?_toArray, List.getElem?_cons_zero] at p0
  go_wp2_with fail
  refine (HC.out _ h2).mono ?_
  rintro e W1 ⟨rfl, hR, hG⟩
  have hS1 := hS.only hG (by omega)
  have f0 := hS1.free 0
  have f1 := hS1.free 1
  have f2 := hS1.free 2
  have c0 := hS1.cell 0
  have c1 := hS1.cell 1
  have c2 := hS1.cell 2
  simp only [List.getElem?_toArray, List.getElem?_cons_zero, List.getElem?_cons_succ] at c0 c1 c2
  have fin := Lib.hid (took_end hB hs2 hbl hol hR hG (OwnRow.none _ _ (fun _ => 0)) (fun G e => by cases e) (.int .i64 0) (.slice none 0 0) (.int .i64 ((56 : Nat) : Int)))
  replace hS1 := Lib.hid hS1
  clear HC hS hB hP hs2 hR hG p0 h2
  go_wp2_with fail
  exact bodyPost_ret (results_cell_row (fn := Try.f21) (p := 4) (ty := 50) rfl _ _ _ _ _ (0, 0) _ rfl (((hS1.out.put 0 _).put 1 _).put 2 _) Try.underlying50 rfl (by kernel_rfl)) rfl ⟨_, _, rfl, fin.out⟩
theorem takes_0y {b : Nat} {v : Value} {s : RS} (n : Int) (pa : Option Addr) (len cap : Nat) (w : World) (h : Rd w b v s) (hg : s.Good) (hz : 1 ≤ s.left) :
    Calls Try.prog 21 #[.pointer (some ⟨b, 0, none⟩), putV 0 n pa len cap] w fun e w' => ∃ a c, e = .returned (tookV (s.step 0 n).N a (s.step 0 n).len c (s.step 0 n).E) ∧ OwnRow w.heap.size w' a (s.step 0 n).len (s.step 0 n).g ∧ (∀ G, a = some G → G.block ≠ b) ∧ Rd w' b v (s.step 0 n).s ∧ w.grownBy w' (some b) := by
  have hS := Whole.fresh (w.alloc (.cells #[.int .i64 0, .int .i64 n, .slice pa len cap] 32)) 50 #[.int .i64 0, .slice none 0 0, .int .i64 0]
  have hB := ((Below.refl w.heap.size w).alloc (Nat.le_refl _) (.cells #[.int .i64 0, .int .i64 n, .slice pa len cap] 32)).alloc (by simp) (.cells #[.int .i64 0, .slice none 0 0, .int .i64 0] 50)
  have hP := (Whole.fresh w 32 #[.int .i64 0, .int .i64 n, .slice pa len cap]).alloc (.cells #[.int .i64 0, .slice none 0 0, .int .i64 0] 50)
  rw [World.size_alloc] at hS
  have hs2 : ((w.alloc (.cells #[.int .i64 0, .int .i64 n, .slice pa len cap] 32)).alloc (.cells #[.int .i64 0, .slice none 0 0, .int .i64 0] 50)).heap.size = w.heap.size + 1 + 1 := by simp
  have hbl := h.head.lt
  have hol := h.body.lt
  have h2 := h.below hB
  unfold putV
  have hstep : s.step 0 n = ⟨s.adv 1, wrap64 (s.num 1 : Nat), 0, fun _ => 0, 0⟩ := (show s.step 0 n = s.stepN 1 from rfl).trans (if_neg (by omega))
  rw [hstep]
  have hlt : s.num 1 < 256 := RS.num_lt h hg (z := 1) (by omega)
  have ⟨w1, w2⟩ := w64_long (X := s.num 1) (by omega)
  rw [w1]
  have HC := Lib.hid (fun (W : World) (hW : Rd W b v s) => rbyte_ok W hW hg hz)
  generalize s.num 1 = X at *
  clear h hg hstep hz hlt
  go_enter Try.func21, Try.ntmps21
  go_upto_region 1 with (fail)
  generalize (w.alloc (.cells #[.int .i64 0, .int .i64 n, .slice pa len cap] 32)).alloc (.cells #[.int .i64 0, .slice none 0 0, .int .i64 0] 50) = W0 at *
  have p0 := hP.cell 0
  simp only [List.getElem?_toArray, List.getElem?_cons_zero] at p0
  go_wp2_with fail
  refine (HC.out _ h2).mono ?_
  rintro e W1 ⟨rfl, hR, hG⟩
  have hS1 := hS.only hG (by omega)
  have f0 := hS1.free 0
  have f1 := hS1.free 1
  have f2 := hS1.free 2
  have c0 := hS1.cell 0
  have c1 := hS1.cell 1
  have c2 := hS1.cell 2
  simp only [List.getElem?_toArray, List.getElem?_cons_zero, List.getElem?_cons_succ] at c0 c1 c2
  have fin := Lib.hid (took_end hB hs2 hbl hol hR hG (OwnRow.none _ _ (fun _ => 0)) (fun G e => by cases e) (.int .i64 (X : Nat)) (.slice none 0 0) (.int .i64 ((0 : Nat) : Int)))
  replace hS1 := Lib.hid hS1
  clear HC hS hB hP hs2 hR hG p0 h2
  go_wp2_with fail
  exact bodyPost_ret (results_cell_row (fn := Try.f21) (p := 4) (ty := 50) rfl _ _ _ _ _ (0, 0) _ rfl (((hS1.out.put 0 _).put 1 _).put 2 _) Try.underlying50 rfl (by kernel_rfl)) rfl ⟨_, _, rfl, fin.out⟩
theorem takes_1n {b : Nat} {v : Value} {s : RS} (n : Int) (pa : Option Addr) (len cap : Nat) (w : World) (h : Rd w b v s) (hg : s.Good) (hz : s.left < 2) :
    Calls Try.prog 21 #[.pointer (some ⟨b, 0, none⟩), putV 1 n pa len cap] w fun e w' => ∃ a c, e = .returned (tookV (s.step 1 n).N a (s.step 1 n).len c (s.step 1 n).E) ∧ OwnRow w.heap.size w' a (s.step 1 n).len (s.step 1 n).g ∧ (∀ G, a = some G → G.block ≠ b) ∧ Rd w' b v (s.step 1 n).s ∧ w.grownBy w' (some b) := by
  have hS := Whole.fresh (w.alloc (.cells #[.int .i64 1, .int .i64 n, .slice pa len cap] 32)) 50 #[.int .i64 0, .slice none 0 0, .int .i64 0]
  have hB := ((Below.refl w.heap.size w).alloc (Nat.le_refl _) (.cells #[.int .i64 1, .int .i64 n, .slice pa len cap] 32)).alloc (by simp) (.cells #[.int .i64 0, .slice none 0 0, .int .i64 0] 50)
  have hP := (Whole.fresh w 32 #[.int .i64 1, .int .i64 n, .slice pa len cap]).alloc (.cells #[.int .i64 0, .slice none 0 0, .int .i64 0] 50)
  rw [World.size_alloc] at hS
  have hs2 : ((w.alloc (.cells #[.int .i64 1, .int .i64 n, .slice pa len cap] 32)).alloc (.cells #[.int .i64 0, .slice none 0 0, .int .i64 0] 50)).heap.size = w.heap.size + 1 + 1 := by simp
  have hbl := h.head.lt
  have hol := h.body.lt
  have h2 := h.below hB
  unfold putV
  have hstep : s.step 1 n = ⟨s, 0, 0, fun _ => 0, 56⟩ := (show s.step 1 n = s.stepN 2 from rfl).trans (if_pos hz)
  rw [hstep]
  have HC := Lib.hid (fun (W : World) (hW : Rd W b v s) => rword_no W hW hg hz)
  clear h hg hstep hz
  go_enter Try.func21, Try.ntmps21
  go_upto_region 1 with (fail)
  generalize (w.alloc (.cells #[.int .i64 1, .int .i64 n, .slice pa len cap] 32)).alloc (.cells #[.int .i64 0, .slice none 0 0, .int .i64 0] 50) = W0 at *
  have p0 := hP.cell 0
  simp only [List.getElem?_toArray, List.getElem?_cons_zero] at p0
  go_wp2_with fail
  refine (HC.out _ h2).mono ?_
  rintro e W1 ⟨rfl, hR, hG⟩
  have hS1 := hS.only hG (by omega)
  have f0 := hS1.free 0
  have f1 := hS1.free 1
  have f2 := hS1.free 2
  have c0 := hS1.cell 0
  have c1 := hS1.cell 1
  have c2 := hS1.cell 2
  simp only [List.getElem?_toArray, List.getElem?_cons_zero, List.getElem?_cons_succ] at c0 c1 c2
  have fin := Lib.hid (took_end hB hs2 hbl hol hR hG (OwnRow.none _ _ (fun _ => 0)) (fun G e => by cases e) (.int .i64 0) (.slice none 0 0) (.int .i64 ((56 : Nat) : Int)))
  replace hS1 := Lib.hid hS1
  clear HC hS hB hP hs2 hR hG p0 h2
  go_wp2_with fail
  exact bodyPost_ret (results_cell_row (fn := Try.f21) (p := 4) (ty := 50) rfl _ _ _ _ _ (0, 0) _ rfl (((hS1.out.put 0 _).put 1 _).put 2 _) Try.underlying50 rfl (by kernel_rfl)) rfl ⟨_, _, rfl, fin.out⟩
theorem takes_1y {b : Nat} {v : Value} {s : RS} (n : Int) (pa : Option Addr) (len cap : Nat) (w : World) (h : Rd w b v s) (hg : s.Good) (hz : 2 ≤ s.left) :
    Calls Try.prog 21 #[.pointer (some ⟨b, 0, none⟩), putV 1 n pa len cap] w fun e w' => ∃ a c, e = .returned (tookV (s.step 1 n).N a (s.step 1 n).len c (s.step 1 n).E) ∧ OwnRow w.heap.size w' a (s.step 1 n).len (s.step 1 n).g ∧ (∀ G, a = some G → G.block ≠ b) ∧ Rd w' b v (s.step 1 n).s ∧ w.grownBy w' (some b) := by
  have hS := Whole.fresh (w.alloc (.cells #[.int .i64 1, .int .i64 n, .slice pa len cap] 32)) 50 #[.int .i64 0, .slice none 0 0, .int .i64 0]
  have hB := ((Below.refl w.heap.size w).alloc (Nat.le_refl _) (.cells #[.int .i64 1, .int .i64 n, .slice pa len cap] 32)).alloc (by simp) (.cells #[.int .i64 0, .slice none 0 0, .int .i64 0] 50)
  have hP := (Whole.fresh w 32 #[.int .i64 1, .int .i64 n, .slice pa len cap]).alloc (.cells #[.int .i64 0, .slice none 0 0, .int .i64 0] 50)
  rw [World.size_alloc] at hS
  have hs2 : ((w.alloc (.cells #[.int .i64 1, .int .i64 n, .slice pa len cap] 32)).alloc (.cells #[.int .i64 0, .slice none 0 0, .int .i64 0] 50)).heap.size = w.heap.size + 1 + 1 := by simp
  have hbl := h.head.lt
  have hol := h.body.lt
  have h2 := h.below hB
  unfold putV
  have hstep : s.step 1 n = ⟨s.adv 2, wrap64 (s.num 2 : Nat), 0, fun _ => 0, 0⟩ := (show s.step 1 n = s.stepN 2 from rfl).trans (if_neg (by omega))
  rw [hstep]
  have hlt : s.num 2 < 65536 := RS.num_lt h hg (z := 2) (by omega)
  have ⟨w1, w2⟩ := w64_long (X := s.num 2) (by omega)
  rw [w1]
  have HC := Lib.hid (fun (W : World) (hW : Rd W b v s) => rword_ok W hW hg hz)
  generalize s.num 2 = X at *
  clear h hg hstep hz hlt
  go_enter Try.func21, Try.ntmps21
  go_upto_region 1 with (fail)
  generalize (w.alloc (.cells #[.int .i64 1, .int .i64 n, .slice pa len cap] 32)).alloc (.cells #[.int .i64 0, .slice none 0 0, .int .i64 0] 50) = W0 at *
  have p0 := hP.cell 0
  simp only [List.getElem?_toArray, List.getElem?_cons_zero] at p0
  go_wp2_with fail
  refine (HC.out _ h2).mono ?_
  rintro e W1 ⟨rfl, hR, hG⟩
  have hS1 := hS.only hG (by omega)
  have f0 := hS1.free 0
  have f1 := hS1.free 1
  have f2 := hS1.free 2
  have c0 := hS1.cell 0
  have c1 := hS1.cell 1
  have c2 := hS1.cell 2
  simp only [List.getElem?_toArray, List.getElem?_cons_zero, List.getElem?_cons_succ] at c0 c1 c2
  have fin := Lib.hid (took_end hB hs2 hbl hol hR hG (OwnRow.none _ _ (fun _ => 0)) (fun G e => by cases e) (.int .i64 (X : Nat)) (.slice none 0 0) (.int .i64 ((0 : Nat) : Int)))
  replace hS1 := Lib.hid hS1
  clear HC hS hB hP hs2 hR hG p0 h2
  go_wp2_with fail
  exact bodyPost_ret (results_cell_row (fn := Try.f21) (p := 4) (ty := 50) rfl _ _ _ _ _ (0, 0) _ rfl (((hS1.out.put 0 _).put 1 _).put 2 _) Try.underlying50 rfl (by kernel_rfl)) rfl ⟨_, _, rfl, fin.out⟩
theorem takes_2n {b : Nat} {v : Value} {s : RS} (n : Int) (pa : Option Addr) (len cap : Nat) (w : World) (h : Rd w b v s) (hg : s.Good) (hz : s.left < 4) :
    Calls Try.prog 21 #[.pointer (some ⟨b, 0, none⟩), putV 2 n pa len cap] w fun e w' => ∃ a c, e = .returned (tookV (s.step 2 n).N a (s.step 2 n).len c (s.step 2 n).E) ∧ OwnRow w.heap.size w' a (s.step 2 n).len (s.step 2 n).g ∧ (∀ G, a = some G → G.block ≠ b) ∧ Rd w' b v (s.step 2 n).s ∧ w.grownBy w' (some b) := by
  have hS := Whole.fresh (w.alloc (.cells #[.int .i64 2, .int .i64 n, .slice pa len cap] 32)) 50 #[.int .i64 0, .slice none 0 0, .int .i64 0]
  have hB := ((Below.refl w.heap.size w).alloc (Nat.le_refl _) (.cells #[.int .i64 2, .int .i64 n, .slice pa len cap] 32)).alloc (by simp) (.cells #[.int .i64 0, .slice none 0 0, .int .i64 0] 50)
  have hP := (Whole.fresh w 32 #[.int .i64 2, .int .i64 n, .slice pa len cap]).alloc (.cells #[.int .i64 0, .slice none 0 0, .int .i64 0] 50)
  rw [World.size_alloc] at hS
  have hs2 : ((w.alloc (.cells #[.int .i64 2, .int .i64 n, .slice pa len cap] 32)).alloc (.cells #[.int .i64 0, .slice none 0 0, .int .i64 0] 50)).heap.size = w.heap.size + 1 + 1 := by simp
  have hbl := h.head.lt
  have hol := h.body.lt
  have h2 := h.below hB
  unfold putV
  have hstep : s.step 2 n = ⟨s, 0, 0, fun _ => 0, 56⟩ := (show s.step 2 n = s.stepN 4 from rfl).trans (if_pos hz)
  rw [hstep]
  have HC := Lib.hid (fun (W : World) (hW : Rd W b v s) => rlong_no W hW hg hz)
  clear h hg hstep hz
  go_enter Try.func21, Try.ntmps21
  go_upto_region 1 with (fail)
  generalize (w.alloc (.cells #[.int .i64 2, .int .i64 n, .slice pa len cap] 32)).alloc (.cells #[.int .i64 0, .slice none 0 0, .int .i64 0] 50) = W0 at *
  have p0 := hP.cell 0
  simp only [List.getElem?_toArray, List.getElem?_cons_zero] at p0
  go_wp2_with fail
  refine (HC.out _ h2).mono ?_
  rintro e W1 ⟨rfl, hR, hG⟩
  have hS1 := hS.only hG (by omega)
  have f0 := hS1.free 0
  have f1 := hS1.free 1
  have f2 := hS1.free 2
  have c0 := hS1.cell 0
  have c1 := hS1.cell 1
  have c2 := hS1.cell 2
  simp only [List.getElem?_toArray, List.getElem?_cons_zero, List.getElem?_cons_succ] at c0 c1 c2
  have fin := Lib.hid (took_end hB hs2 hbl hol hR hG (OwnRow.none _ _ (fun _ => 0)) (fun G e => by cases e) (.int .i64 0) (.slice none 0 0) (.int .i64 ((56 : Nat) : Int)))
  replace hS1 := Lib.hid hS1
  clear HC hS hB hP hs2 hR hG p0 h2
  go_wp2_with fail
  exact bodyPost_ret (results_cell_row (fn := Try.f21) (p := 4) (ty := 50) rfl _ _ _ _ _ (0, 0) _ rfl (((hS1.out.put 0 _).put 1 _).put 2 _) Try.underlying50 rfl (by kernel_rfl)) rfl ⟨_, _, rfl, fin.out⟩
theorem takes_2y {b : Nat} {v : Value} {s : RS} (n : Int) (pa : Option Addr) (len cap : Nat) (w : World) (h : Rd w b v s) (hg : s.Good) (hz : 4 ≤ s.left) :
    Calls Try.prog 21 #[.pointer (some ⟨b, 0, none⟩), putV 2 n pa len cap] w fun e w' => ∃ a c, e = .returned (tookV (s.step 2 n).N a (s.step 2 n).len c (s.step 2 n).E) ∧ OwnRow w.heap.size w' a (s.step 2 n).len (s.step 2 n).g ∧ (∀ G, a = some G → G.block ≠ b) ∧ Rd w' b v (s.step 2 n).s ∧ w.grownBy w' (some b) := by
  have hS := Whole.fresh (w.alloc (.cells #[.int .i64 2, .int .i64 n, .slice pa len cap] 32)) 50 #[.int .i64 0, .slice none 0 0, .int .i64 0]
  have hB := ((Below.refl w.heap.size w).alloc (Nat.le_refl _) (.cells #[.int .i64 2, .int .i64 n, .slice pa len cap] 32)).alloc (by simp) (.cells #[.int .i64 0, .slice none 0 0, .int .i64 0] 50)
  have hP := (Whole.fresh w 32 #[.int .i64 2, .int .i64 n, .slice pa len cap]).alloc (.cells #[.int .i64 0, .slice none 0 0, .int .i64 0] 50)
  rw [World.size_alloc] at hS
  have hs2 : ((w.alloc (.cells #[.int .i64 2, .int .i64 n, .slice pa len cap] 32)).alloc (.cells #[.int .i64 0, .slice none 0 0, .int .i64 0] 50)).heap.size = w.heap.size + 1 + 1 := by simp
  have hbl := h.head.lt
  have hol := h.body.lt
  have h2 := h.below hB
  unfold putV
  have hstep : s.step 2 n = ⟨s.adv 4, wrap64 (s.num 4 : Nat), 0, fun _ => 0, 0⟩ := (show s.step 2 n = s.stepN 4 from rfl).trans (if_neg (by omega))
  rw [hstep]
  have hlt : s.num 4 < 4294967296 := RS.num_lt h hg (z := 4) (by omega)
  have ⟨w1, w2⟩ := w64_long (X := s.num 4) (by omega)
  rw [w1]
  have HC := Lib.hid (fun (W : World) (hW : Rd W b v s) => rlong_ok W hW hg hz)
  generalize s.num 4 = X at *
  clear h hg hstep hz hlt
  go_enter Try.func21, Try.ntmps21
  go_upto_region 1 with (fail)
  generalize (w.alloc (.cells #[.int .i64 2, .int .i64 n, .slice pa len cap] 32)).alloc (.cells #[.int .i64 0, .slice none 0 0, .int .i64 0] 50) = W0 at *
  have p0 := hP.cell 0
  simp only [List.getElem?_toArray, List.getElem?_cons_zero] at p0
  go_wp2_with fail
  refine (HC.out _ h2).mono ?_
  rintro e W1 ⟨rfl, hR, hG⟩
  have hS1 := hS.only hG (by omega)
  have f0 := hS1.free 0
  have f1 := hS1.free 1
  have f2 := hS1.free 2
  have c0 := hS1.cell 0
  have c1 := hS1.cell 1
  have c2 := hS1.cell 2
  simp only [List.getElem?_toArray, List.getElem?_cons_zero, List.getElem?_cons_succ] at c0 c1 c2
  have fin := Lib.hid (took_end hB hs2 hbl hol hR hG (OwnRow.none _ _ (fun _ => 0)) (fun G e => by cases e) (.int .i64 (X : Nat)) (.slice none 0 0) (.int .i64 ((0 : Nat) : Int)))
  replace hS1 := Lib.hid hS1
  clear HC hS hB hP hs2 hR hG p0 h2
  go_wp2_with fail
  exact bodyPost_ret (results_cell_row (fn := Try.f21) (p := 4) (ty := 50) rfl _ _ _ _ _ (0, 0) _ rfl (((hS1.out.put 0 _).put 1 _).put 2 _) Try.underlying50 rfl (by kernel_rfl)) rfl ⟨_, _, rfl, fin.out⟩
theorem takes_3n {b : Nat} {v : Value} {s : RS} (n : Int) (pa : Option Addr) (len cap : Nat) (w : World) (h : Rd w b v s) (hg : s.Good) (hz : s.left < 8) :
    Calls Try.prog 21 #[.pointer (some ⟨b, 0, none⟩), putV 3 n pa len cap] w fun e w' => ∃ a c, e = .returned (tookV (s.step 3 n).N a (s.step 3 n).len c (s.step 3 n).E) ∧ OwnRow w.heap.size w' a (s.step 3 n).len (s.step 3 n).g ∧ (∀ G, a = some G → G.block ≠ b) ∧ Rd w' b v (s.step 3 n).s ∧ w.grownBy w' (some b) := by
  have hS := Whole.fresh (w.alloc (.cells #[.int .i64 3, .int .i64 n, .slice pa len cap] 32)) 50 #[.int .i64 0, .slice none 0 0, .int .i64 0]
  have hB := ((Below.refl w.heap.size w).alloc (Nat.le_refl _) (.cells #[.int .i64 3, .int .i64 n, .slice pa len cap] 32)).alloc (by simp) (.cells #[.int .i64 0, .slice none 0 0, .int .i64 0] 50)
  have hP := (Whole.fresh w 32 #[.int .i64 3, .int .i64 n, .slice pa len cap]).alloc (.cells #[.int .i64 0, .slice none 0 0, .int .i64 0] 50)
  rw [World.size_alloc] at hS
  have hs2 : ((w.alloc (.cells #[.int .i64 3, .int .i64 n, .slice pa len cap] 32)).alloc (.cells #[.int .i64 0, .slice none 0 0, .int .i64 0] 50)).heap.size = w.heap.size + 1 + 1 := by simp
  have hbl := h.head.lt
  have hol := h.body.lt
  have h2 := h.below hB
  unfold putV
  have hstep : s.step 3 n = ⟨s, 0, 0, fun _ => 0, 56⟩ := (show s.step 3 n = s.stepN 8 from rfl).trans (if_pos hz)
  rw [hstep]
  have HC := Lib.hid (fun (W : World) (hW : Rd W b v s) => rnumber_no W hW hg hz)
  clear h hg hstep hz
  go_enter Try.func21, Try.ntmps21
  go_upto_region 1 with (fail)
  generalize (w.alloc (.cells #[.int .i64 3, .int .i64 n, .slice pa len cap] 32)).alloc (.cells #[.int .i64 0, .slice none 0 0, .int .i64 0] 50) = W0 at *
  have p0 := hP.cell 0
  simp only [List.getElem?_toArray, List.getElem?_cons_zero] at p0
  go_wp2_with fail
  refine (HC.out _ h2).mono ?_
  rintro e W1 ⟨rfl, hR, hG⟩
  have hS1 := hS.only hG (by omega)
  have f0 := hS1.free 0
  have f1 := hS1.free 1
  have f2 := hS1.free 2
  have c0 := hS1.cell 0
  have c1 := hS1.cell 1
  have c2 := hS1.cell 2
  simp only [List.getElem?_toArray, List.getElem?_cons_zero, List.getElem?_cons_succ] at c0 c1 c2
  have fin := Lib.hid (took_end hB hs2 hbl hol hR hG (OwnRow.none _ _ (fun _ => 0)) (fun G e => by cases e) (.int .i64 0) (.slice none 0 0) (.int .i64 ((56 : Nat) : Int)))
  replace hS1 := Lib.hid hS1
  clear HC hS hB hP hs2 hR hG p0 h2
  go_wp2_with fail
  exact bodyPost_ret (results_cell_row (fn := Try.f21) (p := 4) (ty := 50) rfl _ _ _ _ _ (0, 0) _ rfl (((hS1.out.put 0 _).put 1 _).put 2 _) Try.underlying50 rfl (by kernel_rfl)) rfl ⟨_, _, rfl, fin.out⟩
theorem takes_3y {b : Nat} {v : Value} {s : RS} (n : Int) (pa : Option Addr) (len cap : Nat) (w : World) (h : Rd w b v s) (hg : s.Good) (hz : 8 ≤ s.left) :
    Calls Try.prog 21 #[.pointer (some ⟨b, 0, none⟩), putV 3 n pa len cap] w fun e w' => ∃ a c, e = .returned (tookV (s.step 3 n).N a (s.step 3 n).len c (s.step 3 n).E) ∧ OwnRow w.heap.size w' a (s.step 3 n).len (s.step 3 n).g ∧ (∀ G, a = some G → G.block ≠ b) ∧ Rd w' b v (s.step 3 n).s ∧ w.grownBy w' (some b) := by
  have hS := Whole.fresh (w.alloc (.cells #[.int .i64 3, .int .i64 n, .slice pa len cap] 32)) 50 #[.int .i64 0, .slice none 0 0, .int .i64 0]
  have hB := ((Below.refl w.heap.size w).alloc (Nat.le_refl _) (.cells #[.int .i64 3, .int .i64 n, .slice pa len cap] 32)).alloc (by simp) (.cells #[.int .i64 0, .slice none 0 0, .int .i64 0] 50)
  have hP := (Whole.fresh w 32 #[.int .i64 3, .int .i64 n, .slice pa len cap]).alloc (.cells #[.int .i64 0, .slice none 0 0, .int .i64 0] 50)
  rw [World.size_alloc] at hS
  have hs2 : ((w.alloc (.cells #[.int .i64 3, .int .i64 n, .slice pa len cap] 32)).alloc (.cells #[.int .i64 0, .slice none 0 0, .int .i64 0] 50)).heap.size = w.heap.size + 1 + 1 := by simp
  have hbl := h.head.lt
  have hol := h.body.lt
  have h2 := h.below hB
  unfold putV
  have hstep : s.step 3 n = ⟨s.adv 8, wrap64 (s.num 8 : Nat), 0, fun _ => 0, 0⟩ := (show s.step 3 n = s.stepN 8 from rfl).trans (if_neg (by omega))
  rw [hstep]
  have HC := Lib.hid (fun (W : World) (hW : Rd W b v s) => rnumber_ok W hW hg hz)
  generalize s.num 8 = X at *
  clear h hg hstep hz
  go_enter Try.func21, Try.ntmps21
  go_upto_region 1 with (fail)
  generalize (w.alloc (.cells #[.int .i64 3, .int .i64 n, .slice pa len cap] 32)).alloc (.cells #[.int .i64 0, .slice none 0 0, .int .i64 0] 50) = W0 at *
  have p0 := hP.cell 0
  simp only [List.getElem?_toArray, List.getElem?_cons_zero] at p0
  go_wp2_with fail
  refine (HC.out _ h2).mono ?_
  rintro e W1 ⟨rfl, hR, hG⟩
  have hS1 := hS.only hG (by omega)
  have f0 := hS1.free 0
  have f1 := hS1.free 1
  have f2 := hS1.free 2
  have c0 := hS1.cell 0
  have c1 := hS1.cell 1
  have c2 := hS1.cell 2
  simp only [List.getElem?_toArray, List.getElem?_cons_zero, List.getElem?_cons_succ] at c0 c1 c2
  have fin := Lib.hid (took_end hB hs2 hbl hol hR hG (OwnRow.none _ _ (fun _ => 0)) (fun G e => by cases e) (.int .i64 (wrap64 (X : Nat))) (.slice none 0 0) (.int .i64 ((0 : Nat) : Int)))
  replace hS1 := Lib.hid hS1
  clear HC hS hB hP hs2 hR hG p0 h2
  go_wp2_with fail
  exact bodyPost_ret (results_cell_row (fn := Try.f21) (p := 4) (ty := 50) rfl _ _ _ _ _ (0, 0) _ rfl (((hS1.out.put 0 _).put 1 _).put 2 _) Try.underlying50 rfl (by kernel_rfl)) rfl ⟨_, _, rfl, fin.out⟩
theorem takes_5 {b : Nat} {v : Value} {s : RS} (n : Int) (pa : Option Addr) (len cap : Nat) (w : World) (h : Rd w b v s) (hg : s.Good) :
    Calls Try.prog 21 #[.pointer (some ⟨b, 0, none⟩), putV 5 n pa len cap] w fun e w' => ∃ a c, e = .returned (tookV (s.step 5 n).N a (s.step 5 n).len c (s.step 5 n).E) ∧ OwnRow w.heap.size w' a (s.step 5 n).len (s.step 5 n).g ∧ (∀ G, a = some G → G.block ≠ b) ∧ Rd w' b v (s.step 5 n).s ∧ w.grownBy w' (some b) := by
  have hS := Whole.fresh (w.alloc (.cells #[.int .i64 5, .int .i64 n, .slice pa len cap] 32)) 50 #[.int .i64 0, .slice none 0 0, .int .i64 0]
  have hB := ((Below.refl w.heap.size w).alloc (Nat.le_refl _) (.cells #[.int .i64 5, .int .i64 n, .slice pa len cap] 32)).alloc (by simp) (.cells #[.int .i64 0, .slice none 0 0, .int .i64 0] 50)
  have hP := (Whole.fresh w 32 #[.int .i64 5, .int .i64 n, .slice pa len cap]).alloc (.cells #[.int .i64 0, .slice none 0 0, .int .i64 0] 50)
  rw [World.size_alloc] at hS
  have hs2 : ((w.alloc (.cells #[.int .i64 5, .int .i64 n, .slice pa len cap] 32)).alloc (.cells #[.int .i64 0, .slice none 0 0, .int .i64 0] 50)).heap.size = w.heap.size + 1 + 1 := by simp
  have hbl := h.head.lt
  have hol := h.body.lt
  have h2 := h.below hB
  unfold putV
  have hstep : s.step 5 n = ⟨if s.bytesE n = 0 then s.bytesS else s, 0, if s.bytesE n = 0 then s.num 4 else 0, shiftF (s.at_ + 4) s.f, s.bytesE n⟩ := rfl
  rw [hstep]
  have HC := Lib.hid (fun (W : World) (hW : Rd W b v s) => rbytes_any n W hW hg)
  generalize s.bytesE n = E at *
  generalize (if E = 0 then s.bytesS else s) = S2 at *
  generalize (if E = 0 then s.num 4 else 0) = L at *
  clear h hg hstep
  go_enter Try.func21, Try.ntmps21
  go_upto_region 1 with (fail)
  generalize (w.alloc (.cells #[.int .i64 5, .int .i64 n, .slice pa len cap] 32)).alloc (.cells #[.int .i64 0, .slice none 0 0, .int .i64 0] 50) = W0 at *
  have p0 := hP.cell 0
  simp only [List.getElem?_toArray, List.getElem?_cons_zero] at p0
  have p1 := hP.cell 1
  simp only [List.getElem?_toArray, List.getElem?_cons_zero, List.getElem?_cons_succ] at p1
  go_wp2_with fail
  refine (HC.out _ h2).mono ?_
  rintro e W1 ⟨a, c, rfl, hO, hnb, hR, hG⟩
  have hS1 := hS.only hG (by omega)
  have f0 := hS1.free 0
  have f1 := hS1.free 1
  have f2 := hS1.free 2
  have c0 := hS1.cell 0
  have c1 := hS1.cell 1
  have c2 := hS1.cell 2
  simp only [List.getElem?_toArray, List.getElem?_cons_zero, List.getElem?_cons_succ] at c0 c1 c2
  have fin := Lib.hid (took_end hB hs2 hbl hol hR hG hO hnb (.int .i64 0) (.slice a L c) (.int .i64 (E : Nat)))
  replace hS1 := Lib.hid hS1
  clear HC hS hB hP hs2 hR hG p0 p1 h2 hO hnb
  go_wp2_with fail
  exact bodyPost_ret (results_cell_row (fn := Try.f21) (p := 4) (ty := 50) rfl _ _ _ _ _ (0, 0) _ rfl (((hS1.out.put 0 _).put 1 _).put 2 _) Try.underlying50 rfl (by kernel_rfl)) rfl ⟨_, _, rfl, fin.out⟩
theorem takes_6 {b : Nat} {v : Value} {s : RS} (n : Int) (pa : Option Addr) (len cap : Nat) (w : World) (h : Rd w b v s) (hg : s.Good) :
    Calls Try.prog 21 #[.pointer (some ⟨b, 0, none⟩), putV 6 n pa len cap] w fun e w' => ∃ a c, e = .returned (tookV (s.step 6 n).N a (s.step 6 n).len c (s.step 6 n).E) ∧ OwnRow w.heap.size w' a (s.step 6 n).len (s.step 6 n).g ∧ (∀ G, a = some G → G.block ≠ b) ∧ Rd w' b v (s.step 6 n).s ∧ w.grownBy w' (some b) := by
  have hS := Whole.fresh (w.alloc (.cells #[.int .i64 6, .int .i64 n, .slice pa len cap] 32)) 50 #[.int .i64 0, .slice none 0 0, .int .i64 0]
  have hB := ((Below.refl w.heap.size w).alloc (Nat.le_refl _) (.cells #[.int .i64 6, .int .i64 n, .slice pa len cap] 32)).alloc (by simp) (.cells #[.int .i64 0, .slice none 0 0, .int .i64 0] 50)
  have hP := (Whole.fresh w 32 #[.int .i64 6, .int .i64 n, .slice pa len cap]).alloc (.cells #[.int .i64 0, .slice none 0 0, .int .i64 0] 50)
  rw [World.size_alloc] at hS
  have hs2 : ((w.alloc (.cells #[.int .i64 6, .int .i64 n, .slice pa len cap] 32)).alloc (.cells #[.int .i64 0, .slice none 0 0, .int .i64 0] 50)).heap.size = w.heap.size + 1 + 1 := by simp
  have hbl := h.head.lt
  have hol := h.body.lt
  have h2 := h.below hB
  unfold putV
  have hstep : s.step 6 n = ⟨if s.openE (n % 256).toNat = 0 then s.opened else s, 0, 0, fun _ => 0, s.openE (n % 256).toNat⟩ := rfl
  rw [hstep]
  have e1 : n % 256 = ((n % 256).toNat : Nat) := by omega
  have e2 : IntKind.u8.wrap n = ((n % 256).toNat : Nat) := by simp only [IntKind.wrap_u8]; omega
  clear hstep
  generalize (n % 256).toNat = x at *
  have HC := Lib.hid (fun (W : World) (hW : Rd W b v s) => ropen_any (tag := x) W hW hg)
  generalize s.openE x = E at *
  generalize (if E = 0 then s.opened else s) = S2 at *
  clear h hg
  go_enter Try.func21, Try.ntmps21
  go_upto_region 1 with (fail)
  generalize (w.alloc (.cells #[.int .i64 6, .int .i64 n, .slice pa len cap] 32)).alloc (.cells #[.int .i64 0, .slice none 0 0, .int .i64 0] 50) = W0 at *
  have p0 := hP.cell 0
  simp only [List.getElem?_toArray, List.getElem?_cons_zero] at p0
  have p1 := hP.cell 1
  simp only [List.getElem?_toArray, List.getElem?_cons_zero, List.getElem?_cons_succ] at p1
  go_wp2_with fail
  refine (HC.out _ h2).mono ?_
  rintro e W1 ⟨rfl, hR, hG⟩
  have hS1 := hS.only hG (by omega)
  have f0 := hS1.free 0
  have f1 := hS1.free 1
  have f2 := hS1.free 2
  have c0 := hS1.cell 0
  have c1 := hS1.cell 1
  have c2 := hS1.cell 2
  simp only [List.getElem?_toArray, List.getElem?_cons_zero, List.getElem?_cons_succ] at c0 c1 c2
  have fin := Lib.hid (took_end hB hs2 hbl hol hR hG (OwnRow.none _ _ (fun _ => 0)) (fun G e => by cases e) (.int .i64 0) (.slice none 0 0) (.int .i64 (E : Nat)))
  replace hS1 := Lib.hid hS1
  clear HC hS hB hP hs2 hR hG p0 p1 h2
  go_wp2_with fail
  exact bodyPost_ret (results_cell_row (fn := Try.f21) (p := 4) (ty := 50) rfl _ _ _ _ _ (0, 0) _ rfl (((hS1.out.put 0 _).put 1 _).put 2 _) Try.underlying50 rfl (by kernel_rfl)) rfl ⟨_, _, rfl, fin.out⟩
theorem takes_7 {b : Nat} {v : Value} {s : RS} (what n : Int) (pa : Option Addr) (len cap : Nat) (w : World) (h : Rd w b v s) (hg : s.Good) (t0 : (what == 0) = false) (t1 : (what == 1) = false) (t2 : (what == 2) = false) (t3 : (what == 3) = false) (t4 : (what == 4) = false) (t5 : (what == 5) = false) (t6 : (what == 6) = false) :
    Calls Try.prog 21 #[.pointer (some ⟨b, 0, none⟩), putV what n pa len cap] w fun e w' => ∃ a c, e = .returned (tookV (s.step what n).N a (s.step what n).len c (s.step what n).E) ∧ OwnRow w.heap.size w' a (s.step what n).len (s.step what n).g ∧ (∀ G, a = some G → G.block ≠ b) ∧ Rd w' b v (s.step what n).s ∧ w.grownBy w' (some b) := by
  have hS := Whole.fresh (w.alloc (.cells #[.int .i64 what, .int .i64 n, .slice pa len cap] 32)) 50 #[.int .i64 0, .slice none 0 0, .int .i64 0]
  have hB := ((Below.refl w.heap.size w).alloc (Nat.le_refl _) (.cells #[.int .i64 what, .int .i64 n, .slice pa len cap] 32)).alloc (by simp) (.cells #[.int .i64 0, .slice none 0 0, .int .i64 0] 50)
  have hP := (Whole.fresh w 32 #[.int .i64 what, .int .i64 n, .slice pa len cap]).alloc (.cells #[.int .i64 0, .slice none 0 0, .int .i64 0] 50)
  rw [World.size_alloc] at hS
  have hs2 : ((w.alloc (.cells #[.int .i64 what, .int .i64 n, .slice pa len cap] 32)).alloc (.cells #[.int .i64 0, .slice none 0 0, .int .i64 0] 50)).heap.size = w.heap.size + 1 + 1 := by simp
  have hbl := h.head.lt
  have hol := h.body.lt
  have h2 := h.below hB
  unfold putV
  have hstep : s.step what n = ⟨if s.closeE = 0 then s.closed else s, 0, 0, fun _ => 0, s.closeE⟩ := by
    have g : ∀ k : Int, (what == k) = false → ¬ what = k := fun k e h => by rw [h] at e; simp at e
    unfold RS.step
    rw [if_neg (g 0 t0), if_neg (g 1 t1), if_neg (g 2 t2), if_neg (g 3 t3), if_neg (g 4 t4), if_neg (g 5 t5), if_neg (g 6 t6)]
  rw [hstep]
  have HC := Lib.hid (fun (W : World) (hW : Rd W b v s) => rclose_any W hW hg)
  generalize s.closeE = E at *
  generalize (if E = 0 then s.closed else s) = S2 at *
  clear h hg hstep
  go_enter Try.func21, Try.ntmps21
  go_upto_region 1 with (fail)
  generalize (w.alloc (.cells #[.int .i64 what, .int .i64 n, .slice pa len cap] 32)).alloc (.cells #[.int .i64 0, .slice none 0 0, .int .i64 0] 50) = W0 at *
  have p0 := hP.cell 0
  simp only [List.getElem?_toArray, List.getElem?_cons_zero] at p0
  go_wp2_with fail
  refine (HC.out _ h2).mono ?_
  rintro e W1 ⟨rfl, hR, hG⟩
  have hS1 := hS.only hG (by omega)
  have f0 := hS1.free 0
  have f1 := hS1.free 1
  have f2 := hS1.free 2
  have c0 := hS1.cell 0
  have c1 := hS1.cell 1
  have c2 := hS1.cell 2
  simp only [List.getElem?_toArray, List.getElem?_cons_zero, List.getElem?_cons_succ] at c0 c1 c2
  have fin := Lib.hid (took_end hB hs2 hbl hol hR hG (OwnRow.none _ _ (fun _ => 0)) (fun G e => by cases e) (.int .i64 0) (.slice none 0 0) (.int .i64 (E : Nat)))
  replace hS1 := Lib.hid hS1
  clear HC hS hB hP hs2 hR hG p0 h2
  go_wp2_with fail
  exact bodyPost_ret (results_cell_row (fn := Try.f21) (p := 4) (ty := 50) rfl _ _ _ _ _ (0, 0) _ rfl (((hS1.out.put 0 _).put 1 _).put 2 _) Try.underlying50 rfl (by kernel_rfl)) rfl ⟨_, _, rfl, fin.out⟩
theorem takes_4 {b : Nat} {v : Value} {s : RS} (n : Int) (pa : Option Addr) (len cap : Nat) (w : World) (h : Rd w b v s) (hg : s.Good) :
    Calls Try.prog 21 #[.pointer (some ⟨b, 0, none⟩), putV 4 n pa len cap] w fun e w' => ∃ a c, e = .returned (tookV (s.step 4 n).N a (s.step 4 n).len c (s.step 4 n).E) ∧ OwnRow w.heap.size w' a (s.step 4 n).len (s.step 4 n).g ∧ (∀ G, a = some G → G.block ≠ b) ∧ Rd w' b v (s.step 4 n).s ∧ w.grownBy w' (some b) := by
  have hS := Whole.fresh (w.alloc (.cells #[.int .i64 4, .int .i64 n, .slice pa len cap] 32)) 50 #[.int .i64 0, .slice none 0 0, .int .i64 0]
  have hB := ((Below.refl w.heap.size w).alloc (Nat.le_refl _) (.cells #[.int .i64 4, .int .i64 n, .slice pa len cap] 32)).alloc (by simp) (.cells #[.int .i64 0, .slice none 0 0, .int .i64 0] 50)
  have hP := (Whole.fresh w 32 #[.int .i64 4, .int .i64 n, .slice pa len cap]).alloc (.cells #[.int .i64 0, .slice none 0 0, .int .i64 0] 50)
  rw [World.size_alloc] at hS
  have hs2 : ((w.alloc (.cells #[.int .i64 4, .int .i64 n, .slice pa len cap] 32)).alloc (.cells #[.int .i64 0, .slice none 0 0, .int .i64 0] 50)).heap.size = w.heap.size + 1 + 1 := by simp
  have hbl := h.head.lt
  have hol := h.body.lt
  have h2 := h.below hB
  unfold putV
  have hstep : s.step 4 n = ⟨if s.flagE = 0 then s.adv 1 else s, if s.flagE = 0 then (s.num 1 : Nat) else 0, 0, fun _ => 0, s.flagE⟩ := rfl
  rw [hstep]
  have hN : (if s.flagE = 0 then ((s.num 1 : Nat) : Int) else 0) = if (if s.flagE = 0 then decide (s.num 1 = 1) else false) = true then 1 else 0 := by
    by_cases hE : s.flagE = 0
    · have h1 : s.num 1 ≤ 1 := by
        unfold RS.flagE at hE
        split at hE
        · cases hE
        · split at hE
          · cases hE
          · omega
      rw [if_pos hE, if_pos hE]
      rcases (show s.num 1 = 0 ∨ s.num 1 = 1 by omega) with e | e <;> rw [e] <;> rfl
    · rw [if_neg hE, if_neg hE]; rfl
  rw [hN]
  clear hN
  have HC := Lib.hid (fun (W : World) (hW : Rd W b v s) => rflag_any W hW hg)
  generalize s.flagE = E at *
  generalize (if E = 0 then s.adv 1 else s) = S2 at *
  generalize (if E = 0 then decide (s.num 1 = 1) else false) = Y at *
  clear h hg hstep
  obtain ⟨N, hN⟩ : ∃ N : Int, (if Y = true then 1 else 0) = N := ⟨_, rfl⟩
  rw [hN]
  cases Y
  · obtain rfl : (0 : Int) = N := hN
    go_enter Try.func21, Try.ntmps21
    go_upto_region 1 with (fail)
    generalize (w.alloc (.cells #[.int .i64 4, .int .i64 n, .slice pa len cap] 32)).alloc (.cells #[.int .i64 0, .slice none 0 0, .int .i64 0] 50) = W0 at *
    have p0 := hP.cell 0
    simp only [List.getElem?_toArray, List.getElem?_cons_zero] at p0
    go_wp2_with fail
    refine (HC.out _ h2).mono ?_
    rintro e W1 ⟨rfl, hR, hG⟩
    have hS1 := hS.only hG (by omega)
    have f0 := hS1.free 0
    have f1 := hS1.free 1
    have f2 := hS1.free 2
    have c0 := hS1.cell 0
    have c1 := hS1.cell 1
    have c2 := hS1.cell 2
    simp only [List.getElem?_toArray, List.getElem?_cons_zero, List.getElem?_cons_succ] at c0 c1 c2
    have fin := Lib.hid (took_end hB hs2 hbl hol hR hG (OwnRow.none _ _ (fun _ => 0)) (fun G e => by cases e) (.int .i64 0) (.slice none 0 0) (.int .i64 (E : Nat)))
    replace hS1 := Lib.hid hS1
    clear HC hS hB hP hs2 hR hG p0 h2
    go_wp2_with fail
    exact bodyPost_ret (results_cell_row (fn := Try.f21) (p := 4) (ty := 50) rfl _ _ _ _ _ (0, 0) _ rfl (((hS1.out.put 0 _).put 1 _).put 2 _) Try.underlying50 rfl (by kernel_rfl)) rfl ⟨_, _, rfl, fin.out⟩
  · obtain rfl : (1 : Int) = N := hN
    go_enter Try.func21, Try.ntmps21
    go_upto_region 1 with (fail)
    generalize (w.alloc (.cells #[.int .i64 4, .int .i64 n, .slice pa len cap] 32)).alloc (.cells #[.int .i64 0, .slice none 0 0, .int .i64 0] 50) = W0 at *
    have p0 := hP.cell 0
    simp only [List.getElem?_toArray, List.getElem?_cons_zero] at p0
    go_wp2_with fail
    refine (HC.out _ h2).mono ?_
    rintro e W1 ⟨rfl, hR, hG⟩
    have hS1 := hS.only hG (by omega)
    have f0 := hS1.free 0
    have f1 := hS1.free 1
    have f2 := hS1.free 2
    have c0 := hS1.cell 0
    have c1 := hS1.cell 1
    have c2 := hS1.cell 2
    simp only [List.getElem?_toArray, List.getElem?_cons_zero, List.getElem?_cons_succ] at c0 c1 c2
    have fin := Lib.hid (took_end hB hs2 hbl hol hR hG (OwnRow.none _ _ (fun _ => 0)) (fun G e => by cases e) (.int .i64 1) (.slice none 0 0) (.int .i64 (E : Nat)))
    replace hS1 := Lib.hid hS1
    clear HC hS hB hP hs2 hR hG p0 h2
    go_wp2_with fail
    exact bodyPost_ret (results_cell_row (fn := Try.f21) (p := 4) (ty := 50) rfl _ _ _ _ _ (0, 0) _ rfl (((hS1.out.put 0 _).put 1 _).put 2 _) Try.underlying50 rfl (by kernel_rfl)) rfl ⟨_, _, rfl, fin.out⟩
theorem takes_any {b : Nat} {v : Value} {s : RS} (what n : Int) (pa : Option Addr) (len cap : Nat) (w : World) (h : Rd w b v s) (hg : s.Good) :
    Calls Try.prog 21 #[.pointer (some ⟨b, 0, none⟩), putV what n pa len cap] w fun e w' => ∃ a c, e = .returned (tookV (s.step what n).N a (s.step what n).len c (s.step what n).E) ∧ OwnRow w.heap.size w' a (s.step what n).len (s.step what n).g ∧ (∀ G, a = some G → G.block ≠ b) ∧ Rd w' b v (s.step what n).s ∧ w.grownBy w' (some b) := by
  rcases what_ways what with rfl | rfl | rfl | rfl | rfl | rfl | rfl | ⟨t0, t1, t2, t3, t4, t5, t6⟩
  · by_cases hz : s.left < 1
    · exact takes_0n n pa len cap w h hg hz
    · exact takes_0y n pa len cap w h hg (by omega)
  · by_cases hz : s.left < 2
    · exact takes_1n n pa len cap w h hg hz
    · exact takes_1y n pa len cap w h hg (by omega)
  · by_cases hz : s.left < 4
    · exact takes_2n n pa len cap w h hg hz
    · exact takes_2y n pa len cap w h hg (by omega)
  · by_cases hz : s.left < 8
    · exact takes_3n n pa len cap w h hg hz
    · exact takes_3y n pa len cap w h hg (by omega)
  · exact takes_4 n pa len cap w h hg
  · exact takes_5 n pa len cap w h hg
  · exact takes_6 n pa len cap w h hg
  · exact takes_7 what n pa len cap w h hg t0 t1 t2 t3 t4 t5 t6
end Go.Proofs.Ytacnmnodbmbplaa
