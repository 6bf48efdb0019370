/-
  The document's Takes, whatever the call is; its End.
-/
import Derived.Test.YtacnmnodbmbplaaRTkC
import Derived.Test.YtacnmnodbmbplaaRTkB
namespace Go.Proofs.Ytacnmnodbmbplaa
open Go.RowKit Go.Shelf
set_option maxRecDepth 100000
set_option maxHeartbeats 1000000

theorem rtakes_any {a ae : Option Addr} {c ce : Nat} {s : RS} (what n : Int) (pa : Option Addr) (len cap : Nat) (w : World) (h : RDoc w a c ae ce s) (hg : s.Good) :
    Calls Try.prog 20 #[rdV a c ae ce s, putV what n pa len cap] w fun e w' => ∃ ab cb ae' ce', e = .returned (.tuple #[rdV a c ae' ce' (s.step what n).s, tookV (s.step what n).N ab (s.step what n).len cb (s.step what n).E]) ∧ RDoc w' a c ae' ce' (s.step what n).s ∧ Row w' ab (s.step what n).len (s.step what n).g ∧ Below w.heap.size w w' ∧ NewRow w.heap.size w' ae ae' := by
  rcases what_ways what with rfl | rfl | rfl | rfl | rfl | rfl | rfl | ⟨t0, t1, t2, t3, t4, t5, t6⟩
  · by_cases hz : s.left < 1
    · exact rtk_0n n pa len cap w h hg hz
    · exact rtk_0y n pa len cap w h hg (Nat.le_of_not_lt hz)
  · by_cases hz : s.left < 2
    · exact rtk_1n n pa len cap w h hg hz
    · exact rtk_1y n pa len cap w h hg (Nat.le_of_not_lt hz)
  · by_cases hz : s.left < 4
    · exact rtk_2n n pa len cap w h hg hz
    · exact rtk_2y n pa len cap w h hg (Nat.le_of_not_lt hz)
  · by_cases hz : s.left < 8
    · exact rtk_3n n pa len cap w h hg hz
    · exact rtk_3y n pa len cap w h hg (Nat.le_of_not_lt hz)
  · by_cases hz : s.left < 1
    · exact rtk_4n n pa len cap w h hg hz
    · by_cases hv : 1 < s.num 1
      · exact rtk_4f n pa len cap w h hg (Nat.le_of_not_lt hz) hv
      · exact rtk_4y n pa len cap w h hg (Nat.le_of_not_lt hz) hv
  · by_cases hz : s.left < 4
    · exact rtk_5a n pa len cap w h hg hz
    · by_cases hm : n < (s.num 4 : Nat)
      · exact rtk_5b n pa len cap w h hg hz hm
      · by_cases ht : s.left - 4 < s.num 4
        · exact rtk_5c n pa len cap w h hg hz hm ht
        · by_cases hc : c = s.at_ + 4
          · exact rtk_5d n pa len cap w h hg hz hm ht hc
          · exact rtk_5e n pa len cap w h hg hz hm ht hc
  · by_cases ho : s.op = 16
    · exact rtk_6a n pa len cap w h hg ho
    · by_cases hz : s.left < 5
      · exact rtk_6b n pa len cap w h hg ho hz
      · by_cases ht : s.f s.at_ = (n % 256).toNat
        · by_cases hm : s.left - 5 < (s.adv 1).num 4
          · exact rtk_6d n pa len cap w h hg ho hz ht hm
          · exact rtk_6e n pa len cap w h hg ho hz ht hm
        · exact rtk_6c n pa len cap w h hg ho hz ht
  · by_cases ho : s.op = 0
    · exact rtk_7a what n pa len cap w h hg ho t0 t1 t2 t3 t4 t5 t6
    · by_cases hl : 0 < s.left
      · exact rtk_7b what n pa len cap w h hg ho hl t0 t1 t2 t3 t4 t5 t6
      · exact rtk_7c what n pa len cap w h hg ho (Nat.eq_zero_of_not_pos hl) t0 t1 t2 t3 t4 t5 t6
theorem rend_any {a ae : Option Addr} {c ce : Nat} {s : RS} (w : World) (h : RDoc w a c ae ce s) (hg : s.Good) :
    Calls Try.prog 25 #[rdV a c ae ce s] w fun e w' => e = .returned (.int .i64 (s.doneE : Nat)) ∧ Below w.heap.size w w' := by
  have hX := Whole.fresh w 48 #[.slice a s.n c, .int .i64 (s.at_ : Nat), .slice ae (s.op + 1) ce]
  have hB := (Below.refl w.heap.size w).alloc (Nat.le_refl _) (.cells #[.slice a s.n c, .int .i64 (s.at_ : Nat), .slice ae (s.op + 1) ce] 48)
  have HLf := Lib.hid (fun (W : World) (hW : RDoc W a c ae ce s) => rleftd_any W hW hg)
  have hRD := Lib.hid h
  unfold rdV at *
  obtain ⟨K, hK⟩ : ∃ K, s.op + 1 = K := ⟨_, rfl⟩
  rw [hK] at hX hB HLf ⊢
  by_cases h1 : 0 < s.op
  · have hE : s.doneE = 50 := if_pos h1
    rw [hE]
    have i1 : (1 : Int) < (K : Int) := by omega
    have i2 : 1 < K := by omega
    have i3 : decide ((K : Int) > 1) = true := decide_eq_true i1
    clear hE HLf hg h
    go_enter Try.func25, Try.ntmps25
    go_upto_region 1 with (fail)
    generalize w.alloc (.cells #[.slice a s.n c, .int .i64 (s.at_ : Nat), .slice ae K ce] 48) = W0 at *
    have x2 := hX.cell 2
    simp only [List.getElem?_toArray, List.getElem?_cons_zero, List.getElem?_cons_succ] at x2
    go_wp2_with fail
    go_ret
    exact ⟨rfl, hB⟩
  · have hK1 : K = 1 := by omega
    subst hK1
    by_cases h2 : 0 < s.left
    · have hE : s.doneE = 59 := by unfold RS.doneE; rw [if_neg h1, if_pos h2]
      rw [hE]
      have i1 : (0 : Int) < (s.left : Int) := by omega
      have i3 : decide ((s.left : Int) > 0) = true := decide_eq_true i1
      clear hE hg h
      generalize s.left = L at *
      go_enter Try.func25, Try.ntmps25
      go_upto_region 1 with (fail)
      generalize w.alloc (.cells #[.slice a s.n c, .int .i64 (s.at_ : Nat), .slice ae 1 ce] 48) = W0 at *
      have x0 := hX.cell 0
      have x1 := hX.cell 1
      have x2 := hX.cell 2
      simp only [List.getElem?_toArray, List.getElem?_cons_zero, List.getElem?_cons_succ] at x0 x1 x2
      go_wp2_with fail
      refine (HLf.out _ (hRD.out.below hB)).mono ?_
      rintro e W1 ⟨rfl, hB1⟩
      have hB2 := hB.trans (hB1.mono hB.size)
      clear x0 x1 x2 HLf hX hB hB1
      go_wp2_with fail
      go_ret
      exact ⟨rfl, hB2⟩
    · have hE : s.doneE = 0 := by unfold RS.doneE; rw [if_neg h1, if_neg h2]
      rw [hE]
      have h0 : s.left = 0 := by omega
      rw [h0] at HLf
      clear hE hg h h0
      go_enter Try.func25, Try.ntmps25
      go_upto_region 1 with (fail)
      generalize w.alloc (.cells #[.slice a s.n c, .int .i64 (s.at_ : Nat), .slice ae 1 ce] 48) = W0 at *
      have x0 := hX.cell 0
      have x1 := hX.cell 1
      have x2 := hX.cell 2
      simp only [List.getElem?_toArray, List.getElem?_cons_zero, List.getElem?_cons_succ] at x0 x1 x2
      go_wp2_with fail
      refine (HLf.out _ (hRD.out.below hB)).mono ?_
      rintro e W1 ⟨rfl, hB1⟩
      have hB2 := hB.trans (hB1.mono hB.size)
      clear x0 x1 x2 HLf hX hB hB1
      go_wp2_with fail
      go_ret
      exact ⟨rfl, hB2⟩
end Go.Proofs.Ytacnmnodbmbplaa
