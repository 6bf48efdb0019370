/-
  puts: a call to a writer.
-/
import Derived.Test.YtacnmnodbmbplaaMeth
import Derived.Test.YtacnmnodbmbplaaNilPut
namespace Go.Proofs.Ytacnmnodbmbplaa
open Go.RowKit Go.Shelf
set_option maxRecDepth 100000
set_option maxHeartbeats 1000000
set_option linter.unusedVariables false

/-- What a writer is behind a call, if nothing went wrong before. -/
def St.step (s : St) (what n : Int) (len : Nat) (f : Nat → Nat) : St :=
  if what = 0 then s.putW 1 (byteAt (n % 256).toNat) else if what = 1 then s.putW 2 (byteAt (n % 65536).toNat) else if what = 2 then s.putW 4 (byteAt (n % 4294967296).toNat) else
  if what = 3 then s.putW 8 (byteAt (n % 18446744073709551616).toNat) else if what = 4 then s.putW 1 (byteAt (n % 2).toNat) else if what = 5 then s.putW (4 + len) (rowB len f) else
  if what = 6 then s.openW (n % 256).toNat else s.closeW
theorem and_one_i64 (n : Int) : bits BinOp.and IntKind.i64 n 1 = n % 2 := by
  have h : (BitVec.ofInt 64 n &&& BitVec.ofInt 64 1).toNat = (n % 2).toNat := by
    rw [BitVec.toNat_and, BitVec.toNat_ofInt, BitVec.toNat_ofInt, show ((1 : Int) % (2 ^ 64 : Nat)).toNat = 1 by decide, Nat.and_one_is_mod]
    omega
  show IntKind.i64.wrap ((BitVec.ofInt 64 n &&& BitVec.ofInt 64 1).toNat : Nat) = n % 2
  rw [h]
  simp only [IntKind.wrap_i64]
  omega
theorem puts_any {b : Nat} {v : Value} {s : St} (what n : Int) (a : Option Addr) (len cap : Nat) (f : Nat → Nat) (w : World) (h : Wr w b v s) (hR : Row w a len f) (hl : len ≤ 140737488355328) :
    Calls Try.prog 9 #[.pointer (some ⟨b, 0, none⟩), putV what n a len cap] w fun e w' => e = .returned (.tuple #[]) ∧ ∃ v', Wr w' b v' (s.when (s.step what n len f)) ∧ Only2 b v.ownBlock w w' ∧ NewOwn v v' w := by
  have hB0 : Below w.heap.size w (w.alloc (.cells #[.int .i64 what, .int .i64 n, .slice a len cap] 32)) := (Below.refl _ w).alloc (Nat.le_refl _) _
  have h0 := h.below hB0
  have hO0 : Only2 b v.ownBlock w _ := Only2.of_below hB0
  have hs0 := hB0.size
  have hR0 := hR.below hB0
  unfold putV St.step
  rcases what_ways what with rfl | rfl | rfl | rfl | rfl | rfl | rfl | ⟨t0, t1, t2, t3, t4, t5, t6⟩
  · have e1 : n % 256 = ((n % 256).toNat : Nat) := by omega
    have e2 : IntKind.u8.wrap n = ((n % 256).toNat : Nat) := by simp only [IntKind.wrap_u8]; omega
    have HM := Lib.hid (mbyte (x := (n % 256).toNat) _ h0 (by omega))
    have hif : (if (0 : Int) = 0 then s.putW 1 (byteAt (n % 256).toNat) else if (0 : Int) = 1 then s.putW 2 (byteAt (n % 65536).toNat) else if (0 : Int) = 2 then s.putW 4 (byteAt (n % 4294967296).toNat) else if (0 : Int) = 3 then s.putW 8 (byteAt (n % 18446744073709551616).toNat) else if (0 : Int) = 4 then s.putW 1 (byteAt (n % 2).toNat) else if (0 : Int) = 5 then s.putW (4 + len) (rowB len f) else if (0 : Int) = 6 then s.openW (n % 256).toNat else s.closeW) = s.putW 1 (byteAt (n % 256).toNat) := by rfl
    rw [hif]
    clear h hR hR0 h0 hB0
    generalize (n % 256).toNat = x at *
    go_enter Try.func9, Try.ntmps9
    go_wp2_with fail
    refine HM.out.mono ?_
    rintro e w' ⟨rfl, v', h2, h3, h4⟩
    clear HM
    go_wp2_with fail
    go_end0
    exact ⟨rfl, v', h2, hO0.trans h3 (.inl rfl), h4.imp id (fun h y hy => Nat.le_trans hs0 (h y hy))⟩
  · have e1 : n % 65536 = ((n % 65536).toNat : Nat) := by omega
    have e2 : IntKind.u16.wrap n = ((n % 65536).toNat : Nat) := by simp only [IntKind.wrap_u16]; omega
    have HM := Lib.hid (mword (x := (n % 65536).toNat) _ h0 (by omega))
    have hif : (if (1 : Int) = 0 then s.putW 1 (byteAt (n % 256).toNat) else if (1 : Int) = 1 then s.putW 2 (byteAt (n % 65536).toNat) else if (1 : Int) = 2 then s.putW 4 (byteAt (n % 4294967296).toNat) else if (1 : Int) = 3 then s.putW 8 (byteAt (n % 18446744073709551616).toNat) else if (1 : Int) = 4 then s.putW 1 (byteAt (n % 2).toNat) else if (1 : Int) = 5 then s.putW (4 + len) (rowB len f) else if (1 : Int) = 6 then s.openW (n % 256).toNat else s.closeW) = s.putW 2 (byteAt (n % 65536).toNat) := by rfl
    rw [hif]
    clear h hR hR0 h0 hB0
    generalize (n % 65536).toNat = x at *
    go_enter Try.func9, Try.ntmps9
    go_wp2_with fail
    refine HM.out.mono ?_
    rintro e w' ⟨rfl, v', h2, h3, h4⟩
    clear HM
    go_wp2_with fail
    go_end0
    exact ⟨rfl, v', h2, hO0.trans h3 (.inl rfl), h4.imp id (fun h y hy => Nat.le_trans hs0 (h y hy))⟩
  · have e1 : n % 4294967296 = ((n % 4294967296).toNat : Nat) := by omega
    have e2 : IntKind.u32.wrap n = ((n % 4294967296).toNat : Nat) := by simp only [IntKind.wrap_u32]; omega
    have HM := Lib.hid (mlong (x := (n % 4294967296).toNat) _ h0 (by omega))
    have hif : (if (2 : Int) = 0 then s.putW 1 (byteAt (n % 256).toNat) else if (2 : Int) = 1 then s.putW 2 (byteAt (n % 65536).toNat) else if (2 : Int) = 2 then s.putW 4 (byteAt (n % 4294967296).toNat) else if (2 : Int) = 3 then s.putW 8 (byteAt (n % 18446744073709551616).toNat) else if (2 : Int) = 4 then s.putW 1 (byteAt (n % 2).toNat) else if (2 : Int) = 5 then s.putW (4 + len) (rowB len f) else if (2 : Int) = 6 then s.openW (n % 256).toNat else s.closeW) = s.putW 4 (byteAt (n % 4294967296).toNat) := by rfl
    rw [hif]
    clear h hR hR0 h0 hB0
    generalize (n % 4294967296).toNat = x at *
    go_enter Try.func9, Try.ntmps9
    go_wp2_with fail
    refine HM.out.mono ?_
    rintro e w' ⟨rfl, v', h2, h3, h4⟩
    clear HM
    go_wp2_with fail
    go_end0
    exact ⟨rfl, v', h2, hO0.trans h3 (.inl rfl), h4.imp id (fun h y hy => Nat.le_trans hs0 (h y hy))⟩
  · have e1 : n % 18446744073709551616 = ((n % 18446744073709551616).toNat : Nat) := by omega
    have e2 : IntKind.u64.wrap n = ((n % 18446744073709551616).toNat : Nat) := by simp only [IntKind.wrap_u64]; omega
    have HM := Lib.hid (mnumber (x := (n % 18446744073709551616).toNat) (z := n) _ h0 (by simp only [IntKind.wrap_u64]; omega) (by omega))
    have hif : (if (3 : Int) = 0 then s.putW 1 (byteAt (n % 256).toNat) else if (3 : Int) = 1 then s.putW 2 (byteAt (n % 65536).toNat) else if (3 : Int) = 2 then s.putW 4 (byteAt (n % 4294967296).toNat) else if (3 : Int) = 3 then s.putW 8 (byteAt (n % 18446744073709551616).toNat) else if (3 : Int) = 4 then s.putW 1 (byteAt (n % 2).toNat) else if (3 : Int) = 5 then s.putW (4 + len) (rowB len f) else if (3 : Int) = 6 then s.openW (n % 256).toNat else s.closeW) = s.putW 8 (byteAt (n % 18446744073709551616).toNat) := by rfl
    rw [hif]
    clear h hR hR0 h0 hB0
    generalize (n % 18446744073709551616).toNat = x at *
    go_enter Try.func9, Try.ntmps9
    go_wp2_with fail
    refine HM.out.mono ?_
    rintro e w' ⟨rfl, v', h2, h3, h4⟩
    clear HM
    go_wp2_with fail
    go_end0
    exact ⟨rfl, v', h2, hO0.trans h3 (.inl rfl), h4.imp id (fun h y hy => Nat.le_trans hs0 (h y hy))⟩
  · have hif : (if (4 : Int) = 0 then s.putW 1 (byteAt (n % 256).toNat) else if (4 : Int) = 1 then s.putW 2 (byteAt (n % 65536).toNat) else if (4 : Int) = 2 then s.putW 4 (byteAt (n % 4294967296).toNat) else if (4 : Int) = 3 then s.putW 8 (byteAt (n % 18446744073709551616).toNat) else if (4 : Int) = 4 then s.putW 1 (byteAt (n % 2).toNat) else if (4 : Int) = 5 then s.putW (4 + len) (rowB len f) else if (4 : Int) = 6 then s.openW (n % 256).toNat else s.closeW) = s.putW 1 (byteAt (n % 2).toNat) := by rfl
    rw [hif]
    clear hif h hR hR0 hB0
    have hbit := and_one_i64 n
    rcases (show n % 2 = 0 ∨ n % 2 = 1 by omega) with h2 | h2
    · have HM := Lib.hid (mflag false _ h0)
      rw [h2] at hbit
      rw [h2]
      clear h0 h2
      go_enter Try.func9, Try.ntmps9
      go_wp2_with fail
      refine HM.out.mono ?_
      rintro e w' ⟨rfl, v', h2, h3, h4⟩
      clear HM
      go_wp2_with fail
      go_end0
      exact ⟨rfl, v', h2, hO0.trans h3 (.inl rfl), h4.imp id (fun h y hy => Nat.le_trans hs0 (h y hy))⟩
    · have HM := Lib.hid (mflag true _ h0)
      rw [h2] at hbit
      rw [h2]
      clear h0 h2
      go_enter Try.func9, Try.ntmps9
      go_wp2_with fail
      refine HM.out.mono ?_
      rintro e w' ⟨rfl, v', h2, h3, h4⟩
      clear HM
      go_wp2_with fail
      go_end0
      exact ⟨rfl, v', h2, hO0.trans h3 (.inl rfl), h4.imp id (fun h y hy => Nat.le_trans hs0 (h y hy))⟩
  · have hif : (if (5 : Int) = 0 then s.putW 1 (byteAt (n % 256).toNat) else if (5 : Int) = 1 then s.putW 2 (byteAt (n % 65536).toNat) else if (5 : Int) = 2 then s.putW 4 (byteAt (n % 4294967296).toNat) else if (5 : Int) = 3 then s.putW 8 (byteAt (n % 18446744073709551616).toNat) else if (5 : Int) = 4 then s.putW 1 (byteAt (n % 2).toNat) else if (5 : Int) = 5 then s.putW (4 + len) (rowB len f) else if (5 : Int) = 6 then s.openW (n % 256).toNat else s.closeW) = s.putW (4 + len) (rowB len f) := by rfl
    rw [hif]
    have HC := Lib.hid (copy_any a len cap f _ hR0 hl)
    clear hif h hR hR0
    go_enter Try.func9, Try.ntmps9
    go_wp2_with fail
    generalize (w.alloc (.cells #[.int .i64 5, .int .i64 n, .slice a len cap] 32)) = W0 at *
    refine HC.out.mono ?_
    rintro e w1 ⟨G, rfl, hH, hG, hB1⟩
    have h1 := h0.below hB1
    have hO1 := hO0.trans (Only2.of_below (b := b) (o := v.ownBlock) hB1) (.inl rfl)
    have hbl := h0.head.lt
    have hol := h0.body.lt
    have hgl := hH.lt
    have hs1 := hB1.size
    have HM := Lib.hid (mbytes (c := len) w1 h1 hH.row hl (fun ad e => by injection e with e; subst e; exact ⟨by show G ≠ b; omega, fun e => by have := hol _ e; have : G < W0.heap.size := this; omega⟩) (fun ad e => by injection e with e; subst e; exact hgl))
    clear HC h0 h1
    go_wp2_with fail
    refine HM.out.mono ?_
    rintro e w2 ⟨rfl, v', h2, h3, h4⟩
    have hGv : v'.ownBlock ≠ some G := by
      intro e
      rcases h4 with h4 | h4
      · have := hol G (by rw [← h4, e]); omega
      · have := h4 G e; omega
    have hH2 : Holds w2 G len f := by
      obtain ⟨cs, hc, r⟩ := hH
      exact ⟨cs, (h3.block G hgl (by omega) (fun e => by have := hol _ e.symm; omega)).trans hc, r⟩
    have HS := Lib.hid (spoil_any G len len f w2 hl hH2)
    clear HM
    go_wp2_with fail
    refine HS.out.mono ?_
    rintro e w3 ⟨⟨u, rfl⟩, hO⟩
    have h5 := h2.kept (hO.block b h2.head.lt (fun e => by injection e with e; omega)) (fun x hx => hO.block x (h2.body.lt x hx) (fun e => hGv (by rw [hx, e])))
    have o5 : Only2 b v.ownBlock w w3 := (hO1.trans h3 (.inl rfl)).trans (Only2.of_grown (b := b) hO) (.inr (fun x hx => by injection hx with hx; omega))
    clear HS
    go_wp2_with fail
    go_end0
    exact ⟨rfl, v', h5, o5, h4.imp id (fun h y hy => Nat.le_trans (Nat.le_trans hs0 hs1) (h y hy))⟩
  · have e1 : n % 256 = ((n % 256).toNat : Nat) := by omega
    have e2 : IntKind.u8.wrap n = ((n % 256).toNat : Nat) := by simp only [IntKind.wrap_u8]; omega
    have HM := Lib.hid (mopen (x := (n % 256).toNat) _ h0 (by omega))
    have hif : (if (6 : Int) = 0 then s.putW 1 (byteAt (n % 256).toNat) else if (6 : Int) = 1 then s.putW 2 (byteAt (n % 65536).toNat) else if (6 : Int) = 2 then s.putW 4 (byteAt (n % 4294967296).toNat) else if (6 : Int) = 3 then s.putW 8 (byteAt (n % 18446744073709551616).toNat) else if (6 : Int) = 4 then s.putW 1 (byteAt (n % 2).toNat) else if (6 : Int) = 5 then s.putW (4 + len) (rowB len f) else if (6 : Int) = 6 then s.openW (n % 256).toNat else s.closeW) = s.openW (n % 256).toNat := by rfl
    rw [hif]
    clear h hR hR0 h0 hB0
    generalize (n % 256).toNat = x at *
    go_enter Try.func9, Try.ntmps9
    go_wp2_with fail
    refine HM.out.mono ?_
    rintro e w' ⟨rfl, v', h2, h3, h4⟩
    clear HM
    go_wp2_with fail
    go_end0
    exact ⟨rfl, v', h2, hO0.trans h3 (.inl rfl), h4.imp id (fun h y hy => Nat.le_trans hs0 (h y hy))⟩
  · have HM := Lib.hid (mclose _ h0)
    have g0 : ¬ what = 0 := fun e => by rw [e] at t0; cases t0
    have g1 : ¬ what = 1 := fun e => by rw [e] at t1; cases t1
    have g2 : ¬ what = 2 := fun e => by rw [e] at t2; cases t2
    have g3 : ¬ what = 3 := fun e => by rw [e] at t3; cases t3
    have g4 : ¬ what = 4 := fun e => by rw [e] at t4; cases t4
    have g5 : ¬ what = 5 := fun e => by rw [e] at t5; cases t5
    have g6 : ¬ what = 6 := fun e => by rw [e] at t6; cases t6
    rw [if_neg g0, if_neg g1, if_neg g2, if_neg g3, if_neg g4, if_neg g5, if_neg g6]
    clear h hR hR0 h0 hB0 g0 g1 g2 g3 g4 g5 g6
    go_enter Try.func9, Try.ntmps9
    go_wp2_with fail
    refine HM.out.mono ?_
    rintro e w' ⟨rfl, v', h2, h3, h4⟩
    clear HM
    go_wp2_with fail
    go_end0
    exact ⟨rfl, v', h2, hO0.trans h3 (.inl rfl), h4.imp id (fun h y hy => Nat.le_trans hs0 (h y hy))⟩
end Go.Proofs.Ytacnmnodbmbplaa
