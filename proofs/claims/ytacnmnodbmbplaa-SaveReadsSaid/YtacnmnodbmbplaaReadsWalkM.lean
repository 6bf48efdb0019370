/-
  SaveReads: the walk.
-/
import Derived.Test.YtacnmnodbmbplaaRGoodB
import Derived.Lib.QuietBelow
import Derived.BigQuiet
namespace Go.Proofs.Ytacnmnodbmbplaa
open Go.RowKit Go.Shelf
set_option maxRecDepth 100000
set_option maxHeartbeats 2000000
set_option linter.unusedVariables false
theorem OwnRow.below {B : Nat} {w w' : World} {a : Option Addr} {n : Nat} {f : Nat → Nat} (h : OwnRow B w a n f) (hb : Below w.heap.size w w') : OwnRow B w' a n f :=
  h.imp id fun ⟨G, e, hl, hH⟩ => ⟨G, e, hl, hH.below hb hH.lt⟩
theorem row_off {w : World} {R n : Nat} {v : Value} {s : RS} {ab : Option Addr} {g : Nat → Nat} (h : Row w ab n g) (hr : Rd w R v s) : n = 0 ∨ ∀ ad, ab = some ad → ad.block ≠ R := by
  rcases h.2 with h0 | ⟨b, o, e, hb, hc⟩
  · exact .inl h0
  by_cases h0 : n = 0
  · exact .inl h0
  refine .inr fun ad e2 hR => ?_
  rw [e] at e2
  injection e2 with e2
  subst e2
  have hR : b = R := hR
  subst hR
  have c0 := hc 0 (by omega)
  obtain ⟨a, c, rfl, _⟩ := hr.body.row
  obtain ⟨cs, hw, hs, a0, a1, ae, a18⟩ := hr.head.all
  rw [hw.cell] at c0
  generalize o + 0 = i at c0
  by_cases i0 : i = 0
  · subst i0; rw [a0] at c0; cases c0
  by_cases i1 : i = 1
  · subst i1; rw [a1] at c0; cases c0
  by_cases i18 : i = 18
  · subst i18; rw [a18] at c0; cases c0
  by_cases hi : i < 18
  · obtain ⟨j, rfl⟩ : ∃ j, i = 2 + j := ⟨i - 2, by omega⟩
    rw [ae j (by omega)] at c0; cases c0
  · rw [Array.getElem?_eq_none (by omega)] at c0; cases c0
theorem row_keep {w w' : World} {R n : Nat} {v : Value} {s : RS} {ab : Option Addr} {g : Nat → Nat} (h : Row w ab n g) (hr : Rd w R v s) (hG : w.grownBy w' (some R)) : Row w' ab n g := by
  rcases row_off h hr with h0 | h0
  · exact ⟨h.1, .inl h0⟩
  · refine ⟨h.1, h.2.imp id fun ⟨b, o, e, hl, hc⟩ => ⟨b, o, e, Nat.lt_of_lt_of_le hl hG.size, fun i hi => ?_⟩⟩
    exact (cell_of_block (hG.block b hl (fun h => h0 _ e (by injection h))) _).trans (hc i hi)
theorem put_at_lie {w W : World} {x o k sn : Nat} {sf : Nat → Pt} (h : PutsLie w (some ⟨x, o, none⟩) sn sf) (hk : k < sn) (hB : Below w.heap.size w W) : PutAt W x (o + k * 3) (sf k) := by
  rcases h with h0 | ⟨x', o', e, hx', hc⟩
  · omega
  · injection e with e
    injection e with e1 e2 e3
    subst e1 e2
    exact (hc k hk).below hB
theorem zero_good {N : Nat} {f : Nat → Nat} (hN : N ≤ 16777216) : (RS.mk N f 0 0 fun _ => 0).Good := ⟨Nat.zero_le _, hN, Nat.zero_le _, fun i j hij hj => absurd hj (Nat.not_lt_zero _), fun i hi => absurd hi (Nat.not_lt_zero _)⟩
theorem store3_heap {W : World} {D x : Nat} (u0 u1 u2 : Value) (hx : x ≠ D) : (((W.setCell ⟨D, 0, none⟩ u0).setCell ⟨D, 1, none⟩ u1).setCell ⟨D, 2, none⟩ u2).heap[x]? = W.heap[x]? :=
  ((Below.heap_setCell _ _ _ _ hx).trans (Below.heap_setCell _ _ _ _ hx)).trans (Below.heap_setCell _ _ _ _ hx)
theorem store3_size {W : World} {D : Nat} (u0 u1 u2 : Value) : (((W.setCell ⟨D, 0, none⟩ u0).setCell ⟨D, 1, none⟩ u1).setCell ⟨D, 2, none⟩ u2).heap.size = W.heap.size := by simp [World.setCell]
namespace saveReads
theorem walk_no (ba : Option Addr) (bn bc : Nat) (bf : Nat → Nat) (sa : Option Addr) (sn sc : Nat) (w : World) (hR : Row w ba bn bf) (hbn : bn ≤ 140737488351232) (hbc : bn ≤ bc) (hE : openE bn bf ≠ 0) :
    Calls Try.prog 4 #[.slice ba bn bc, .slice sa sn sc] w fun e w' => e = .returned (.bool true) ∧ Below w.heap.size w w' := by
  have HB := rbody_any w hR hbc (by omega)
  have HC := Lib.hid (fun (W : World) (hW : Row W ba bn bf) => copy_any ba bn bc bf W hW (by omega))
  have HN := fun (W : World) (g : Nat) (hW : Row W (some ⟨g, 0, none⟩) bn bf) => newReader_no (c := bn) W hW (Nat.le_refl _) (by omega) hE
  have HS := Lib.hid (fun (W : World) (g : Nat) (h1 : Row W (some ⟨g, 0, none⟩) bn bf) (h2 : Row W ba bn bf) => same_any (some ⟨g, 0, none⟩) ba bn bn bc bf W h1 h2 (by omega))
  have HP := Lib.hid (fun (W : World) (g : Nat) (h1 : Holds W g bn bf) => spoil_any g bn bn bf W (by omega) h1)
  have t1 : ((openE bn bf : Int) == 0) = false := by rw [beq_eq_false_iff_ne]; omega
  have t2 : ((openE bn bf : Int) != 0) = true := by rw [bne_iff_ne]; omega
  generalize openE bn bf = E at *
  replace HB := Lib.hid HB
  replace HN := Lib.hid HN
  have hE2 := Lib.hid hE
  have hRh := Lib.hid hR
  clear hR hE hbc
  replace hbn := Lib.hid hbn
  go_enter Try.func4, Try.ntmps4
  go_wp2_with fail
  refine HB.out.mono ?_
  rintro e W1 ⟨(⟨_, rfl⟩ | ⟨h0, _⟩), q, rfl⟩
  · have hB1 := below_drewN (Below.refl w.heap.size w) q
    have hR1 := hRh.out.below hB1
    generalize w.drewN q = W1 at *
    clear HB
    go_wp2_with fail
    refine (HC.out _ hR1).mono ?_
    rintro e W2 ⟨G, rfl, hG2, hGl, hB2⟩
    have hB3 := hB1.trans (hB2.mono hB1.size)
    have hGB : w.heap.size ≤ G := Nat.le_trans hB1.size hGl
    clear HC hR1 hB2 hGl hB1
    go_wp2_with fail
    refine (HN.out _ _ hG2.row).mono ?_
    rintro e W3 ⟨rfl, hB4⟩
    have hG3 := hG2.below hB4 hG2.lt
    have hB5 := hB3.trans (hB4.mono hB3.size)
    clear HN hG2 hB4 hB3
    go_wp2_with fail
    refine (HS.out _ _ hG3.row (hRh.out.below hB5)).mono ?_
    rintro e W4 ⟨rfl, q2, rfl⟩
    have hB6 := below_drewN hB5 q2
    have hG4 := hG3.drewN q2
    generalize W3.drewN q2 = W4 at *
    clear HS hG3 hB5
    go_wp2_with fail
    refine (HP.out _ _ hG4).mono ?_
    rintro e W5 ⟨⟨u, rfl⟩, hO⟩
    have hB7 := below_only hB6 hO hGB hB6.size
    clear HP hG4 hO hB6
    go_wp2_with fail
    go_ret
    exact ⟨rfl, hB7⟩
  · exact absurd h0 hE2.out
theorem walk_ok (ba : Option Addr) (bn bc : Nat) (bf : Nat → Nat) (sa : Option Addr) (sn sc : Nat) (sf : Nat → Pt) (w : World) (hR : Row w ba bn bf) (hbn : bn ≤ 140737488351232) (hbc : bn ≤ bc) (hS : PutsLie w sa sn sf) (hsn : sn ≤ maxLen) (hE : openE bn bf = 0) :
    Calls Try.prog 4 #[.slice ba bn bc, .slice sa sn sc] w fun e w' => e = .returned (.bool true) ∧ Below w.heap.size w w' := by
  have HB := Lib.hid (rbody_any w hR hbc (by omega))
  have HC := Lib.hid (fun (W : World) (hW : Row W ba bn bf) => copy_any ba bn bc bf W hW (by omega))
  have HN := Lib.hid (fun (W : World) (g : Nat) (hW : Row W (some ⟨g, 0, none⟩) bn bf) => newReader_ok (c := bn) W hW (Nat.le_refl _) (by omega) hE)
  have HS := Lib.hid (fun (W : World) (g : Nat) (h1 : Row W (some ⟨g, 0, none⟩) bn bf) (h2 : Row W ba bn bf) => same_any (some ⟨g, 0, none⟩) ba bn bn bc bf W h1 h2 (by omega))
  have HP := Lib.hid (fun (W : World) (g : Nat) (h1 : Holds W g bn bf) => spoil_any g bn bn bf W (by omega) h1)
  have hN13 := (openE_n hE).2
  have hE2 := Lib.hid hE
  have hRh := Lib.hid hR
  have hSh := Lib.hid hS
  have hHsn := Lib.hid hsn
  clear hR hE hbc hS hsn
  replace hbn := Lib.hid hbn
  go_enter Try.func4, Try.ntmps4
  go_wp2_with fail
  refine HB.out.mono ?_
  rintro e W1 ⟨(⟨h0, _⟩ | ⟨_, a, c, rfl, hRa, hac⟩), q, rfl⟩
  · exact absurd hE2.out h0
  have hB1 := below_drewN (Below.refl w.heap.size w) q
  have hR1 := hRh.out.below hB1
  generalize w.drewN q = W1 at *
  clear HB
  obtain ⟨N, hN⟩ : ∃ N, bn - 13 = N := ⟨_, rfl⟩
  rw [hN] at hRa hac hN13 ⊢
  go_wp2_with fail
  refine (HC.out _ hR1).mono ?_
  rintro e W2 ⟨G, rfl, hG2, hGl, hB2⟩
  have hB3 := hB1.trans (hB2.mono hB1.size)
  have hGB : w.heap.size ≤ G := Nat.le_trans hB1.size hGl
  clear HC hR1 hB2 hGl hB1
  go_wp2_with fail
  refine (HN.out _ _ hG2.row).mono ?_
  rintro e W3 ⟨R, v, rfl, hRd, hOw, hfar, hRl, hB4⟩
  have hGlt := hG2.lt
  have hG3 := hG2.below hB4 hG2.lt
  have hB5 := hB3.trans (hB4.mono hB3.size)
  have hRB : w.heap.size ≤ R := Nat.le_trans hB3.size hRl
  have hRd3 : Rd W3 R v ⟨N, shiftF 13 bf, 0, 0, fun _ => 0⟩ := ⟨⟨_, hRd, rfl, rfl, rfl, fun i hi => by
    rcases (show i = 0 ∨ i = 1 ∨ i = 2 ∨ i = 3 ∨ i = 4 ∨ i = 5 ∨ i = 6 ∨ i = 7 ∨ i = 8 ∨ i = 9 ∨ i = 10 ∨ i = 11 ∨ i = 12 ∨ i = 13 ∨ i = 14 ∨ i = 15 by omega) with rfl | rfl | rfl | rfl | rfl | rfl | rfl | rfl | rfl | rfl | rfl | rfl | rfl | rfl | rfl | rfl <;> rfl, rfl⟩, hN ▸ hOw, fun e => (hfar R e).2 rfl⟩
  have hGv : v.ownBlock ≠ some G := fun e => by have := (hfar G e).1; omega
  have hGR : G ≠ R := by omega
  clear HN hG2 hB4 hB3 hRd hOw
  replace hRd3 := Lib.hid hRd3
  go_wp2_with fail
  refine (HS.out _ _ hG3.row (hRh.out.below hB5)).mono ?_
  rintro e W4 ⟨rfl, q2, rfl⟩
  have hB6 := below_drewN hB5 q2
  have hG4 := hG3.drewN q2
  have hRd4 := Lib.hid (hRd3.out.drewN q2)
  generalize W3.drewN q2 = W4 at *
  clear HS hG3 hB5 hRd3
  go_wp2_with fail
  refine (HP.out _ _ hG4).mono ?_
  rintro e W5 ⟨⟨u, rfl⟩, hO⟩
  have hB7 := below_only hB6 hO hGB hB6.size
  have hRd5 := Lib.hid (hRd4.out.kept (hO.block R hRd4.out.head.lt (fun e => hGR (by injection e with e; exact e.symm))) (fun x hx => hO.block x (hRd4.out.body.lt x hx) (fun e => hGv (by rw [hx, e]))))
  clear HP hG4 hO hB6 hRd4 hGlt hRl
  go_upto_region 10 with (fail)
  have hl5 := hRd5.out.head.lt
  have ho5 := hRd5.out.body.lt
  have hBs5 := hB7.size
  have hT := (Whole.fresh W5 3 #[.int .i64 (N : Nat)]).alloc (.cells #[.slice a N c, .int .i64 0, .slice (some ⟨W5.heap.size, 0, none⟩) 1 1] 48)
  have hD := Whole.fresh (W5.alloc (.cells #[.int .i64 (N : Nat)] 3)) 48 #[.slice a N c, .int .i64 0, .slice (some ⟨W5.heap.size, 0, none⟩) 1 1]
  have hB8 := (hB7.alloc hBs5 (.cells #[.int .i64 (N : Nat)] 3)).alloc (by simp; omega) (.cells #[.slice a N c, .int .i64 0, .slice (some ⟨W5.heap.size, 0, none⟩) 1 1] 48)
  have hBq := ((Below.refl W5.heap.size W5).alloc (Nat.le_refl _) (.cells #[.int .i64 (N : Nat)] 3)).alloc (by simp) (.cells #[.slice a N c, .int .i64 0, .slice (some ⟨W5.heap.size, 0, none⟩) 1 1] 48)
  have hRd6 := hRd5.out.below hBq
  rw [World.size_alloc] at hD
  generalize (W5.alloc (.cells #[.int .i64 (N : Nat)] 3)).alloc (.cells #[.slice a N c, .int .i64 0, .slice (some ⟨W5.heap.size, 0, none⟩) 1 1] 48) = W6 at *
  obtain ⟨D, hDe⟩ : ∃ D, W5.heap.size + 1 = D := ⟨_, rfl⟩
  have hDR : D ≠ R := by omega
  have hDv : v.ownBlock ≠ some D := fun e => by have := ho5 _ e; omega
  have hDB : w.heap.size ≤ D := by omega
  have hbox0 : RBox W6 R D a c (some ⟨W5.heap.size, 0, none⟩) 1 ⟨N, shiftF 13 bf, 0, 0, fun _ => 0⟩ := ⟨by rw [← hDe]; exact hD, ⟨(by assumption : Row w a N (shiftF 13 bf)).below hB8, .inr ⟨_, 0, rfl, hT.lt, fun i hi => by
    obtain rfl : i = 0 := by have hi : i < 0 + 1 := hi; omega
    exact hT.cell 0⟩, hac, Nat.le_refl _⟩, hDR, fun ad e => by injection e with e; subst e; exact ⟨by show W5.heap.size ≠ R; omega, by show W5.heap.size ≠ D; omega, hT.lt⟩⟩
  rw [hDe]
  have hg0 := zero_good (f := shiftF 13 bf) hN13
  have hRaH := Lib.hid hRa
  clear hT hD hBq hRd5 hB7 hl5 ho5 hBs5 hDe hRa hfar hGB hN13
  replace hbox0 := Lib.hid hbox0
  replace hRd6 := Lib.hid hRd6
  replace hB8 := Lib.hid hB8
  go_wp2_with fail
  go_loopw [11] (fun s11 wr => ∃ (k : Nat) (s : RS) (ae : Option Addr) (ce : Nat), k ≤ sn ∧ s11 = .int .i64 k ∧ s.Good ∧ s.n = N ∧ s.f = shiftF 13 bf ∧ Rd wr R v s ∧ RBox wr R D a c ae ce s ∧ Below w.heap.size w wr) (fun s11 _ => sn - (intOf s11).toNat)
  case atStart => exact ⟨0, _, _, _, Nat.zero_le _, rfl, hg0, rfl, rfl, hRd6.out, hbox0.out, hB8.out⟩
  case round =>
    clear hg0 hRd6 hbox0 hB8
    obtain ⟨k, s, ae, ce, hk, rfl, hg, hsn, hsf, hRd, hBox, hBw⟩ := hrel
    replace hsn := Lib.hid hsn
    replace hsf := Lib.hid hsf
    by_cases hlt : k < sn
    · obtain ⟨x, o, rfl⟩ : ∃ x o, sa = some ⟨x, o, none⟩ := by
        rcases hSh.out with h0 | ⟨x, o, e, _⟩
        · omega
        · exact ⟨x, o, e⟩
      obtain ⟨c0, c1, c2, hrow, hrl, _⟩ := put_at_lie hSh.out hlt hBw
      have hli : (k : Int) < (sn : Int) := by omega
      have hk2 : (k : Int) + 1 ≤ 9223372036854775807 := by have := hHsn.out; unfold maxLen at this; omega
      have hw64 : IntKind.i64.wrap ((k : Int) + 1) = (k : Int) + 1 := by have := hHsn.out; unfold maxLen at this; simp only [IntKind.wrap_i64]; omega
      replace hk2 := Lib.hid hk2
      have hP7 := Whole.fresh wr 32 #[.int .i64 (sf k).what, .int .i64 (sf k).n, .slice (sf k).a (sf k).len (sf k).cap]
      have hB7 := (Below.refl wr.heap.size wr).alloc (Nat.le_refl _) (.cells #[.int .i64 (sf k).what, .int .i64 (sf k).n, .slice (sf k).a (sf k).len (sf k).cap] 32)
      have hRd7 := Lib.hid (hRd.below hB7)
      have hbx7 := hBox.box.below hB7 hBox.box.lt
      have hdc7 := hBox.doc.below hB7
      have hBw7 := Lib.hid (hBw.trans (hB7.mono hBw.size))
      have hlR := hRd.head.lt
      have hlv := hRd.body.lt
      have hlD := hBox.box.lt
      have hnE := Lib.hid hBox.nE
      have hBws := hBw.size
      clear hRd hBox hBw hrow hrl
      replace hB7 := Lib.hid hB7
      replace hP7 := Lib.hid hP7
      replace hbx7 := Lib.hid hbx7
      replace hdc7 := Lib.hid hdc7
      go_upto_region 14 with (fail)
      generalize wr.alloc (.cells #[.int .i64 (sf k).what, .int .i64 (sf k).n, .slice (sf k).a (sf k).len (sf k).cap] 32) = W7 at *
      have p0 := hP7.out.cell 0
      have p1 := hP7.out.cell 1
      have p2 := hP7.out.cell 2
      have d0 := hbx7.out.cell 0
      have d1 := hbx7.out.cell 1
      have d2 := hbx7.out.cell 2
      simp only [List.getElem?_toArray, List.getElem?_cons_zero, List.getElem?_cons_succ] at p0 p1 p2 d0 d1 d2
      have HT := rtakes_any (sf k).what (sf k).n (sf k).a (sf k).len (sf k).cap W7 hdc7.out hg
      have HK := (fun (W : World) (hW : Rd W R v s) => takes_any (sf k).what (sf k).n (sf k).a (sf k).len (sf k).cap W hW hg)
      have hgT := step_good hg (sf k).what (sf k).n
      have hnfT := step_nf s (sf k).what (sf k).n
      have hlnT := step_len hg (sf k).what (sf k).n
      rw [hsn.out, hsf.out] at hnfT
      replace hnfT := Lib.hid hnfT
      generalize s.step (sf k).what (sf k).n = T at *
      unfold rdV putV tookV at HT
      unfold putV tookV at HK
      replace HT := Lib.hid HT
      replace HK := Lib.hid HK
      have hl7 := hB7.out.size
      clear c0 c1 c2
      go_wp2_with fail
      refine HT.out.mono ?_
      rintro e W8 ⟨ab, cb, ae', ce', rfl, hdc8, hrow8, hB8, hNR⟩
      clear HT p0 p1 p2 d0 d1 d2
      go_upto_region 15 with (fail)
      have hX9 := (Whole.fresh W8 48 #[.slice a T.s.n c, .int .i64 (T.s.at_ : Nat), .slice ae' (T.s.op + 1) ce']).alloc (.cells #[.int .i64 T.N, .slice ab T.len cb, .int .i64 (T.E : Nat)] 50)
      have hY9 := Whole.fresh (W8.alloc (.cells #[.slice a T.s.n c, .int .i64 (T.s.at_ : Nat), .slice ae' (T.s.op + 1) ce'] 48)) 50 #[.int .i64 T.N, .slice ab T.len cb, .int .i64 (T.E : Nat)]
      rw [World.size_alloc] at hY9
      have hB9 := ((Below.refl W8.heap.size W8).alloc (Nat.le_refl _) (.cells #[.slice a T.s.n c, .int .i64 (T.s.at_ : Nat), .slice ae' (T.s.op + 1) ce'] 48)).alloc (by simp) (.cells #[.int .i64 T.N, .slice ab T.len cb, .int .i64 (T.E : Nat)] 50)
      generalize (W8.alloc (.cells #[.slice a T.s.n c, .int .i64 (T.s.at_ : Nat), .slice ae' (T.s.op + 1) ce'] 48)).alloc (.cells #[.int .i64 T.N, .slice ab T.len cb, .int .i64 (T.E : Nat)] 50) = W9 at *
      have hB79 := hB8.trans (hB9.mono hB8.size)
      have hP9 := hP7.out.below hB79 hP7.out.lt
      have hRd9 := Lib.hid (hRd7.out.below hB79)
      have hbx9 := hbx7.out.below hB79 hbx7.out.lt
      have hBw9 := Lib.hid (hBw7.out.trans (hB79.mono (Nat.le_trans hBws hl7)))
      have hdc9 := hdc8.below hB9
      have hrow9 := hrow8.below hB9
      have hlE : ∀ ad, ae' = some ad → ad.block ≠ R ∧ ad.block ≠ D ∧ ad.block < W8.heap.size := fun ad e => by
        rcases hNR with hNR | hNR
        · have := hnE.out ad (hNR ▸ e)
          have := hB8.size
          exact ⟨by omega, by omega, by omega⟩
        · have := hNR ad e
          exact ⟨by omega, by omega, this.2⟩
      have hl8 := hB8.size
      have hl9 := hB9.size
      have hX9R : W8.heap.size ≠ R := by omega
      have hY9R : W8.heap.size + 1 ≠ R := by omega
      have hlX := hX9.lt
      have hlY := hY9.lt
      have p0 := hP9.cell 0
      have p1 := hP9.cell 1
      have p2 := hP9.cell 2
      simp only [List.getElem?_toArray, List.getElem?_cons_zero, List.getElem?_cons_succ] at p0 p1 p2
      replace hX9 := Lib.hid hX9
      replace hY9 := Lib.hid hY9
      replace hbx9 := Lib.hid hbx9
      replace hdc9 := Lib.hid hdc9
      replace hrow9 := Lib.hid hrow9
      replace hlE := Lib.hid hlE
      clear hdc8 hrow8 hB8 hNR hB9 hB79 hP9 hP7 hRd7 hbx7 hdc7 hBw7 hB7 hnE
      go_wp2_with fail
      refine (HK.out _ hRd9.out).mono ?_
      rintro e W10 ⟨ac, cc, rfl, hOwn, hnb, hRd10, hG10⟩
      clear HK p0 p1 p2
      go_upto_region 16 with (fail)
      have hK11 := Whole.fresh W10 50 #[.int .i64 T.N, .slice ac T.len cc, .int .i64 (T.E : Nat)]
      have hB11 := (Below.refl W10.heap.size W10).alloc (Nat.le_refl _) (.cells #[.int .i64 T.N, .slice ac T.len cc, .int .i64 (T.E : Nat)] 50)
      generalize W10.alloc (.cells #[.int .i64 T.N, .slice ac T.len cc, .int .i64 (T.E : Nat)] 50) = W11 at *
      have hX11 := (hX9.out.only hG10 hX9R).below hB11 (Nat.lt_of_lt_of_le hlX hG10.size)
      have hY11 := (hY9.out.only hG10 hY9R).below hB11 (Nat.lt_of_lt_of_le hlY hG10.size)
      have hbx11 := Lib.hid ((hbx9.out.only hG10 hDR).below hB11 (Nat.lt_of_lt_of_le hbx9.out.lt hG10.size))
      have hRd11 := Lib.hid (hRd10.below hB11)
      have hO11 := Lib.hid (hOwn.below hB11)
      have hG11 := Lib.hid (below_only2 hG10 hB11)
      have hBw11 := Lib.hid (below_only hBw9.out hG11.out hRB hBw9.out.size)
      have hend11 := Lib.hid (hdc9.out.ends.kept hG11.out.size (fun ad e => hG11.out.block _ (Nat.lt_of_lt_of_le (hlE.out ad e).2.2 hl9) (fun h => (hlE.out ad e).1 (by injection h))))
      have hbody11 := hRaH.out.below hBw11.out
      have hdc11 : RDoc W11 a c ae' ce' T.s := ⟨by rw [hnfT.out.1, hnfT.out.2]; exact hbody11, hend11.out, hdc9.out.le, hdc9.out.len⟩
      replace hdc11 := Lib.hid hdc11
      have hwant : Row W11 ab T.len T.g := row_keep hrow9.out hRd9.out hG11.out
      replace hwant := Lib.hid hwant
      have HL1 := Lib.hid (fun (W : World) (hW : Rd W R v T.s) => rleft_below W hW hgT)
      have HL2 := Lib.hid (fun (W : World) (hW : RDoc W a c ae' ce' T.s) => rleftd_any W hW hgT)
      have HD1 := Lib.hid (fun (W : World) (hW : Rd W R v T.s) => rdone_below W hW hgT)
      have HE2 := Lib.hid (fun (W : World) (hW : RDoc W a c ae' ce' T.s) => rend_any W hW hgT)
      have HBy := Lib.hid (fun (W : World) (h1 : Row W ac T.len T.g) (h2 : Row W ab T.len T.g) => same_below ac ab T.len cc cb T.g W h1 h2 (by omega))
      unfold rdV at HL2 HE2
      have xx0 := cell_regrown (show W11.cell? ⟨_, 0, none⟩ = some _ from hX11.cell 0)
      have xx1 := cell_regrown (show W11.cell? ⟨_, 1, none⟩ = some _ from hX11.cell 1)
      have xx2 := cell_regrown (show W11.cell? ⟨_, 2, none⟩ = some _ from hX11.cell 2)
      have yy0 := cell_regrown (show W11.cell? ⟨_, 0, none⟩ = some _ from hY11.cell 0)
      have yy1 := cell_regrown (show W11.cell? ⟨_, 1, none⟩ = some _ from hY11.cell 1)
      have yy2 := cell_regrown (show W11.cell? ⟨_, 2, none⟩ = some _ from hY11.cell 2)
      have kk0 := cell_regrown (show W11.cell? ⟨_, 0, none⟩ = some _ from hK11.cell 0)
      have kk1 := cell_regrown (show W11.cell? ⟨_, 1, none⟩ = some _ from hK11.cell 1)
      have kk2 := cell_regrown (show W11.cell? ⟨_, 2, none⟩ = some _ from hK11.cell 2)
      have hXh := Lib.hid hX11
      have hKh := Lib.hid hK11
      clear hX11 hY11 hK11 hX9 hY9 hbx9 hdc9 hrow9 hOwn hRd10 hG10 hB11 hRd9 hBw9 hbody11
      refine wp_region_quiet_below (by kernel_rfl) (by kernel_rfl) ?_
      repeat (go_big_quiet_step (first
        | (go_at_call 13; exact Calls.regrown_of (HBy.out _ (hO11.out.row.below (below_regrown _ _ _)) (hwant.out.below (below_regrown _ _ _))))
        | (go_at_call 22; exact Calls.regrown_of (HL1.out _ (hRd11.out.below (below_regrown _ _ _))))
        | (go_at_call 23; exact Calls.regrown_of (HL2.out _ (hdc11.out.below (below_regrown _ _ _))))
        | (go_at_call 24; exact Calls.regrown_of (HD1.out _ (hRd11.out.below (below_regrown _ _ _))))
        | (go_at_call 25; exact Calls.regrown_of (HE2.out _ (hdc11.out.below (below_regrown _ _ _))))))
      refine wpQuiet_nil ?_
      intro _ hw'
      obtain ⟨⟨dq, osq⟩, hw''⟩ := hw'
      subst hw''
      have hb12 := below_regrown W11 dq osq
      have hRd12 := Lib.hid (hRd11.out.below hb12)
      have hX12 := Lib.hid (hXh.out.below hb12 hXh.out.lt)
      have hK12 := hKh.out.below hb12 hKh.out.lt
      have hbx12 := Lib.hid (hbx11.out.below hb12 hbx11.out.lt)
      have hBw12 := Lib.hid (hBw11.out.trans (hb12.mono hBw11.out.size))
      have hend12 := Lib.hid (hend11.out.below hb12)
      have hs12 : W9.heap.size ≤ («Sort».grow (redrawn W11 dq) osq).heap.size := Nat.le_trans hG11.out.size hb12.size
      have HSp := Lib.hid (spoil_own (c := cc) (B := W9.heap.size) _ (by omega) hs12 (hO11.out.below hb12))
      dsimp only
      have k1 := hK12.cell 1
      simp only [List.getElem?_toArray, List.getElem?_cons_zero, List.getElem?_cons_succ] at k1
      have hle12 := hdc11.out.le
      have hlen12 := hdc11.out.len
      clear hb12 HL1 HL2 HD1 HE2 HBy xx0 xx1 xx2 yy0 yy1 yy2 kk0 kk1 kk2 hXh hKh hRd11 hbx11 hBw11 hend11 hO11 hwant hdc11 hK12
      generalize «Sort».grow (redrawn W11 dq) osq = W12 at *
      go_wp2_with fail
      refine HSp.out.mono ?_
      rintro e W13 ⟨⟨u13, rfl⟩, hB13⟩
      have hR9 : R < W9.heap.size := by omega
      have hD9 : D < W9.heap.size := by omega
      have hRd13 := hRd12.out.kept (hB13.block R hR9) (fun y hy => hB13.block y (by have := hlv y hy; omega))
      have hX13 := hX12.out.below hB13 hlX
      have hbx13 := hbx12.out.below hB13 hD9
      have hend13 := hend12.out.kept hB13.size (fun ad e => hB13.block _ (Nat.lt_of_lt_of_le (hlE.out ad e).2.2 hl9))
      have hBw13 := hBw12.out.trans (hB13.mono (by omega))
      have hRd14 := Lib.hid (((hRd13.away hDR hDv 0 (.slice a T.s.n c)).away hDR hDv 1 (.int .i64 (T.s.at_ : Nat))).away hDR hDv 2 (.slice ae' (T.s.op + 1) ce'))
      have hbx14 := Lib.hid (((((hbx13.put 0 (.slice a T.s.n c)).put 1 (.int .i64 (T.s.at_ : Nat))).put 2 (.slice ae' (T.s.op + 1) ce'))).as (ds := #[.slice a T.s.n c, .int .i64 (T.s.at_ : Nat), .slice ae' (T.s.op + 1) ce']) rfl)
      have hBw14 := Lib.hid (((hBw13.setCell (p := ⟨D, 0, none⟩) hDB (.slice a T.s.n c)).setCell (p := ⟨D, 1, none⟩) hDB (.int .i64 (T.s.at_ : Nat))).setCell (p := ⟨D, 2, none⟩) hDB (.slice ae' (T.s.op + 1) ce'))
      have hend14 := Lib.hid (hend13.kept (w' := ((W13.setCell ⟨D, 0, none⟩ (.slice a T.s.n c)).setCell ⟨D, 1, none⟩ (.int .i64 (T.s.at_ : Nat))).setCell ⟨D, 2, none⟩ (.slice ae' (T.s.op + 1) ce')) (by rw [store3_size]; exact Nat.le_refl _) (fun ad e => store3_heap _ _ _ (hlE.out ad e).2.1))
      have hs13 := hB13.size
      have hsz14 : W8.heap.size ≤ (((W13.setCell ⟨D, 0, none⟩ (.slice a T.s.n c)).setCell ⟨D, 1, none⟩ (.int .i64 (T.s.at_ : Nat))).setCell ⟨D, 2, none⟩ (.slice ae' (T.s.op + 1) ce')).heap.size := by rw [store3_size]; omega
      have x0 := hX13.cell 0
      have x1 := hX13.cell 1
      have x2 := hX13.cell 2
      have d0 := hbx13.cell 0
      have d1 := hbx13.cell 1
      have d2 := hbx13.cell 2
      simp only [List.getElem?_toArray, List.getElem?_cons_zero, List.getElem?_cons_succ] at x0 x1 x2 d0 d1 d2
      have g0 := hbx13.free 0
      have g1 := hbx13.free 1
      have g2 := hbx13.free 2
      have hlast : RBox (((W13.setCell ⟨D, 0, none⟩ (.slice a T.s.n c)).setCell ⟨D, 1, none⟩ (.int .i64 (T.s.at_ : Nat))).setCell ⟨D, 2, none⟩ (.slice ae' (T.s.op + 1) ce')) R D a c ae' ce' T.s :=
        ⟨hbx14.out, ⟨by have hb := hRaH.out.below hBw14.out; rw [← hnfT.out.1, ← hnfT.out.2] at hb; exact hb, hend14.out, hle12, hlen12⟩, hDR, fun ad e => ⟨(hlE.out ad e).1, (hlE.out ad e).2.1, Nat.lt_of_lt_of_le (hlE.out ad e).2.2 hsz14⟩⟩
      replace hlast := Lib.hid hlast
      clear HSp hRd12 hX12 hbx12 hBw12 hend12 hB13 hRd13 hX13 hbx13 hend13 hBw13 hbx14 hend14 hsz14 hs13 hs12
      go_wp2_with fail
      go_roundw
      case rel => exact ⟨k + 1, T.s, ae', ce', by omega, by go_num, hgT, hnfT.out.1, hnfT.out.2, hRd14.out, hlast.out, hBw14.out⟩
      case measure => simp [intOf]; omega
    · obtain rfl : k = sn := by omega
      have d0 := cell_regrown (show wr.cell? ⟨D, 0, none⟩ = some _ from hBox.box.cell 0)
      have d1 := cell_regrown (show wr.cell? ⟨D, 1, none⟩ = some _ from hBox.box.cell 1)
      have d2 := cell_regrown (show wr.cell? ⟨D, 2, none⟩ = some _ from hBox.box.cell 2)
      have HL1 := Lib.hid (fun (W : World) (hW : Rd W R v s) => rleft_below W hW hg)
      have HL2 := Lib.hid (fun (W : World) (hW : RDoc W a c ae ce s) => rleftd_any W hW hg)
      have HD1 := Lib.hid (fun (W : World) (hW : Rd W R v s) => rdone_below W hW hg)
      have HE2 := Lib.hid (fun (W : World) (hW : RDoc W a c ae ce s) => rend_any W hW hg)
      unfold rdV at HL2 HE2
      have hRd11 := Lib.hid hRd
      have hdc11 := Lib.hid hBox.doc
      have hBwh := Lib.hid hBw
      clear hRd hBox hBw
      go_upto_region 20 with (fail)
      refine wp_region_quiet_below (by kernel_rfl) (by kernel_rfl) ?_
      repeat (go_big_quiet_step (first
        | (go_at_call 22; exact Calls.regrown_of (HL1.out _ (hRd11.out.below (below_regrown _ _ _))))
        | (go_at_call 23; exact Calls.regrown_of (HL2.out _ (hdc11.out.below (below_regrown _ _ _))))
        | (go_at_call 24; exact Calls.regrown_of (HD1.out _ (hRd11.out.below (below_regrown _ _ _))))
        | (go_at_call 25; exact Calls.regrown_of (HE2.out _ (hdc11.out.below (below_regrown _ _ _))))))
      refine wpQuiet_nil ?_
      intro _ hw'
      obtain ⟨⟨dq, osq⟩, hw''⟩ := hw'
      subst hw''
      have hBf := hBwh.out.trans ((below_regrown wr dq osq).mono hBwh.out.size)
      clear HL1 HL2 HD1 HE2 hRd11 hdc11 d0 d1 d2
      go_wp2_with fail
      go_ret
      exact ⟨rfl, hBf⟩
theorem walk (ba : Option Addr) (bn bc : Nat) (bf : Nat → Nat) (sa : Option Addr) (sn sc : Nat) (sf : Nat → Pt) (w : World) (hR : Row w ba bn bf) (hbn : bn ≤ 140737488351232) (hbc : bn ≤ bc) (hS : PutsLie w sa sn sf) (hsn : sn ≤ maxLen) :
    Calls Try.prog 4 #[.slice ba bn bc, .slice sa sn sc] w fun e w' => e = .returned (.bool true) ∧ Below w.heap.size w w' := by
  by_cases hE : openE bn bf = 0
  · exact walk_ok ba bn bc bf sa sn sc sf w hR hbn hbc hS hsn hE
  · exact walk_no ba bn bc bf sa sn sc w hR hbn hbc hE
end saveReads
end Go.Proofs.Ytacnmnodbmbplaa
