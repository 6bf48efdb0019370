/-
  SaveWrites: the walk.
-/
import Derived.Test.YtacnmnodbmbplaaDocs
import Derived.Test.YtacnmnodbmbplaaOpenPuts
import Derived.BigQuiet
import Derived.Deep.RegionWith
namespace Go.Proofs.Ytacnmnodbmbplaa
open Go.RowKit Go.Shelf
set_option maxRecDepth 100000
set_option maxHeartbeats 2000000
theorem St.doneN_le {s : St} (h : s.Good) : s.doneN ≤ 16777229 := by
  unfold St.doneN
  split
  · have := h.n; omega
  · omega
namespace saveWrites
theorem walk (sa : Option Addr) (sn sc : Nat) (sf : Nat → Pt) (w : World) (hS : PutsLie w sa sn sf) (hsn : sn ≤ maxLen) :
    Calls Try.prog 3 #[.slice sa sn sc] w fun e w' => e = .returned (.bool true) ∧ Below w.heap.size w w' := by
  have hHsn := Lib.hid hsn
  have hHS := Lib.hid hS
  have hN := Lib.hid (newWriter w.heap.size w w (Below.refl _ _) (Nat.le_refl _))
  clear hS hsn
  go_enter Try.func3, Try.ntmps3
  go_wp2_with fail
  refine hN.out.mono ?_
  rintro e W1 ⟨b, rfl, hL1⟩
  clear hN
  have hbl := hL1.wr.head.lt
  have hol := hL1.wr.body.lt
  have hBW1 := hL1.bel.size
  obtain ⟨D, hD⟩ : ∃ D, W1.heap.size = D := ⟨_, rfl⟩
  have hX := Whole.fresh W1 29 #[.slice none 0 0, .slice none 0 0, .int .i64 0]
  have hL2 := hL1.below ((Below.refl _ W1).alloc (Nat.le_refl _) (.cells #[.slice none 0 0, .slice none 0 0, .int .i64 0] 29))
  go_upto_region 3 with (fail)
  generalize W1.alloc (.cells #[.slice none 0 0, .slice none 0 0, .int .i64 0] 29) = W2 at *
  have hDoc0 : Doc W2 b (.slice none 0 0) D none 0 none 0 St.new := ⟨(by rw [← hD]; exact hX), ⟨Row.nil _ _ _, .inl rfl, Nat.le_refl _, Nat.le_refl _, hL2.wr.good⟩, by omega, (fun e => by cases e), (fun ad e => by cases e), (fun ad e => by cases e)⟩
  have hBD : w.heap.size ≤ D := by omega
  clear hX hL1 hbl hol
  go_wp2_with fail
  go_loopw [5] (fun s5 wr => ∃ (k : Nat) (v : Value) (s : St) (a : Option Addr) (c : Nat) (ao : Option Addr) (co : Nat), k ≤ sn ∧ s5 = .int .i64 k ∧ Live w.heap.size w wr b v s ∧ Doc wr b v D a c ao co s) (fun s5 _ => sn - (intOf s5).toNat)
  case atStart => exact ⟨0, _, _, _, _, _, _, Nat.zero_le _, rfl, hL2, hDoc0⟩
  case round =>
    clear hDoc0 hL2
    obtain ⟨k, v, s, a, c, ao, co, hk, rfl, hL, hDoc⟩ := hrel
    by_cases hlt : k < sn
    · rcases hHS.out with h0 | ⟨x, o, rfl, hx, hc⟩
      · omega
      have hxD : x ≠ D := by omega
      have hP := (hc k hlt).below hL.bel
      obtain ⟨c0, c1, c2, hrow, hrl, _⟩ := hP
      have HP := Lib.hid (puts_any (sf k).what (sf k).n (sf k).a (sf k).len (sf k).cap (sf k).f wr hL.wr hrow (by omega))
      unfold putV at HP
      have hli : (k : Int) < (sn : Int) := by omega
      have hk2 : (k : Int) + 1 ≤ 9223372036854775807 := by have := hHsn.out; unfold maxLen at this; omega
      have hw64 : IntKind.i64.wrap ((k : Int) + 1) = (k : Int) + 1 := by have := hHsn.out; unfold maxLen at this; simp only [IntKind.wrap_i64]; omega
      replace hk2 := Lib.hid hk2
      have hrl2 := Lib.hid hrl
      clear hc hrow hrl
      go_wp2_with fail
      refine HP.out.mono ?_
      rintro e W3 ⟨rfl, v', h1, h2, h3⟩
      have hL' := hL.step h1 h2 h3
      have hDoc' := hDoc.puts h2 h3
      have hx3 : x < W3.heap.size := Nat.lt_of_lt_of_le hx hL'.bel.size
      obtain ⟨c0, c1, c2, hrow, hrl, _⟩ := (show PutAt W3 x (o + k * 3) (sf k) from by
        rcases hHS.out with h0 | ⟨x', o', e, hx', hc⟩
        · omega
        · injection e with e
          injection e with e1 e2 e3
          subst e1 e2
          exact (hc k hlt).below hL'.bel)
      clear HP h1 h2 h3 hL hDoc
      obtain ⟨s', hs'⟩ : ∃ s', s.when (s.step (sf k).what (sf k).n (sf k).len (sf k).f) = s' := ⟨_, rfl⟩
      have HR := rdoes_any (sf k).what (sf k).n (sf k).a (sf k).len (sf k).cap (sf k).f W3.drew (hDoc'.rw.below (Below.drew (Below.refl _ W3))) (hrow.below (Below.drew (Below.refl _ W3))) (by omega)
      rw [hs'] at HR hL'
      unfold rwV putV at HR
      replace HR := Lib.hid HR
      have b0 := hDoc'.box.cell 0
      have b1 := hDoc'.box.cell 1
      have b2 := hDoc'.box.cell 2
      simp only [List.getElem?_toArray, List.getElem?_cons_zero, List.getElem?_cons_succ] at b0 b1 b2
      have hDocH := Lib.hid hDoc'
      have hLH := Lib.hid hL'
      clear hDoc' hL' hrow hrl
      go_upto_region 7 with (fail)
      go_region_with (first
          | (go_at_call 10; refine (HR.out).mono ?_; rintro e W4 ⟨a', c', ao', co', rfl, hRW4, hB4, hN1, hN2⟩; have hB4' : Below W3.heap.size W3 W4 := Below.trans (Below.drew (Below.refl _ W3)) hB4; have k0 := (hB4'.cell (p := ⟨x, o + k * 3, none⟩) hx3).trans c0; have k1 := (hB4'.cell (p := ⟨x, o + k * 3 + 1, none⟩) hx3).trans c1; have k2 := (hB4'.cell (p := ⟨x, o + k * 3 + 2, none⟩) hx3).trans c2; have hX4 := hDocH.out.box.below hB4' hDocH.out.box.lt; have q0 := hX4.cell 0; have q1 := hX4.cell 1; have q2 := hX4.cell 2; simp only [List.getElem?_toArray, List.getElem?_cons_zero, List.getElem?_cons_succ] at q0 q1 q2; have u0 := hX4.free 0; have u1 := hX4.free 1; have u2 := hX4.free 2))
      all_goals
        have hDoc2 := hDocH.out.does hLH.out.wr hRW4 hB4' hN1 hN2
        have hLq := ((((hLH.out.below hB4').setD hDocH.out.nb hDocH.out.nv hBD 0 (.slice a' s'.n c')).setD hDocH.out.nb hDocH.out.nv hBD 1 (.slice ao' s'.op co')).setD hDocH.out.nb hDocH.out.nv hBD 2 (.int .i64 (s'.e : Nat)))
        clear hDocH hLH hRW4 hB4' hN1 hN2 HR k0 k1 k2 hX4 q0 q1 q2 u0 u1 u2 c0 c1 c2 b0 b1 b2 hB4 hx3 hrl2
        generalize ((W4.setCell ⟨D, 0, none⟩ (.slice a' s'.n c')).setCell ⟨D, 1, none⟩ (.slice ao' s'.op co')).setCell ⟨D, 2, none⟩ (.int .i64 (s'.e : Nat)) = W5 at *
        have b0 := hDoc2.box.cell 0
        have b1 := hDoc2.box.cell 1
        have b2 := hDoc2.box.cell 2
        simp only [List.getElem?_toArray, List.getElem?_cons_zero, List.getElem?_cons_succ] at b0 b1 b2
        have HR := rdone_all W5 hDoc2.rw
        have hle := St.doneN_le hDoc2.rw.good
        unfold rwV at HR
        replace HR := Lib.hid HR
        replace hDoc2 := Lib.hid hDoc2
        replace hLq := Lib.hid hLq
        obtain ⟨E, hE⟩ : ∃ E, s'.doneE = E := ⟨_, rfl⟩
        obtain ⟨M, hM⟩ : ∃ M, s'.doneN = M := ⟨_, rfl⟩
        rw [hE, hM] at HR
        rw [hM] at hle
        go_wp2_with fail
        refine HR.out.mono ?_
        rintro e W6 ⟨a1, c1, rfl, hR6, hB6⟩
        have hDoc6 := Lib.hid (hDoc2.out.below hB6)
        have hL6 := Lib.hid (hLq.out.below hB6)
        have HW := wdone_both W6 hL6.out.wr
        rw [hE, hM] at HW
        replace HW := Lib.hid HW
        clear HR hDoc2 hLq hB6 b0 b1 b2
        go_wp2_with fail
        refine HW.out.mono ?_
        rintro e W7 ⟨a2, c2, rfl, hO7, hB7⟩
        have hB7' := Lib.hid hB7
        have HS := Lib.hid (same_any a2 a1 M c2 c1 _ W7 hO7.row (hR6.below hB7) (by omega))
        clear HW hB7 hR6
        have hOH := Lib.hid hO7
        clear hO7
        go_wp2_with fail
        refine HS.out.mono ?_
        rintro e W8 ⟨rfl, q, rfl⟩
        have HP2 := Lib.hid (spoil_own (B := W6.heap.size) (c := c2) (W7.drewN q) (by omega) hB7'.out.size (show OwnRow W6.heap.size (W7.drewN q) a2 M _ from hOH.out))
        clear HS
        go_wp2_with fail
        refine HP2.out.mono ?_
        rintro e W9 ⟨⟨u, rfl⟩, hB9⟩
        have hB79 : Below W6.heap.size W6 W9 := (below_drewN hB7'.out q).trans hB9
        have hL9 := hL6.out.below hB79
        have hDoc9 := hDoc6.out.below hB79
        clear HP2 hB9 hB7' hOH hB79 hL6 hDoc6
        go_wp2_with fail
        go_roundw
        case rel => exact ⟨k + 1, v', s', a', c', ao', co', by omega, by go_num, hL9, hDoc9⟩
        case measure => simp [intOf]; omega
    · obtain rfl : k = sn := by omega
      have b0 := hDoc.box.cell 0
      have b1 := hDoc.box.cell 1
      have b2 := hDoc.box.cell 2
      simp only [List.getElem?_toArray, List.getElem?_cons_zero, List.getElem?_cons_succ] at b0 b1 b2
      have HR := rdone_all wr hDoc.rw
      have hle := St.doneN_le hDoc.rw.good
      unfold rwV at HR
      replace HR := Lib.hid HR
      have hDocH := Lib.hid hDoc
      have hLH := Lib.hid hL
      clear hDoc hL
      obtain ⟨E, hE⟩ : ∃ E, s.doneE = E := ⟨_, rfl⟩
      obtain ⟨M, hM⟩ : ∃ M, s.doneN = M := ⟨_, rfl⟩
      rw [hE, hM] at HR
      rw [hM] at hle
      go_wp2_with fail
      refine HR.out.mono ?_
      rintro e W6 ⟨a1, c1, rfl, hR6, hB6⟩
      have hDoc6 := Lib.hid (hDocH.out.below hB6)
      have hL6 := Lib.hid (hLH.out.below hB6)
      have HW := wdone_both W6 hL6.out.wr
      rw [hE, hM] at HW
      replace HW := Lib.hid HW
      clear HR hDocH hLH hB6 b0 b1 b2
      go_wp2_with fail
      refine HW.out.mono ?_
      rintro e W7 ⟨a2, c2, rfl, hO7, hB7⟩
      have hDoc7 := hDoc6.out.below hB7
      have hL7 := Lib.hid (hL6.out.below hB7)
      have HS := Lib.hid (fun W (h1 : Row W a2 M (headF s.n s.f)) (h2 : Row W a1 M (headF s.n s.f)) => same_any a2 a1 M c2 c1 _ W h1 h2 (by omega))
      have HT := Lib.hid (fun W (h1 : Row W a s.n s.f) => show Calls Try.prog 15 #[.slice a s.n c] W fun e w' => e = .returned (.int .u32 (sumN s.f s.n : Nat)) ∧ w' = W from (sum_any a s.n c s.f W h1 (by have := hDoc7.rw.good.n; omega)).mono fun _ _ h => ⟨h.1, h.2.symm⟩)
      have HU := Lib.hid (fun W (h1 : Row W a s.n s.f) => rsum_any a s.n c s.f W h1 (by have := hDoc7.rw.good.n; omega))
      have k1 := Lib.hid hO7.row
      have k2 := Lib.hid (hR6.below hB7)
      have k3 := Lib.hid hDoc7.rw.body
      have b0 := hDoc7.box.cell 0
      simp only [List.getElem?_toArray, List.getElem?_cons_zero] at b0
      clear HW hDoc6 hL6 hB7 hR6 hO7 hDoc7 hle
      go_upto_region 15 with (fail)
      go_quiet (first
        | (go_at_call 13; exact Calls.quiet_of (HS.out _ k1.out k2.out))
        | (go_at_call 15; exact Calls.quiet_of_same (HT.out _ k3.out))
        | (go_at_call 16; exact Calls.quiet_of_same (HU.out _ k3.out)))
      have hB9 := below_drewN hL7.out.bel nq
      clear HS HT HU k1 k2 k3 b0 hL7
      go_wp2_with fail
      go_ret
      exact ⟨rfl, hB9⟩
end saveWrites
end Go.Proofs.Ytacnmnodbmbplaa
