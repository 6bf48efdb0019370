/-
  TuneCalls: the walk.
-/
import Derived.Test.YthecghmhohkcmaaGreatDoorTClW
import Derived.StillTailTactics
namespace Go.Proofs.YthecghmhohkcmaaGreatDoor.tuneCalls
open Go.RowKit Go.Shelf
set_option maxRecDepth 100000
set_option maxHeartbeats 2000000
set_option linter.unusedVariables false
set_option linter.unusedSimpArgs false

theorem walkH (r : Rp) (w p : Nat) (W : World) (hr : r.Ok) (hw : w < 65536) (hp : p < 256) (hH : r.H = true) :
    Calls Tryz.prog 7 #[pegV r, .int .u16 w, .int .u8 p] W fun e W' => e = .returned (.bool true) ∧ Below W.heap.size W W' := by
  have HS := Lib.hid (fun V => sums_any V)
  obtain ⟨A, X, Y, S, P, Pc, H⟩ := r
  cases hH
  unfold pegV
  have hx := Lib.hid (Whole.fresh W 24 (pegC ⟨A, X, Y, S, P, Pc, true⟩))
  have hb0 := Lib.hid ((Below.refl W.heap.size W).alloc (Nat.le_refl _) (.cells (pegC ⟨A, X, Y, S, P, Pc, true⟩) 24))
  unfold pegC at hx hb0
  go_enter Tryz.func7, Tryz.ntmps7
  go_wp2_with fail
  with_reducible refine (HS.out _).mono ?_
  rintro e W1 ⟨rfl, hb1⟩
  have hx1 := hx.out.below hb1 hx.out.lt
  have x6 := hx1.cell 6
  simp only [List.getElem?_toArray, List.getElem?_cons_zero, List.getElem?_cons_succ] at x6
  replace hb1 := hb0.out.trans (hb1.mono (by simp))
  clear hx hx1 hb0
  go_wp2_with fail
  with_reducible refine (HS.out _).mono ?_
  rintro e W2 ⟨rfl, hb2⟩
  replace hb1 := hb1.trans (hb2.mono hb1.size)
  clear x6 hb2
  go_wp2_with fail
  go_ret
  exact ⟨rfl, hb1⟩
/-- An access as it lies. -/
def w3 (w : World) (g i : Nat) (x : Ac) : Prop := w.cell? ⟨g, i * 3, none⟩ = some (.int .u8 (x.1 : Nat)) ∧ w.cell? ⟨g, i * 3 + 1, none⟩ = some (.int .u32 (x.2.1 : Nat)) ∧ w.cell? ⟨g, i * 3 + 2, none⟩ = some (.int .u8 (x.2.2 : Nat))
theorem walkN (r : Rp) (d y : Nat) (W : World) (hr : r.Ok) (hd : d < 65536) (hy : y < 256) (hH : r.H = false) :
    Calls Tryz.prog 7 #[pegV r, .int .u16 d, .int .u8 y] W fun e W' => e = .returned (.bool true) ∧ Below W.heap.size W W' := by
  have HS := Lib.hid (fun V => sums_any V)
  obtain ⟨A, X, Y, S, P, Pc, H⟩ := r
  cases hH
  unfold pegV
  have hx := Lib.hid (Whole.fresh W 24 (pegC ⟨A, X, Y, S, P, Pc, false⟩))
  have hb0 := Lib.hid ((Below.refl W.heap.size W).alloc (Nat.le_refl _) (.cells (pegC ⟨A, X, Y, S, P, Pc, false⟩) 24))
  unfold pegC at hx hb0
  have hr' := Lib.hid hr
  have hS : S < 256 := hr.S
  have hPc : Pc < 65536 := hr.Pc
  obtain ⟨q, hqe⟩ : ∃ q, q = (S + 255) % 256 := ⟨_, rfl⟩
  have hqi : ((S : Int) - 1) % 256 = (q : Int) := by omega
  have hq : q < 256 := by omega
  have hqh := Lib.hid hqe
  clear hr hqe
  go_enter Tryz.func7, Tryz.ntmps7
  go_wp2_with fail
  with_reducible refine (HS.out _).mono ?_
  rintro e W1 ⟨rfl, hb1⟩
  have hx1 := hx.out.below hb1 hx.out.lt
  have x0 := hx1.cell 0
  have x1 := hx1.cell 1
  have x2 := hx1.cell 2
  have x3 := hx1.cell 3
  have x4 := hx1.cell 4
  have x5 := hx1.cell 5
  have x6 := hx1.cell 6
  simp only [List.getElem?_toArray, List.getElem?_cons_zero, List.getElem?_cons_succ] at x0 x1 x2 x3 x4 x5 x6
  replace hb1 := hb0.out.trans (hb1.mono (by simp))
  replace hx1 := Lib.hid hx1
  replace hb1 := Lib.hid hb1
  clear hx hb0 HS
  go_wp2_with fail
  rw [hqi]
  obtain ⟨wo, hwo⟩ : ∃ wo, wo = W1 := ⟨_, rfl⟩
  go_loopw [9] (fun s9 wr => ∃ k : Nat, k ≤ 3 ∧ s9 = .int .u16 k ∧ wr = W1) (fun s9 _ => 3 - (intOf s9).toNat)
  case atStart => exact ⟨0, by omega, by go_num, rfl⟩
  case round =>
    obtain ⟨k, hk, rfl, rfl⟩ := hrel
    by_cases hlt : k < 3
    · obtain ⟨u, hu⟩ : ∃ u, u = (Pc + k) % 65536 := ⟨_, rfl⟩
      have hui : IntKind.u16.wrap ((Pc : Int) + (k : Int)) = (u : Int) := by simp only [IntKind.wrap_u16]; omega
      clear hu
      by_cases c1 : u = 256 + S
      · have t1 : ((u : Int) == 256 + (S : Int)) = true := by rw [beq_iff_eq]; omega
        go_wp2_with fail
        go_ret
        exact ⟨rfl, hb1.out⟩
      · have t1 : ((u : Int) == 256 + (S : Int)) = false := by rw [beq_eq_false_iff_ne]; omega
        by_cases c2 : u = 256 + q
        · have t2 : ((u : Int) == 256 + (q : Int)) = true := by rw [beq_iff_eq]; omega
          go_wp2_with fail
          go_ret
          exact ⟨rfl, hb1.out⟩
        · have t2 : ((u : Int) == 256 + (q : Int)) = false := by rw [beq_eq_false_iff_ne]; omega
          go_wp2_with fail
          go_roundw
          case rel => exact ⟨k + 1, by omega, by go_num, trivial⟩
          case measure => simp [intOf]; omega
    · obtain rfl : k = 3 := by omega
      clear hlt hk
      obtain ⟨u, hu⟩ : ∃ u, u = (d + (65536 - Pc)) % 65536 := ⟨_, rfl⟩
      have hui : IntKind.u16.wrap ((d : Int) - (Pc : Int)) = (u : Int) := by simp only [IntKind.wrap_u16]; omega
      by_cases c1 : d = 256 + S
      · have t1 : ((d : Int) == 256 + (S : Int)) = true := by rw [beq_iff_eq]; omega
        go_wp2_with fail
        go_ret
        exact ⟨rfl, hb1.out⟩
      have t1 : ((d : Int) == 256 + (S : Int)) = false := by rw [beq_eq_false_iff_ne]; omega
      by_cases c2 : d = 256 + q
      · have t2 : ((d : Int) == 256 + (q : Int)) = true := by rw [beq_iff_eq]; omega
        go_wp2_with fail
        go_ret
        exact ⟨rfl, hb1.out⟩
      have t2 : ((d : Int) == 256 + (q : Int)) = false := by rw [beq_eq_false_iff_ne]; omega
      by_cases c3 : u < 3
      · have t3 : decide ((u : Int) < 3) = true := decide_eq_true (by omega)
        go_wp2_with fail
        go_ret
        exact ⟨rfl, hb1.out⟩
      have t3 : decide ((u : Int) < 3) = false := decide_eq_false (by omega)
      obtain ⟨p1, hp1⟩ : ∃ p, p = (Pc + 1) % 65536 := ⟨_, rfl⟩
      obtain ⟨p2, hp2⟩ : ∃ p, p = (Pc + 2) % 65536 := ⟨_, rfl⟩
      obtain ⟨lo, hlo'⟩ : ∃ lo, lo = d % 256 := ⟨_, rfl⟩
      obtain ⟨hi, hhi'⟩ : ∃ hi, hi = d / 256 := ⟨_, rfl⟩
      have e1 : IntKind.u16.wrap ((Pc : Int) + 1) = (p1 : Int) := by simp only [IntKind.wrap_u16]; omega
      have e2 : IntKind.u16.wrap ((Pc : Int) + 2) = (p2 : Int) := by simp only [IntKind.wrap_u16]; omega
      have hlo : (d : Int) % 256 = (lo : Int) := by omega
      have hhi : (d : Int) / 256 = (hi : Int) := by omega
      have hll : lo < 256 := by omega
      have hhl : hi < 256 := by omega
      have hp1l : p1 < 65536 := by omega
      have hp2l : p2 < 65536 := by omega
      have hcol := Lib.hid (show (Pc ≠ p1 ∧ Pc ≠ p2 ∧ p1 ≠ p2) ∧ (d ≠ Pc ∧ d ≠ p1 ∧ d ≠ p2) by omega)
      have hnum := Lib.hid (show p1 = (Pc + 1) % 65536 ∧ p2 = (Pc + 2) % 65536 ∧ lo = d % 256 ∧ hi = d / 256 from ⟨hp1, hp2, hlo', hhi'⟩)
      clear hu hp1 hp2 hlo' hhi'
      have hW := Whole.fresh wr 45 #[.int .u16 Pc, .int .u8 63, .int .u16 p1, .int .u8 lo, .int .u16 p2, .int .u8 hi, .int .u16 d, .int .u8 111]
      have hCR : CRow (wr.alloc (.cells #[.int .u16 Pc, .int .u8 63, .int .u16 p1, .int .u8 lo, .int .u16 p2, .int .u8 hi, .int .u16 d, .int .u8 111] 45)) (some ⟨wr.heap.size, 0, none⟩) 4 (fun i => [Pc, p1, p2, d].getD i 0) (fun i => [63, lo, hi, 111].getD i 0) := by
        refine ⟨fun i h => ?_, .inr ⟨_, 0, rfl, hW.lt, fun i h => ?_⟩⟩
        · have : i = 0 ∨ i = 1 ∨ i = 2 ∨ i = 3 := by omega
          rcases this with rfl | rfl | rfl | rfl <;> simp <;> omega
        · have : i = 0 ∨ i = 1 ∨ i = 2 ∨ i = 3 := by omega
          rcases this with rfl | rfl | rfl | rfl <;> exact ⟨hW.cell _, hW.cell _⟩
      have HM := Lib.hid (memory_any (some ⟨wr.heap.size, 0, none⟩) 4 4 y _ _ _ hCR (by decide) hy)
      rw [m1_memC] at HM
      have hb2 := Lib.hid (hb1.out.alloc hb1.out.size (.cells #[.int .u16 Pc, .int .u8 63, .int .u16 p1, .int .u8 lo, .int .u16 p2, .int .u8 hi, .int .u16 d, .int .u8 111] 45))
      have hx2 := Lib.hid (hx1.out.alloc (.cells #[.int .u16 Pc, .int .u8 63, .int .u16 p1, .int .u8 lo, .int .u16 p2, .int .u8 hi, .int .u16 d, .int .u8 111] 45))
      clear hCR hW hx1 hb1
      go_wp2_with fail
      with_reducible refine HM.out.mono ?_
      rintro e W2 ⟨rfl, hH2, hb3⟩
      have hx3 := hx2.out.below hb3 hx2.out.lt
      have hb3' := hb2.out.trans (hb3.mono hb2.out.size)
      have hG : W.heap.size ≤ (wr.alloc (.cells #[.int .u16 Pc, .int .u8 63, .int .u16 p1, .int .u8 lo, .int .u16 p2, .int .u8 hi, .int .u16 d, .int .u8 111] 45)).heap.size := hb2.out.size
      clear HM hb2 hx2 hb3 x0 x1 x2 x3 x4 x5 x6
      generalize (wr.alloc (.cells #[.int .u16 Pc, .int .u8 63, .int .u16 p1, .int .u8 lo, .int .u16 p2, .int .u8 hi, .int .u16 d, .int .u8 111] 45)).heap.size = G at *
      obtain ⟨pn, hpn⟩ : ∃ p, p = (Pc + 3) % 65536 := ⟨_, rfl⟩
      have hpni : IntKind.u16.wrap ((Pc : Int) + 3) = (pn : Int) := by simp only [IntKind.wrap_u16]; omega
      have hpnl : pn < 65536 := by omega
      obtain ⟨s2, hs2⟩ : ∃ s2, s2 = (S + 254) % 256 := ⟨_, rfl⟩
      have hs2i : ((S : Int) - 2) % 256 = (s2 : Int) := by omega
      have hs2l : s2 < 256 := by omega
      have hgo := go_call (y := y) A X Y S P Pc d q p1 p2 lo hi pn hS hPc hd hqh.out hnum.out.1 hnum.out.2.1 hnum.out.2.2.1 hnum.out.2.2.2 hpn hcol.out
      have hbk := go_back (y := y) A X Y S P Pc d q p1 p2 lo hi pn hS hd hqh.out hpnl c1 c2
      rw [← hs2] at hgo hbk
      have hf0 : m1 y Pc p1 p2 d lo hi (Pc % 65536) = 63 := by
        obtain ⟨⟨n1, n2, n3⟩, n4, n5, n6⟩ := hcol.out
        rw [show Pc % 65536 = Pc by omega]
        unfold m1
        rw [upd_ne _ _ (by omega), upd_ne _ _ (by omega), upd_ne _ _ (by omega), upd_at]
      have HR1 := runlaw_at ⟨A, X, Y, S, P, Pc, false⟩ ⟨A, X, Y, s2, P, d, false⟩ 63 _ (callL S q Pc p1 p2 pn) 8 (some ⟨G, 0, none⟩) 65536 W2 hr'.out hH2.row (Nat.le_refl _) hf0 ok63 (by rw [hgo]) (by rw [hgo]) rfl
      have hLL : ∀ x ∈ callL S q Pc p1 p2 pn, x.2.1 < 65536 ∧ x.2.2 < 256 := by
        intro x hx
        simp only [callL, List.mem_cons, List.not_mem_nil, or_false] at hx
        rcases hx with rfl | rfl | rfl | rfl | rfl | rfl | rfl | rfl <;> refine ⟨?_, ?_⟩ <;> dsimp only <;> omega
      have hLn : (callL S q Pc p1 p2 pn).length = 8 := rfl
      clear hgo hf0 hs2
      generalize callL S q Pc p1 p2 pn = L at *
      generalize m1 y Pc p1 p2 d lo hi = f at *
      unfold pegV at HR1
      dsimp only at HR1
      replace HR1 := Lib.hid HR1
      replace hbk := Lib.hid hbk
      replace hLL := Lib.hid hLL
      replace hLn := Lib.hid hLn
      have x0 := hx3.cell 0
      have x1 := hx3.cell 1
      have x2 := hx3.cell 2
      have x3 := hx3.cell 3
      have x4 := hx3.cell 4
      have x5 := hx3.cell 5
      have x6 := hx3.cell 6
      simp only [List.getElem?_toArray, List.getElem?_cons_zero, List.getElem?_cons_succ] at x0 x1 x2 x3 x4 x5 x6
      replace hx3 := Lib.hid hx3
      replace hH2 := Lib.hid hH2
      replace hb3' := Lib.hid hb3'
      replace hG := Lib.hid hG
      clear hcol hnum hqh hpn t1 t2 t3 e1 e2 hlo hhi hui c1 c2 c3 hqi
      go_wp2_with fail
      with_reducible refine HR1.out.mono ?_
      rintro e W3 ⟨⟨la, lc, rfl, har, hlc⟩, hb4, hok2⟩
      go_upto_region 14 with (fail)
      have hZ4 := Whole.fresh W3 24 #[.int .u8 A, .int .u8 X, .int .u8 Y, .int .u8 s2, .int .u8 P, .int .u16 d, .bool false]
      have hx4 := (hx3.out.below hb4 hx3.out.lt).alloc (.cells #[.int .u8 A, .int .u8 X, .int .u8 Y, .int .u8 s2, .int .u8 P, .int .u16 d, .bool false] 24)
      have hH4 := (hH2.out.below hb4 hH2.out.lt).alloc (.cells #[.int .u8 A, .int .u8 X, .int .u8 Y, .int .u8 s2, .int .u8 P, .int .u16 d, .bool false] 24)
      have hB4 := (hb3'.out.trans (hb4.mono hb3'.out.size))
      have har4 := har.below ((Below.refl W3.heap.size W3).alloc (Nat.le_refl _) (.cells #[.int .u8 A, .int .u8 X, .int .u8 Y, .int .u8 s2, .int .u8 P, .int .u16 d, .bool false] 24))
      have hB5 := hB4.alloc hB4.size (.cells #[.int .u8 A, .int .u8 X, .int .u8 Y, .int .u8 s2, .int .u8 P, .int .u16 d, .bool false] 24)
      clear HR1 hx3 hH2 hb3' hb4 har hB4 x0 x1 x2 x3 x4 x5 x6
      generalize W3.alloc (.cells #[.int .u8 A, .int .u8 X, .int .u8 Y, .int .u8 s2, .int .u8 P, .int .u16 d, .bool false] 24) = W4 at *
      generalize W3.heap.size = D at *
      have x3 := hx4.cell 3
      have z3 := hZ4.cell 3
      have z5 := hZ4.cell 5
      simp only [List.getElem?_toArray, List.getElem?_cons_zero, List.getElem?_cons_succ] at x3 z3 z5
      go_wp2_with fail
      rw [hs2i]
      clear x3 z3 z5
      obtain ⟨g, rfl, hcs, hcl⟩ : ∃ g, la = some ⟨g, 0, none⟩ ∧ True ∧ True := by
        rcases har4 with h | ⟨g, rfl, _, _⟩
        · rw [h] at hLn; exact absurd hLn.out (by decide)
        · exact ⟨g, rfl, trivial, trivial⟩
      obtain ⟨N, hN⟩ : ∃ N : Nat, 65536 = N := ⟨_, rfl⟩
      rw [hN] at hH4 ⊢
      have hNN := Lib.hid hN
      clear hN
      go_loopw [14] (fun s14 wr => ∃ k : Nat, k ≤ 8 ∧ s14 = .int .i64 k ∧ Holds wr G N (wrK L f k) ∧ ARow wr (some ⟨g, 0, none⟩) L ∧ Whole wr W.heap.size 24 #[.int .u8 A, .int .u8 X, .int .u8 Y, .int .u8 S, .int .u8 P, .int .u16 Pc, .bool false] ∧
        Whole wr D 24 #[.int .u8 A, .int .u8 X, .int .u8 Y, .int .u8 s2, .int .u8 P, .int .u16 d, .bool false] ∧ Below W.heap.size W wr) (fun s14 _ => 8 - (intOf s14).toNat)
      case atStart => exact ⟨0, by omega, by go_num, hH4, har4, hx4, hZ4, hB5⟩
      case round =>
        clear hx4 hH4 har4 hZ4 hB5
        obtain ⟨k, hk, rfl, hH, har, hx, hZ, hB⟩ := hrel
        by_cases hlt : k < 8
        · have hkl : k < L.length := by have := hLn.out; omega
          obtain ⟨csG, hwG, hrG⟩ := id hH
          have n1 : W.heap.size ≠ G := whole_apart hx hwG (by decide)
          have n2 : D ≠ G := whole_apart hZ hwG (by decide)
          have hst : wrK L f (k + 1) = wr1 L[k] (wrK L f k) := by
            show wr1 (L.getD k (0, 0, 0)) _ = _
            rw [List.getD_eq_getElem?_getD, List.getElem?_eq_getElem hkl]
            rfl
          have hcell : w3 wr g k L[k] := by
            rcases har with h0 | ⟨g', hg', _, hc⟩
            · rw [h0] at hkl; exact absurd hkl (Nat.not_lt_zero _)
            · injection hg' with hg'
              injection hg' with hg' _
              subst hg'
              exact hc k hkl
          have hbd := hLL.out L[k] (List.getElem_mem hkl)
          have hgH := hH
          generalize L[k] = x at *
          obtain ⟨xk, xa, xv⟩ := x
          obtain ⟨a1, a2, a3⟩ := hcell
          obtain ⟨b1, b2⟩ := hbd
          dsimp only at a1 a2 a3 b1 b2
          rw [hNN.out] at b1
          clear hkl
          by_cases e2 : xk = 2
          · have t1 : ((xk : Int) == 2) = true := by rw [beq_iff_eq]; omega
            rw [show wr1 (xk, xa, xv) (wrK L f k) = upd (wrK L f k) xa xv by unfold wr1; rw [if_pos e2]] at hst
            have hfr := hH.drew.free xa
            have hce := hH.drew.cell xa b1
            have hput := hH.drew.put xa xv b2
            rw [← hst] at hput
            have har2 := ARow.away (w := wr.drew) (p := ⟨G, xa, none⟩) har hwG.drew (.int .u8 (xv : Nat))
            have hx2 := hx.drew.away (p := ⟨G, xa, none⟩) n1 (.int .u8 (xv : Nat))
            have hZ2 := hZ.drew.away (p := ⟨G, xa, none⟩) n2 (.int .u8 (xv : Nat))
            have hB2 := hB.drew.setCell (p := ⟨G, xa, none⟩) hG.out (.int .u8 (xv : Nat))
            have hrel := Lib.hid (And.intro hput (And.intro har2 (And.intro hx2 (And.intro hZ2 hB2))))
            clear hput har2 hx2 hZ2 hB2 hH har hx hZ hB hst hwG hrG hgH n1 n2 e2
            generalize wrK L f k xa = old at *
            go_upto_region 20 with (fail)
            go_still_tail 12, (by kernel_rfl)
            show wpList _ _ _ _ _ wr.drew
            generalize wr.drew = W9 at *
            go_wp2_with fail
            go_roundw
            case rel => exact ⟨k + 1, by omega, by go_num, hrel.out.1, hrel.out.2.1, hrel.out.2.2.1, hrel.out.2.2.2.1, hrel.out.2.2.2.2⟩
            case measure => simp [intOf]; omega
          · have t1 : ((xk : Int) == 2) = false := by rw [beq_eq_false_iff_ne]; omega
            rw [show wr1 (xk, xa, xv) (wrK L f k) = wrK L f k by unfold wr1; rw [if_neg e2]] at hst
            rw [← hst] at hH
            have hrel := Lib.hid (And.intro hH (And.intro har (And.intro hx (And.intro hZ hB))))
            clear hH har hx hZ hB hst hwG hrG hgH n1 n2 e2
            go_wp2_with fail
            go_roundw
            case rel => exact ⟨k + 1, by omega, by go_num, hrel.out.1, hrel.out.2.1, hrel.out.2.2.1, hrel.out.2.2.2.1, hrel.out.2.2.2.2⟩
            case measure => simp [intOf]; omega
        · obtain rfl : k = 8 := by omega
          clear hlt hk har
          obtain ⟨n6, hn6⟩ : ∃ n, (go (runM actM ⟨A, X, Y, s2, P, d, false⟩) [] ⟨some (wrK L f 8), []⟩).1.length = n := ⟨_, rfl⟩
          have hH' : Holds wr G 65536 (wrK L f 8) := by rw [hNN.out]; exact hH
          have HR2 := runlaw_at ⟨A, X, Y, s2, P, d, false⟩ ⟨A, X, Y, S, P, pn, false⟩ 111 (wrK L f 8) _ n6 (some ⟨G, 0, none⟩) 65536 wr hok2 hH'.row (Nat.le_refl _) hbk.out.1 ok111 hbk.out.2 rfl hn6
          unfold pegV at HR2
          dsimp only at HR2
          rw [hNN.out] at HR2
          clear hH'
          clear hn6 hbk
          generalize (go (runM actM ⟨A, X, Y, s2, P, d, false⟩) [] ⟨some (wrK L f 8), []⟩).1 = L6 at *
          replace HR2 := Lib.hid HR2
          have z0 := hZ.cell 0
          have z1 := hZ.cell 1
          have z2 := hZ.cell 2
          have z3 := hZ.cell 3
          have z4 := hZ.cell 4
          have z5 := hZ.cell 5
          have z6 := hZ.cell 6
          simp only [List.getElem?_toArray, List.getElem?_cons_zero, List.getElem?_cons_succ] at z0 z1 z2 z3 z4 z5 z6
          replace hx := Lib.hid hx
          replace hB := Lib.hid hB
          clear hH hZ
          go_wp2_with fail
          with_reducible refine HR2.out.mono ?_
          rintro e W6 ⟨⟨la6, lc6, rfl, -, -⟩, hb6, hok6⟩
          have hx6 := (hx.out.below hb6 hx.out.lt).alloc (.cells #[.int .u8 A, .int .u8 X, .int .u8 Y, .int .u8 S, .int .u8 P, .int .u16 pn, .bool false] 24)
          have x0 := hx6.cell 0
          have x1 := hx6.cell 1
          have x2 := hx6.cell 2
          have x3 := hx6.cell 3
          have x4 := hx6.cell 4
          have x5 := hx6.cell 5
          simp only [List.getElem?_toArray, List.getElem?_cons_zero, List.getElem?_cons_succ] at x0 x1 x2 x3 x4 x5
          have hb7 := hB.out.trans (hb6.mono hB.out.size)
          clear HR2 hx6 hb6 hok6 hx hB z0 z1 z2 z3 z4 z5 z6
          go_wp2_with fail
          go_ret
          exact ⟨rfl, hb7.alloc hb7.size _⟩
theorem walk (r : Rp) (d y : Nat) (W : World) (hr : r.Ok) (hd : d < 65536) (hy : y < 256) :
    Calls Tryz.prog 7 #[pegV r, .int .u16 d, .int .u8 y] W fun e W' => e = .returned (.bool true) ∧ Below W.heap.size W W' := by
  cases h : r.H
  · exact walkN r d y W hr hd hy h
  · exact walkH r d y W hr hd hy h
end Go.Proofs.YthecghmhohkcmaaGreatDoor.tuneCalls
