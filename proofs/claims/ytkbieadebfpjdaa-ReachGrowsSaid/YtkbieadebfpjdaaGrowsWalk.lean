/-
  ReachGrows: the walk.
-/
import Derived.Test.YtkbieadebfpjdaaGrows
import Derived.Lib.QuietBelow
import Derived.Deep.RegionHeld3
import Derived.Deep.DeepCutAuto
import Derived.BigQuiet
namespace Go.Proofs.Ytkbieadebfpjdaa
open Go.RowKit Go.Shelf
set_option maxRecDepth 100000
set_option maxHeartbeats 4000000
set_option linter.unusedVariables false
namespace reachGrows
theorem walk (cd : Nat) (nm : ByteArray) (m u wd : Nat) (r : Rg) (a : Option Addr) (n c : Nat) (f : Nat → Nat) (w : World) (hm : m < 256) (hu : u < 256) (hr : r.Ok) (hR : Row w a n f) (hnc : n ≤ c) (hn : n ≤ 140737488351232) :
    Calls Try.prog 4 #[codeV cd nm m u wd, r.v, .slice a n c] w fun e w' => e = .returned (.bool true) ∧ Below w.heap.size w w' := by
  have hC := (Whole.fresh w 34 #[.int .u8 cd, .string nm, .int .u8 m, .int .u8 u, .int .u8 wd]).alloc (.cells (rgC r.A r.X r.Y r.S r.D r.PC r.B r.K r.P r.E) 24)
  have hG := Whole.fresh (w.alloc (.cells #[.int .u8 cd, .string nm, .int .u8 m, .int .u8 u, .int .u8 wd] 34)) 24 (rgC r.A r.X r.Y r.S r.D r.PC r.B r.K r.P r.E)
  have hB := ((Below.refl w.heap.size w).alloc (Nat.le_refl _) (.cells #[.int .u8 cd, .string nm, .int .u8 m, .int .u8 u, .int .u8 wd] 34)).alloc (by simp) (.cells (rgC r.A r.X r.Y r.S r.D r.PC r.B r.K r.P r.E) 24)
  rw [World.size_alloc] at hG
  have HO := fun k (G : Nat) W (hW : Row W (some ⟨G, 0, none⟩) k f) => course_any cd nm m u wd r (some ⟨G, 0, none⟩) k k f W hm hu hr hW (Nat.le_refl _)
  have HR1 := Lib.hid (And.intro (hR.below hB) (And.intro hnc hn))
  unfold codeV Rg.v at *
  unfold rgC at *
  generalize hw1 : (w.alloc (.cells #[.int .u8 cd, .string nm, .int .u8 m, .int .u8 u, .int .u8 wd] 34)).alloc (.cells #[.int .u16 r.A, .int .u16 r.X, .int .u16 r.Y, .int .u16 r.S, .int .u16 r.D, .int .u16 r.PC, .int .u8 r.B, .int .u8 r.K, .int .u8 r.P, .bool r.E] 24) = W1 at *
  replace hw1 := Lib.hid hw1
  have HF := Lib.hid (fun k => step_any m u r f k)
  have HO' := Lib.hid HO
  replace hB := Lib.hid hB
  clear HO hR hnc hn hm hu hr
  go_enter Try.func4, Try.ntmps4
  go_upto_region 1 with (fail)
  rw [hw1.out]
  generalize hXe : w.heap.size = X at *
  replace hXe := Lib.hid hXe
  go_wp2_with fail
  go_loopw [7, 8, 9] (fun s7 s8 s9 wr => ∃ (k : Nat) (la : Option Addr) (lc : Nat), k ≤ 13 ∧ s9 = .int .i64 k ∧ s7 = .slice la (lastL m u r f k).length lc ∧ s8 = .bool (endE m u r f k) ∧ Hid (ARow wr la (lastL m u r f k)) ∧ Below W1.heap.size W1 wr) (fun _ _ s9 _ => 13 - (intOf s9).toNat)
  case atStart => exact ⟨0, none, 0, by omega, rfl, rfl, rfl, Lib.hid (.inl rfl), Below.refl _ _⟩
  case round =>
    obtain ⟨k, la, lc, hk, rfl, rfl, rfl, hL, hBw⟩ := hrel
    obtain ⟨wo, rfl⟩ : ∃ wo, wo = wr := ⟨_, rfl⟩
    by_cases hlt : k ≤ n ∧ k ≤ 12
    · as_aux_lemma =>
      obtain ⟨h1, h2⟩ := hlt
      have hSt := HF.out k
      obtain ⟨hRw, hkc, hn⟩ := HR1.out
      have HOk := fun (G : Nat) W (hW : Row W (some ⟨G, 0, none⟩) k f) => HO'.out k G W hW
      have eL : lastL m u r f (k + 1) = (courseM m u r k f).2.l := rfl
      have eE : endE m u r f (k + 1) = !(courseM m u r k f).2.st := rfl
      generalize (placeOf (courseM m u r k f)).1 = pa at *
      generalize (placeOf (courseM m u r k f)).2 = pb at *
      generalize (pcOf (courseM m u r k f)) = pc at *
      generalize (courseM m u r k f).2.l = l1 at *
      generalize (courseM m u r k f).2.st = st at *
      generalize hl0 : lastL m u r f k = l0 at *
      generalize he0 : endE m u r f k = e0 at *
      have hRk : Row wo a k f := (hRw.below hBw).take h1
      have hkc2 : k ≤ c := by omega
      have H1 : ∀ W, Below wo.heap.size wo W → Calls Try.prog 13 #[.slice a k c] W fun e W' => ∃ G, e = .returned (.slice (some ⟨G, 0, none⟩) k k) ∧ Row W' (some ⟨G, 0, none⟩) k f ∧ Below wo.heap.size wo W' ∧ Below W.heap.size W W' := fun W hW => by
        refine (copied_any a k c f W (hRk.below hW) (by omega)).mono ?_
        rintro e W' ⟨G, rfl, h1, _, h3⟩
        exact ⟨G, rfl, h1.row, hW.trans (h3.mono hW.size), h3⟩
      have H2 : ∀ (G : Nat) W, Below wo.heap.size wo W → Row W (some ⟨G, 0, none⟩) k f → Calls Try.prog 12 #[.agg #[.int .u8 cd, .string nm, .int .u8 m, .int .u8 u, .int .u8 wd], .agg #[.int .u16 r.A, .int .u16 r.X, .int .u16 r.Y, .int .u16 r.S, .int .u16 r.D, .int .u16 r.PC, .int .u8 r.B, .int .u8 r.K, .int .u8 r.P, .bool r.E], .slice (some ⟨G, 0, none⟩) k k] W fun e W' => ∃ lv, e = .returned (.tuple #[lv, .agg #[.int .u32 pa, .bool pb], .int .u16 pc, .bool (!st)]) ∧ W'.ownsRow wo.heap.size 42 3 lv l1.length (accV l1) ∧ Below wo.heap.size wo W' ∧ Below W.heap.size W W' := fun G W hW hr => by
        refine (HOk G W hr).mono ?_
        rintro e W' ⟨lv, rfl, h1, h3⟩
        exact ⟨lv, rfl, own_mono h1 hW.size, hW.trans (h3.mono hW.size), h3⟩
      have hC2 := hC.below hBw hC.lt
      have hG2 := hG.below hBw hG.lt
      have HCell : ∀ W, Below wo.heap.size wo W → W.cell? ⟨X, 0, none⟩ = some (.int .u8 cd) ∧ W.cell? ⟨X, 1, none⟩ = some (.string nm) ∧ W.cell? ⟨X, 2, none⟩ = some (.int .u8 m) ∧ W.cell? ⟨X, 3, none⟩ = some (.int .u8 u) ∧ W.cell? ⟨X, 4, none⟩ = some (.int .u8 wd) ∧ W.cell? ⟨X + 1, 0, none⟩ = some (.int .u16 r.A) ∧ W.cell? ⟨X + 1, 1, none⟩ = some (.int .u16 r.X) ∧ W.cell? ⟨X + 1, 2, none⟩ = some (.int .u16 r.Y) ∧ W.cell? ⟨X + 1, 3, none⟩ = some (.int .u16 r.S) ∧ W.cell? ⟨X + 1, 4, none⟩ = some (.int .u16 r.D) ∧ W.cell? ⟨X + 1, 5, none⟩ = some (.int .u16 r.PC) ∧ W.cell? ⟨X + 1, 6, none⟩ = some (.int .u8 r.B) ∧ W.cell? ⟨X + 1, 7, none⟩ = some (.int .u8 r.K) ∧ W.cell? ⟨X + 1, 8, none⟩ = some (.int .u8 r.P) ∧ W.cell? ⟨X + 1, 9, none⟩ = some (.bool r.E) := fun W hW => by
        have x := hC2.below hW hC2.lt
        have y := hG2.below hW hG2.lt
        exact ⟨x.cell 0, x.cell 1, x.cell 2, x.cell 3, x.cell 4, y.cell 0, y.cell 1, y.cell 2, y.cell 3, y.cell 4, y.cell 5, y.cell 6, y.cell 7, y.cell 8, y.cell 9⟩
      have hB0 : Below wo.heap.size wo wo := Below.refl _ _
      obtain ⟨d0, d1, d2, d3, d4, d5, d6, d7, d8, d9, d10, d11, d12, d13, d14⟩ := HCell wo hB0
      replace H1 := Lib.hid H1
      replace H2 := Lib.hid H2
      replace HCell := Lib.hid HCell
      replace hL := Lib.hid (ARow.below hL.out hB0)
      replace hSt := Lib.hid hSt
      replace eL := Lib.hid eL
      replace eE := Lib.hid eE
      have hbw := Lib.hid hBw
      clear HF HR1 HO' hRw hkc hn HOk hl0 he0 hRk hC2 hG2 hC hG hBw
      generalize hx1 : X + 1 = X1 at *
      replace hx1 := Lib.hid hx1
      have hB0h := Lib.hid hB0
      clear hB0
      go_upto_region 6 with (fail)
      go_cut [10, 11, 12, 13] (fun s10 s11 s12 s13 W => ∃ (Z : Nat) (a1 : Option Addr) (c1 : Nat), s10 = .slice a1 l1.length c1 ∧ s11 = .pointer (some ⟨Z, 0, none⟩) ∧ s12 = .int .u16 pc ∧ s13 = .bool (!st) ∧ Hid (ARow W a1 l1 ∧ l1.length ≤ c1) ∧ Below wo.heap.size wo W ∧ W.cell? ⟨Z, 0, none⟩ = some (.int .u32 pa) ∧ W.cell? ⟨Z, 1, none⟩ = some (.bool pb))
      case first =>
        as_aux_lemma =>
        go_region_held3 (fun W => W.cell? ⟨X, 0, none⟩ = some (.int .u8 cd) ∧ W.cell? ⟨X, 1, none⟩ = some (.string nm) ∧ W.cell? ⟨X, 2, none⟩ = some (.int .u8 m) ∧ W.cell? ⟨X, 3, none⟩ = some (.int .u8 u) ∧ W.cell? ⟨X, 4, none⟩ = some (.int .u8 wd) ∧ W.cell? ⟨X1, 0, none⟩ = some (.int .u16 r.A) ∧ W.cell? ⟨X1, 1, none⟩ = some (.int .u16 r.X) ∧ W.cell? ⟨X1, 2, none⟩ = some (.int .u16 r.Y) ∧ W.cell? ⟨X1, 3, none⟩ = some (.int .u16 r.S) ∧ W.cell? ⟨X1, 4, none⟩ = some (.int .u16 r.D) ∧ W.cell? ⟨X1, 5, none⟩ = some (.int .u16 r.PC) ∧ W.cell? ⟨X1, 6, none⟩ = some (.int .u8 r.B) ∧ W.cell? ⟨X1, 7, none⟩ = some (.int .u8 r.K) ∧ W.cell? ⟨X1, 8, none⟩ = some (.int .u8 r.P) ∧ W.cell? ⟨X1, 9, none⟩ = some (.bool r.E))
          (first | exact HCell.out _ hB1.out | exact HCell.out _ hB2.out | exact HCell.out _ (bel_alloc hB2.out _) | exact HCell.out _ (bel_alloc hB1.out _) | exact HCell.out _ (bel_set2 hB2.out (Nat.le_refl _) _ _) | exact HCell.out _ (bel_set2 hB2.out hB1.out.size _ _) | go_keep)
          (first
            | (go_at_call 13; (with_reducible refine (H1.out _ ?_).mono ?_); (repeat' (first | (with_reducible exact hB0h.out) | (with_reducible refine Below.drew ?_) | (with_reducible refine below_drewN ?_ _) | (with_reducible refine bel_alloc ?_ _))); rintro e W5 ⟨G, rfl, hRc, hB1, hF1⟩; (first | have hz := Lib.hid (wh_after hF1) | have hz := Lib.hid (wh_after2 hF1) | skip); replace hB1 := Lib.hid hB1; replace hRc := Lib.hid hRc)
            | (go_at_call 12; (with_reducible refine (H2.out _ _ ?_ ?_).mono ?_); (repeat' (first | (with_reducible exact hB1.out) | (with_reducible exact hRc.out) | (with_reducible refine Below.drew ?_) | (with_reducible refine below_drewN ?_ _) | (with_reducible refine bel_alloc ?_ _) | (with_reducible refine row_drew ?_) | (with_reducible refine row_drewN ?_ _) | (with_reducible refine row_alloc ?_ _))); rintro e W6 ⟨lv, rfl, hO6, hB2, hF2⟩; (first | have hz := Lib.hid (wh_after hF2) | have hz := Lib.hid (wh_after2 hF2) | have hz := Lib.hid (hz.out.below hF2 hz.out.lt) | skip); (first | (have f0 := (wh_cells hz.out).1; have f1 := (wh_cells hz.out).2.1; have y0 := (wh_cells hz.out).2.2.1; have y1 := (wh_cells hz.out).2.2.2) | skip); replace hB2 := Lib.hid hB2; replace hO6 := Lib.hid hO6))
        all_goals
          first
            | (have h := fin_set pa pb hO6.out hB2.out hz.out (Nat.le_refl _)
               obtain ⟨a1, c1, rfl, h⟩ := h
               go_wp2_with fail
               go_meet
               exact ⟨_, _, _, rfl, rfl, rfl, rfl, h⟩)
            | (have h := fin_set pa pb hO6.out hB2.out hz.out hB1.out.size
               obtain ⟨a1, c1, rfl, h⟩ := h
               go_wp2_with fail
               go_meet
               exact ⟨_, _, _, rfl, rfl, rfl, rfl, h⟩)
            | (have h := fin_alloc pa pb hO6.out hB2.out
               obtain ⟨a1, c1, rfl, h⟩ := h
               go_wp2_with fail
               go_meet
               exact ⟨_, _, _, rfl, rfl, rfl, rfl, h⟩)
      case rest =>
        obtain ⟨Z, a1, c1, rfl, rfl, rfl, rfl, hA, hB7, z0, z1⟩ := hcut
        have hL7 := Lib.hid (hL.out.below hB7)
        have hxy := hSt.out.pre.length_le
        have hy8 := hSt.out.len
        have hyc := hA.out.2
        have HS := Lib.hid (same_acc a1 la l0 c1 lc wc (hA.out.1.pre hSt.out.pre) hL7.out (by omega))
        have HS2 := Lib.hid (fun (e : l1 = l0) W (hW : Below wc.heap.size wc W) => same_acc a1 la l1 c1 lc W (hA.out.1.below hW) (e ▸ hL7.out.below hW) (by omega))
        clear H1 H2 HCell hL d0 d1 d2 d3 d4 d5 d6 d7 d8 d9 d10 d11 d12 d13 d14 hB0h
        generalize hlx : l0.length = x at *
        generalize hly : l1.length = y at *
        have t1 : decide (y < x) = false := decide_eq_false (by omega)
        go_wp2_with fail
        refine HS.out.mono ?_
        rintro e W8' ⟨rfl, q, rfl⟩
        have hq : Below wc.heap.size wc (wc.drewN q) := below_drewN (Below.refl _ wc) q
        have hB8 := Lib.hid (hB7.trans (hq.mono hB7.size))
        have hA8 := Lib.hid (And.intro (hA.out.1.below hq) hA.out.2)
        have HS8 := Lib.hid (fun (e : l1 = l0) => HS2.out e _ hq)
        have z0 : (wc.drewN q).cell? ⟨Z, 0, none⟩ = some (.int .u32 pa) := z0
        have z1 : (wc.drewN q).cell? ⟨Z, 1, none⟩ = some (.bool pb) := z1
        clear HS HS2 hA hB7 hq hL7
        generalize wc.drewN q = W8 at *
        clear t1
        go_wp2_with fail
        go_loopw [14, 15] (fun s14 s15 wx => ∃ i : Nat, i ≤ y ∧ s15 = .int .i64 i ∧ s14 = .int .i64 (reads (l1.take i) : Nat) ∧ wx = W8) (fun _ s15 _ => y - (intOf s15).toNat)
        case atStart => exact ⟨0, Nat.zero_le _, rfl, rfl, rfl⟩
        case round =>
          obtain ⟨i, hi, rfl, rfl, rfl⟩ := hrel
          have hr8 : reads (l1.take i) ≤ 8 := Nat.le_trans (reads_le _) (by rw [List.length_take]; omega)
          by_cases hiy : i < y
          · as_aux_lemma =>
            have hil : i < l1.length := by omega
            obtain ⟨g, rfl, hg, hcell⟩ := hA8.out.1.resolve_left (fun e => by rw [e] at hil; exact absurd hil (Nat.not_lt_zero _))
            obtain ⟨d0, d1, d2⟩ := hcell i hil
            have hk1 := hSt.out.kind l1[i] (List.getElem_mem hil)
            have hrt := reads_take l1 i hil
            generalize l1[i].1 = kd at *
            generalize l1[i].2 = pl at *
            generalize hR1 : reads (l1.take (i + 1)) = R1 at *
            replace hR1 := Lib.hid hR1
            generalize reads (l1.take i) = R0 at *
            have hiy2 := Lib.hid hiy
            have hlx2 := Lib.hid hlx
            have hly2 := Lib.hid hly
            clear hcell d2 z0 z1 HS8 hlx hly hil hxy
            rcases hk1 with rfl | ⟨rfl, hpl⟩
            · rw [if_neg (by decide)] at hrt
              obtain rfl : R1 = R0 := hrt
              go_wp2_with fail
              go_roundw
              case rel => exact ⟨i + 1, by omega, by go_num, by rw [hR1.out], trivial⟩
              case measure => simp [intOf]; omega
            · rw [if_pos rfl] at hrt
              subst hrt
              have t1 : decide (16777216 ≤ pl) = false := decide_eq_false (by omega)
              have t2 : decide ((16777216 : Int) ≤ (pl : Int)) = false := decide_eq_false (by omega)
              clear hpl
              go_wp2_with fail
              go_roundw
              case rel => exact ⟨i + 1, by omega, by go_num, by rw [hR1.out]; go_num, trivial⟩
              case measure => simp [intOf]; omega
          · obtain rfl : i = y := by omega
            rw [show l1.take i = l1 from by rw [← hly, List.take_length]] at hr8 ⊢
            have hStop := hSt.out.stop
            have hGo := hSt.out.go
            have hSame := hSt.out.same
            generalize hrd : reads l1 = rd at *
            replace hrd := Lib.hid hrd
            cases st with
            | true =>
              as_aux_lemma =>
              obtain ⟨rfl, rfl, ⟨i0, a0, hi0⟩, rfl, rfl, rfl⟩ := hStop rfl
              obtain ⟨y', rfl⟩ : ∃ y', i = y' + 1 := ⟨i - 1, by rw [hi0, List.length_append] at hly; simp at hly; omega⟩
              have hil : y' < l1.length := by omega
              obtain ⟨g, rfl, hg, hcell⟩ := hA8.out.1.resolve_left (fun e => by rw [e] at hil; exact absurd hil (Nat.not_lt_zero _))
              obtain ⟨d0, d1, d2⟩ := hcell y' hil
              have hlast : l1[y'].1 = 1 := by
                have hy0 : i0.length = y' := by rw [hi0, List.length_append] at hly; simp at hly; omega
                subst hy0
                simp [hi0]
              rw [hlast] at d0
              clear hcell d1 d2 hStop hGo hSame hi0 hlast HS8 hil
              go_wp2_with fail
              go_roundw
              case rel => exact ⟨k + 1, _, _, by omega, by go_num, by rw [eL.out, hly], by rw [eE.out]; rfl, by rw [eL.out]; exact Lib.hid hA8.out.1, hbw.out.trans (hB8.out.mono hbw.out.size)⟩
              case measure => simp [intOf]; omega
            | false =>
              as_aux_lemma =>
              have hrk := hGo rfl
              have t1 : decide (k < rd) = false := decide_eq_false (by omega)
              have t2 : decide ((k : Int) < (rd : Int)) = false := decide_eq_false (by omega)
              have t3 : decide (8 < i) = false := decide_eq_false (by omega)
              have t4 : decide ((8 : Int) < (i : Int)) = false := decide_eq_false (by omega)
              cases e0 with
              | false =>
                clear hStop hGo hSame HS8 hrk
                go_wp2_with fail
                go_roundw
                case rel => exact ⟨k + 1, _, _, by omega, by go_num, by rw [eL.out, hly], by rw [eE.out]; rfl, by rw [eL.out]; exact Lib.hid hA8.out.1, hbw.out.trans (hB8.out.mono hbw.out.size)⟩
                case measure => simp [intOf]; omega
              | true =>
                have hll := hSame rfl
                obtain rfl : i = x := by rw [← hly, ← hlx, hll]
                have HC := Lib.hid (HS8.out hll)
                clear hStop hGo hSame HS8 hrk
                go_wp2_with fail
                refine HC.out.mono ?_
                rintro e W9' ⟨rfl, q9, rfl⟩
                have hq9 : Below wr.heap.size wr (wr.drewN q9) := below_drewN (Below.refl _ wr) q9
                have hB9 := Lib.hid (hB8.out.trans (hq9.mono hB8.out.size))
                have hA9 := Lib.hid (hA8.out.1.below hq9)
                clear HC hA8 hB8 hq9 z0 z1
                generalize wr.drewN q9 = W9 at *
                go_wp2_with fail
                go_roundw
                case rel => exact ⟨k + 1, _, _, by omega, by go_num, by rw [eL.out, hly], by rw [eE.out]; rfl, by rw [eL.out]; exact Lib.hid hA9.out, hbw.out.trans (hB9.out.mono hbw.out.size)⟩
                case measure => simp [intOf]; omega
    · as_aux_lemma =>
      have hfin : Below w.heap.size w wo := by
        rw [hXe.out]
        exact hB.out.trans (hBw.mono (by rw [← hXe.out]; exact hB.out.size))
      replace hfin := Lib.hid hfin
      have HA := Lib.hid (awake_any wo)
      have hnc := HR1.out.2
      clear hL hC hG
      by_cases h1 : k ≤ n
      · have h2 : ¬ k ≤ 12 := fun h => hlt ⟨h1, h⟩
        obtain rfl : k = 13 := by omega
        go_wp2_with fail
        refine HA.out.mono ?_
        rintro e W9 ⟨rfl, hb⟩
        go_wp2_with fail
        go_ret
        exact ⟨rfl, hfin.out.trans (hb.mono hfin.out.size)⟩
      · go_wp2_with fail
        refine HA.out.mono ?_
        rintro e W9 ⟨rfl, hb⟩
        go_wp2_with fail
        go_ret
        exact ⟨rfl, hfin.out.trans (hb.mono hfin.out.size)⟩
end reachGrows
end Go.Proofs.Ytkbieadebfpjdaa
