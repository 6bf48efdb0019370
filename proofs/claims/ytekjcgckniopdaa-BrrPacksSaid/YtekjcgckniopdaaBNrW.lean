/-
  The walk of BrrNearest.
-/
import Derived.Test.YtekjcgckniopdaaBKno
import Derived.Deep.AppendLies
namespace Go.Proofs.Ytekjcgckniopdaa.brrNearest
open Go.RowKit Go.Shelf
set_option maxRecDepth 100000
set_option maxHeartbeats 4000000
set_option linter.unusedVariables false
set_option linter.unusedSimpArgs false

theorem info5 : (Try.prog.info? 5).map (fun i => (i.zero, i.size, i.bytes)) = some (some (.int .u8 0), 1, 1) := by kernel_rfl
/-- The block that is held against. -/
def othB (sh : Nat) (g : Nat → Nat) : Nat → Nat := fun i => if i = 0 then sh * 16 else g (i - 1)
theorem othB_list (sh : Nat) (g : Nat → Nat) (i : Nat) (hi : i < 9) : ([Value.int .u8 ((sh * 16 : Nat) : Int)] ++ (List.range 8).map fun i => Value.int .u8 (g i : Nat))[i]? = some (.int .u8 (othB sh g i : Nat)) := by
  rcases (show i = 0 ∨ i = 1 ∨ i = 2 ∨ i = 3 ∨ i = 4 ∨ i = 5 ∨ i = 6 ∨ i = 7 ∨ i = 8 by omega) with rfl | rfl | rfl | rfl | rfl | rfl | rfl | rfl | rfl <;> rfl
theorem row_news {w : World} {ad : Addr} {n : Nat} {g : Nat → Nat} (h : Row w (some ad) n g) : ∀ j u, ((List.range n).map fun i => Value.int .u8 (g i : Nat))[j]? = some u → w.cell? (ad.add j) = some u := by
  intro j u hu
  rw [List.getElem?_map] at hu
  have hj : j < n := by
    rcases Nat.lt_or_ge j n with h | h
    · exact h
    · rw [List.getElem?_eq_none (by simpa using h)] at hu
      cases hu
  rw [List.getElem?_range hj] at hu
  simp only [Option.map_some, Option.some.injEq] at hu
  subst hu
  rcases h with ⟨_, h0 | ⟨b, o, e, _, hc⟩⟩
  · omega
  · cases e
    rw [Addr.add_lit]
    exact hc j hj
theorem irow_congr {w : World} {a : Option Addr} {n : Nat} {f g : Nat → Int} (h : IRow w a n f) (e : ∀ i, i < n → f i = g i) : IRow w a n g :=
  h.imp id fun ⟨b, o, ha, hb, hc⟩ => ⟨b, o, ha, hb, fun i hi => by rw [hc i hi, e i hi]⟩
/-- What is kept. -/
structure Nb (w : World) (p q : Int) (V : World) : Prop where
  pw : Whole V w.heap.size 25 #[.int .i16 p, .int .i16 q]
  bel : Below w.heap.size w V
theorem Nb.below {w V V' : World} {p q : Int} (h : Nb w p q V) (hb : Below V.heap.size V V') : Nb w p q V' := ⟨h.pw.below hb h.pw.lt, h.bel.trans (hb.mono h.bel.size)⟩
theorem Nb.cells {w V : World} {p q : Int} (h : Nb w p q V) : V.cell? ⟨w.heap.size, 0, none⟩ = some (.int .i16 p) ∧ V.cell? ⟨w.heap.size, 1, none⟩ = some (.int .i16 q) := ⟨h.pw.cell 0, h.pw.cell 1⟩
theorem walk (a : Option Addr) (n c : Nat) (s : Nat → Int) (p q : Int) (sh : Nat) (na : Option Addr) (nn nc : Nat) (g : Nat → Nat) (w : World) (hR : IRow w a n s) (hs : ∀ i, Smp (s i)) (hn : n ≤ 140737488351232) (hnc : n ≤ c) (hp : Smp p) (hq : Smp q) (hsh : sh < 256) (hG : Row w na nn g) (hnn : nn ≤ 140737488351232) :
    Calls Try.prog 8 #[.slice a n c, .agg #[.int .i16 p, .int .i16 q], .agg #[.int .u8 (sh : Nat), .slice na nn nc]] w fun e w' => e = .returned (.bool true) ∧ Below w.heap.size w w' := by
  have hB0 := ((Below.refl w.heap.size w).alloc (Nat.le_refl _) (.cells #[.int .i16 p, .int .i16 q] 25)).alloc (Below.size ((Below.refl w.heap.size w).alloc (Nat.le_refl _) (.cells #[.int .i16 p, .int .i16 q] 25))) (.cells #[.int .u8 (sh : Nat), .slice na nn nc] 47)
  have hP0 := (Whole.fresh w 25 #[.int .i16 p, .int .i16 q]).alloc (.cells #[.int .u8 (sh : Nat), .slice na nn nc] 47)
  have hO0 := Whole.fresh (w.alloc (.cells #[.int .i16 p, .int .i16 q] 25)) 47 #[.int .u8 (sh : Nat), .slice na nn nc]
  rw [alloc_size] at hO0
  have HK := Lib.hid known_any
  have hRh := Lib.hid hR
  have hGh := Lib.hid hG
  clear hR hG
  go_enter Try.func8, Try.ntmps8
  go_upto_region 1 with (fail)
  generalize (w.alloc (.cells #[.int .i16 p, .int .i16 q] 25)).alloc (.cells #[.int .u8 (sh : Nat), .slice na nn nc] 47) = W1 at *
  have x0 := hO0.cell 0
  have x1 := hO0.cell 1
  simp only [List.getElem?_toArray, List.getElem?_cons_zero, List.getElem?_cons_succ] at x0 x1
  go_quiet (fail)
  have hP1 := hP0.drewN nq
  have hB1 := below_drewN hB0 nq
  generalize W1.drewN nq = W2 at *
  clear x0 x1 hP0 hB0 hO0
  have hN2 : Nb w p q W2 := ⟨hP1, hB1⟩
  replace hN2 := Lib.hid hN2
  clear hP1 hB1
  by_cases hall : n = 16 ∧ nn = 8 ∧ sh ≤ 12
  · obtain ⟨rfl, rfl, hsh2⟩ := hall
    go_wp2_with fail
    refine (HK.out _).mono ?_
    rintro e W3 ⟨rfl, hB3⟩
    have hN3 := hN2.out.below hB3
    obtain ⟨x0, x1⟩ := hN3.cells
    obtain ⟨nb, no, rfl⟩ : ∃ nb no, na = some ⟨nb, no, none⟩ := by
      rcases hGh.out with ⟨_, h | ⟨b, o, rfl, _⟩⟩
      · omega
      · exact ⟨b, o, rfl⟩
    have HE := Lib.hid (cencode_any W3 a c s p q (hRh.out.below hN3.bel) hs hp hq)
    replace hN3 := Lib.hid hN3
    clear hB3 hN2
    go_wp2_with fail
    refine HE.out.mono ?_
    rintro e W4 ⟨G, rfl, hG4, hB4⟩
    have hN4 := hN3.out.below hB4
    obtain ⟨y0, y1⟩ := hN4.cells
    have HD := Lib.hid (cdecode_any W4 (some ⟨G, 4, none⟩) 9 (encB s p q) p q hG4 hp hq)
    replace hN4 := Lib.hid hN4
    clear hB4 hN3 HE x0 x1 hG4
    go_wp2_with fail
    refine HD.out.mono ?_
    rintro e W5 ⟨s1, rfl, hO5, hB5⟩
    obtain ⟨a1, c1, rfl, hI5⟩ := own_irow (f := nrF s p q) hO5 (fun i hi => outL_at _ p q 16 i hi)
    have hN5 := hN4.out.below hB5
    clear hO5 hB5 hN4 HD y0 y1
    have e16 : (sh : Int) * 2 ^ 4 = (sh : Int) * 16 := by simp only [Int.reducePow]
    have hcast : ((sh * 16 : Nat) : Int) = (sh : Int) * 16 := by omega
    obtain ⟨j0, hj0, hz0, hz1, hz2⟩ := info_parts info5
    have hw5 : w.heap.size ≤ W5.heap.size := hN5.bel.size
    have ho := World.ownsRow_lit (e := 5) (size := 1) (base := w.heap.size) W5 #[.int .u8 ((sh : Int) * 16)] 1 hw5 (by decide) rfl
    have hal := (Below.refl W5.heap.size W5).alloc (Nat.le_refl _) (.cells #[.int .u8 ((sh : Int) * 16)] 5)
    have hN6 := hN5.below hal
    have hG6 := hGh.out.below hN6.bel
    have hnw := row_news hG6
    have hBs : w.heap.size ≤ (W5.alloc (.cells #[.int .u8 ((sh : Int) * 16)] 5)).heap.size := hN6.bel.size
    have hhN := Lib.hid (And.intro hN5 (And.intro hI5 hal))
    have hone : ∀ u ∈ ((List.range 8).map fun i => Value.int .u8 (g i : Nat)), u.oneCell' = true := by
      intro u hu
      rw [List.mem_map] at hu
      obtain ⟨i, _, rfl⟩ := hu
      rfl
    clear hN5 hI5 hal hN6 hG6
    go_wp2_with (at_builtin; refine wpList_append_own _ rfl _ _ 22 rfl w.heap.size 5 j0 _ 1 1 Try.underlying22 hj0 hz0 hz1 hz2 rfl (by decide) _ _ _ rfl ho ⟨nb, no, none⟩ 8 nc ((List.range 8).map fun i => Value.int .u8 (g i : Nat)) rfl (by simp) hnw hone (by decide) (by decide) hBs ?_)
    intro v' W7 hown7 hgrow _
    obtain ⟨hN5, hI5, hal⟩ := hhN.out
    have hB57 : Below W5.heap.size W5 W7 := hal.trans (grown_below hgrow hal.size (fun r e => by cases e; exact Nat.le_refl _))
    have hN7 := hN5.below hB57
    have hI7 := hI5.below hB57
    obtain ⟨gb, cap, rfl, hgb, hgbl⟩ := hown7.form (by decide)
    have hR7 : Row W7 (some ⟨gb, 0, none⟩) 9 (othB sh g) := by
      refine ⟨fun i hi => ?_, .inr ⟨gb, 0, rfl, hgbl, fun i hi => ?_⟩⟩
      · unfold othB
        split
        · omega
        · exact hGh.out.1 (i - 1) (by omega)
      · rw [Nat.zero_add]
        have h1 := hown7.cellAt i (by omega)
        have h2 := othB_list sh g i hi
        rw [hcast] at h2
        exact h1.trans h2
    obtain ⟨x0, x1⟩ := hN7.cells
    have HD7 := Lib.hid (cdecode_any W7 (some ⟨gb, 0, none⟩) cap (othB sh g) p q hR7 hp hq)
    have hh7 := Lib.hid (And.intro hN7 hI7)
    clear hN5 hI5 hal hB57 hN7 hI7 hown7 hgrow hR7 ho hnw hone hBs hhN hw5 e16 hcast
    go_wp2_with fail
    refine HD7.out.mono ?_
    rintro e W8 ⟨s2, rfl, hO8, hB8⟩
    obtain ⟨a2, c2, rfl, hK8⟩ := own_irow (f := fun i => (stB (othB sh g) p q (i + 1)).1) hO8 (fun i hi => outL_at _ p q 16 i hi)
    have hN8 := hh7.out.1.below hB8
    have hL8 := hh7.out.2.below hB8
    have hS8 := hRh.out.below hN8.bel
    have hkS : ∀ i, Smp ((fun i => (stB (othB sh g) p q (i + 1)).1) i) := fun i => (stF_smp _ _ _ p q hp hq (i + 1)).1
    have hlS : ∀ i, Smp (nrF s p q i) := fun i => (stF_smp _ _ _ p q hp hq (i + 1)).1
    have hnle := near_le s p q sh hsh2 (othB sh g) rfl
    have hsame := near_same p q hp hq sh hsh2 (othB sh g) rfl
    have hbl := Lib.hid (apF_bnd (nrF s p q) s 16 (fun i _ => hlS i) (fun i _ => hs i))
    have hbk := Lib.hid (apF_bnd (fun i => (stB (othB sh g) p q (i + 1)).1) s 16 (fun i _ => hkS i) (fun i _ => hs i))
    generalize hkF : (fun i => (stB (othB sh g) p q (i + 1)).1) = kF at *
    have hsame' : ∀ i, i < 16 → nrF kF p q i = kF i := fun i hi => by rw [hsame i hi, ← hkF]
    generalize nrF s p q = lF at *
    replace hnle := Lib.hid hnle
    replace hsame' := Lib.hid hsame'
    replace hs := Lib.hid hs
    replace hkS := Lib.hid hkS
    replace hlS := Lib.hid hlS
    replace hkF := Lib.hid hkF
    have hh8 := Lib.hid (And.intro hN8 (And.intro hL8 (And.intro hS8 hK8)))
    clear hsame hO8 hB8 hN8 hL8 hS8 hK8 hh7 HD7 x0 x1
    go_wp2_with fail
    go_loopw [16, 17, 18] (fun s16 s17 s18 wr => ∃ k : Nat, k ≤ 16 ∧ s18 = .int .i64 (k : Nat) ∧ s17 = .int .i64 (apF lF s k) ∧ s16 = .int .i64 (apF kF s k) ∧ Below W8.heap.size W8 wr) (fun _ _ s18 _ => 16 - (intOf s18).toNat)
    case atStart => exact ⟨0, by omega, rfl, rfl, rfl, Below.refl _ _⟩
    case round =>
      obtain ⟨k, hk, rfl, rfl, rfl, hB⟩ := hrel
      by_cases hlt : k < 16
      · obtain ⟨hN8, hL8, hS8, hK8⟩ := hh8.out
        have hSz := hL8
        rcases hL8 with h | ⟨lb, lo, rfl, hlb, hlc⟩
        · omega
        rcases hS8 with h | ⟨sb, so, rfl, hsb, hsc⟩
        · omega
        rcases hK8 with h | ⟨kb, ko, rfl, hkb, hkc⟩
        · omega
        have cl : ∀ V, Below W8.heap.size W8 V → V.cell? ⟨lb, lo + k, none⟩ = some (.int .i16 (lF k)) := fun V h => (h.cell (p := ⟨lb, lo + k, none⟩) hlb).trans (hlc k hlt)
        have cs : ∀ V, Below W8.heap.size W8 V → V.cell? ⟨sb, so + k, none⟩ = some (.int .i16 (s k)) := fun V h => (h.cell (p := ⟨sb, so + k, none⟩) hsb).trans (hsc k hlt)
        have ck : ∀ V, Below W8.heap.size W8 V → V.cell? ⟨kb, ko + k, none⟩ = some (.int .i16 (kF k)) := fun V h => (h.cell (p := ⟨kb, ko + k, none⟩) hkb).trans (hkc k hlt)
        have HQ1 := Lib.hid (fun W => below_of_eq (sq_any W (lF k) (s k) (hlS.out k) (hs.out k)))
        have HQ2 := Lib.hid (fun W => below_of_eq (sq_any W (kF k) (s k) (hkS.out k) (hs.out k)))
        have b1 := hbl.out (k + 1) hlt
        have b2 := hbk.out (k + 1) hlt
        have e1 : apF lF s (k + 1) = apF lF s k + (lF k - s k) * (lF k - s k) := rfl
        have e2 : apF kF s (k + 1) = apF kF s k + (kF k - s k) * (kF k - s k) := rfl
        have w1 : IntKind.i64.wrap (apF lF s (k + 1)) = apF lF s (k + 1) := by simp only [IntKind.wrap_i64]; omega
        have w2 : IntKind.i64.wrap (apF kF s (k + 1)) = apF kF s (k + 1) := by simp only [IntKind.wrap_i64]; omega
        rw [e1] at w1
        rw [e2] at w2
        generalize hA1 : apF lF s (k + 1) = A1 at *
        generalize hA2 : apF kF s (k + 1) = A2 at *
        generalize apF lF s k = A at *
        generalize apF kF s k = A' at *
        generalize (lF k - s k) * (lF k - s k) = D1 at *
        generalize (kF k - s k) * (kF k - s k) = D2 at *
        have d0 := cl wr hB
        have d1 := cs wr hB
        replace cs := Lib.hid cs
        replace ck := Lib.hid ck
        replace e1 := Lib.hid e1
        replace e2 := Lib.hid e2
        replace hA1 := Lib.hid hA1
        replace hA2 := Lib.hid hA2
        replace hB := Lib.hid hB
        clear hN8 hlc hsc hkc cl b1 b2 hSz
        go_upto_region 18 with (fail)
        refine wp_region_quiet_below (by kernel_rfl) (by kernel_rfl) ?_
        have q0 := cell_regrown d0
        have q1 := cell_regrown d1
        clear d0 d1
        repeat (go_big_quiet_step (first
          | (go_at_call 25; first | (with_reducible exact Calls.regrown_of (HQ1.out _)))))
        refine wpQuiet_nil ?_
        intro _ hw'
        obtain ⟨⟨dq, osq⟩, hw''⟩ := hw'
        subst hw''
        have hbl := below_regrown wr dq osq
        generalize Go.«Sort».grow (redrawn wr dq) osq = V1 at *
        clear q0 q1
        have hB1 := hB.out.trans (hbl.mono hB.out.size)
        have d0 := ck.out V1 hB1
        have d1 := cs.out V1 hB1
        replace hB1 := Lib.hid hB1
        clear hbl w1
        go_upto_region 19 with (fail)
        refine wp_region_quiet_below (by kernel_rfl) (by kernel_rfl) ?_
        have q0 := cell_regrown d0
        have q1 := cell_regrown d1
        clear d0 d1
        repeat (go_big_quiet_step (first
          | (go_at_call 25; first | (with_reducible exact Calls.regrown_of (HQ2.out _)))))
        refine wpQuiet_nil ?_
        intro _ hw'
        obtain ⟨⟨dq, osq⟩, hw''⟩ := hw'
        subst hw''
        have hbl := below_regrown V1 dq osq
        generalize Go.«Sort».grow (redrawn V1 dq) osq = V2 at *
        clear q0 q1
        have hB2 := hB1.out.trans (hbl.mono hB1.out.size)
        replace hB2 := Lib.hid hB2
        clear hbl w2
        go_wp2_with fail
        go_roundw
        case rel => exact ⟨k + 1, by omega, by go_num, by rw [hA1.out, e1.out], by rw [hA2.out, e2.out], hB2.out⟩
        case measure => simp [intOf]; omega
      · obtain rfl : k = 16 := by omega
        obtain ⟨hN8, hL8, hS8, hK8⟩ := hh8.out
        have hN9 := hN8.below hB
        have hK9 := hK8.below hB
        obtain ⟨x0, x1⟩ := hN9.cells
        have hE9 := Lib.hid (cencode_any wr a2 c2 kF p q hK9 hkS.out hp hq)
        have hng : ¬ (apF kF s 16 < apF lF s 16) := by have := hnle.out; omega
        have hdg : decide (apF kF s 16 < apF lF s 16) = false := decide_eq_false hng
        generalize apF kF s 16 = A2 at *
        generalize apF lF s 16 = A1 at *
        replace hng := Lib.hid hng
        replace hh8 := Lib.hid (And.intro hN9 hK9)
        clear hN8 hL8 hS8 hK8 hN9 hK9 hB hbl hbk
        go_wp2_with fail
        refine hE9.out.mono ?_
        rintro e W10 ⟨G2, rfl, hG10, hB10⟩
        have hN10 := hh8.out.1.below hB10
        have hK10 := hh8.out.2.below hB10
        obtain ⟨y0, y1⟩ := hN10.cells
        have HD10 := Lib.hid (cdecode_any W10 (some ⟨G2, 4, none⟩) 9 (encB kF p q) p q hG10 hp hq)
        replace hN10 := Lib.hid (And.intro hN10 hK10)
        clear hh8 hG10 hB10 hK10 x0 x1 hE9
        go_wp2_with fail
        refine HD10.out.mono ?_
        rintro e W11 ⟨s3, rfl, hO11, hB11⟩
        obtain ⟨a3, c3, rfl, hI11⟩ := own_irow (f := nrF kF p q) hO11 (fun i hi => outL_at _ p q 16 i hi)
        have hN11 := hN10.out.1.below hB11
        have hK11 := hN10.out.2.below hB11
        have HSh := Lib.hid (shorts_any W11 a3 a2 16 c3 c2 kF (irow_congr hI11 (fun i hi => hsame'.out i hi)) hK11 (by decide))
        have hB12 := Lib.hid hN11.bel
        clear hO11 hB11 hI11 hN11 hK11 hN10 HD10 y0 y1
        go_wp2_with fail
        refine HSh.out.mono ?_
        rintro e W12 ⟨rfl, q12, rfl⟩
        have hB13 := Lib.hid (below_drewN hB12.out q12)
        clear HSh hB12
        go_wp2_with fail
        go_ret
        exact ⟨rfl, hB13.out⟩
  · have hend : ∀ V, Nb w p q V → Calls Try.prog 24 #[] V fun e w' => e = .returned (.bool true) ∧ Below w.heap.size w w' := fun V h => (HK.out V).mono fun e w' hx => ⟨hx.1, (h.below hx.2).bel⟩
    replace hend := Lib.hid hend
    by_cases h16 : n = 16
    · subst h16
      by_cases h8 : nn = 8
      · subst h8
        have h12 : ¬ (sh ≤ 12) := fun h => hall ⟨rfl, rfl, h⟩
        have hd12 : decide ((12 : Int) < (sh : Int)) = true := decide_eq_true (by omega)
        clear hall
        go_wp2_with fail
        refine (HK.out _).mono ?_
        rintro e W3 ⟨rfl, hB3⟩
        have HK3 := Lib.hid (hend.out W3 (hN2.out.below hB3))
        clear hB3 hN2
        go_wp2_with fail
        refine HK3.out.mono ?_
        rintro e W4 ⟨rfl, hB4⟩
        replace hB4 := Lib.hid hB4
        go_wp2_with fail
        go_ret
        exact ⟨rfl, hB4.out⟩
      · have hd8 : ((nn : Int) == 8) = false := beq_eq_false_iff_ne.2 (by omega)
        clear hall
        go_wp2_with fail
        refine (HK.out _).mono ?_
        rintro e W3 ⟨rfl, hB3⟩
        have HK3 := Lib.hid (hend.out W3 (hN2.out.below hB3))
        clear hB3 hN2
        go_wp2_with fail
        refine HK3.out.mono ?_
        rintro e W4 ⟨rfl, hB4⟩
        replace hB4 := Lib.hid hB4
        go_wp2_with fail
        go_ret
        exact ⟨rfl, hB4.out⟩
    · have hd16 : ((n : Int) == 16) = false := beq_eq_false_iff_ne.2 (by omega)
      clear hall
      go_wp2_with fail
      refine (HK.out _).mono ?_
      rintro e W3 ⟨rfl, hB3⟩
      have HK3 := Lib.hid (hend.out W3 (hN2.out.below hB3))
      clear hB3 hN2
      go_wp2_with fail
      refine HK3.out.mono ?_
      rintro e W4 ⟨rfl, hB4⟩
      replace hB4 := Lib.hid hB4
      go_wp2_with fail
      go_ret
      exact ⟨rfl, hB4.out⟩
end Go.Proofs.Ytekjcgckniopdaa.brrNearest
