/-
  The nearest block by the code.
-/
import Derived.Test.YtekjcgckniopdaaBAtt
import Derived.WalkMore
namespace Go.Proofs.Ytekjcgckniopdaa
open Go.RowKit Go.Shelf
set_option maxRecDepth 100000
set_option maxHeartbeats 2000000
set_option linter.unusedVariables false
set_option linter.unusedSimpArgs false

/-- The attempt by a number. -/
def attD (s : Nat → Int) (p q : Int) (t : Nat) : Array Value := attC (t % 13) (t / 13) s p q
/-- The best rank of the first m attempts, and its cells. -/
def bF (s : Nat → Int) (p q : Int) (m : Nat) : Int × Int := if m = 0 then (9223372036854775807, 0) else (blkF s p q (topF s p q (m - 1)), (topF s p q (m - 1) : Nat))
def bestC (s : Nat → Int) (p q : Int) (m : Nat) : Array Value := if m = 0 then attA 9223372036854775807 0 0 0 (fun _ => 0) else attD s p q (topF s p q (m - 1))
theorem attD_open (s : Nat → Int) (p q : Int) (t : Nat) : ∃ P Q g, attD s p q t = attA (blkF s p q t) (t : Nat) P Q g := by
  have e : numF (t / 13) (t % 13) = t := by unfold numF; omega
  refine ⟨(encF (t % 13) (t / 13) s p q 16).1, (encF (t % 13) (t / 13) s p q 16).2.1, putF (t % 13) (t / 13) (choF (t % 13) (t / 13) s p q) 16, ?_⟩
  unfold attD attC blkF
  rw [e]
theorem bestC_open (s : Nat → Int) (p q : Int) (m : Nat) : ∃ P Q g, bestC s p q m = attA (bF s p q m).1 (bF s p q m).2 P Q g := by
  unfold bestC bF
  by_cases h : m = 0
  · rw [if_pos h, if_pos h]; exact ⟨0, 0, _, rfl⟩
  · rw [if_neg h, if_neg h]; exact attD_open s p q _
theorem blkF_bnd (s : Nat → Int) (p q : Int) (hs : ∀ i, Smp (s i)) (t : Nat) : 0 ≤ blkF s p q t ∧ blkF s p q t ≤ 68717379600 := by
  have := encF_far (t % 13) (t / 13) s p q hs 16
  unfold blkF
  omega
theorem best_step (s : Nat → Int) (p q : Int) (hs : ∀ i, Smp (s i)) (m : Nat) :
    (nearP (bF s p q m) (blkF s p q m, (m : Nat)) = (blkF s p q m, ((m : Nat) : Int)) ∧ bestC s p q (m + 1) = attD s p q m) ∨ (nearP (bF s p q m) (blkF s p q m, (m : Nat)) = bF s p q m ∧ (bF s p q m).2 ≠ ((m : Nat) : Int) ∧ bestC s p q (m + 1) = bestC s p q m) := by
  have hb := blkF_bnd s p q hs m
  cases m with
  | zero =>
    left
    refine ⟨?_, rfl⟩
    unfold nearP bF
    rw [if_pos (.inl (by show blkF s p q 0 < 9223372036854775807; omega))]
  | succ m =>
    have hle := topF_le s p q m
    have h1 : bF s p q (m + 1) = (blkF s p q (topF s p q m), ((topF s p q m : Nat) : Int)) := rfl
    have h2 : bestC s p q (m + 1 + 1) = attD s p q (topF s p q (m + 1)) := rfl
    have h3 : bestC s p q (m + 1) = attD s p q (topF s p q m) := rfl
    have h4 : topF s p q (m + 1) = if blkF s p q (m + 1) < blkF s p q (topF s p q m) then m + 1 else topF s p q m := rfl
    rw [h1, h2, h3, h4]
    unfold nearP
    by_cases h : blkF s p q (m + 1) < blkF s p q (topF s p q m)
    · left
      rw [if_pos (.inl h), if_pos h]
      exact ⟨rfl, rfl⟩
    · right
      rw [if_neg h, if_neg]
      · exact ⟨rfl, by show ((topF s p q m : Nat) : Int) ≠ ((m + 1 : Nat) : Int); omega, rfl⟩
      · rintro (h1 | ⟨_, h2⟩)
        · exact h h1
        · have : ((m + 1 : Nat) : Int) < ((topF s p q m : Nat) : Int) := h2
          omega
/-- What is kept amid the search. -/
structure Sr (w : World) (S R T : Nat) (s : Nat → Int) (p q : Int) (V : World) (m : Nat) : Prop where
  t : Whole V S 55 #[.int .i64 p, .int .i64 q]
  r : Whole V R 69 (attA 0 0 0 0 (fun _ => 0))
  b : Whole V T 69 (bestC s p q m)
  bel : Below S w V
theorem Sr.below {w : World} {S R T : Nat} {s : Nat → Int} {p q : Int} {V V' : World} {m : Nat} (h : Sr w S R T s p q V m) (hb : Below V.heap.size V V') : Sr w S R T s p q V' m :=
  ⟨h.t.below hb h.t.lt, h.r.below hb h.r.lt, h.b.below hb h.b.lt, h.bel.trans (hb.mono (Nat.le_of_lt h.t.lt))⟩
theorem Sr.fin {w : World} {S R T : Nat} {s : Nat → Int} {p q : Int} {V : World} {m : Nat} (h : Sr w S R T s p q V m) (hSR : S ≤ R) :
    ∃ V', (Instr.loadAt 69 (.pointer (some ⟨T, 0, none⟩))).run Try.prog V = .ok (.agg (bestC s p q m)) V ∧ (Instr.storeAt 69 (.pointer (some ⟨R, 0, none⟩)) (.agg (bestC s p q m))).run Try.prog V = .ok () V' ∧ Whole V' R 69 (bestC s p q m) ∧ Below S w V' ∧ (bestC s p q m).size = 13 := by
  obtain ⟨P, Q, g, e⟩ := bestC_open s p q m
  have hb := h.b
  rw [e] at hb ⊢
  obtain ⟨h1, h2⟩ := store_att (bF s p q m).1 (bF s p q m).2 P Q g h.r rfl
  exact ⟨_, load_att hb, h1, h2, below_setRow h.bel hSR, rfl⟩
theorem Sr.upd {w : World} {S R T A : Nat} {s : Nat → Int} {p q : Int} {V : World} {m : Nat} (h : Sr w S R T s p q V m) (hRT : R ≠ T) (hST : S ≤ T) (hA : Whole V A 69 (attD s p q m)) (hn : bestC s p q (m + 1) = attD s p q m) :
    ∃ V', (Instr.loadAt 69 (.pointer (some ⟨A, 0, none⟩))).run Try.prog V = .ok (.agg (attD s p q m)) V ∧ (Instr.storeAt 69 (.pointer (some ⟨T, 0, none⟩)) (.agg (attD s p q m))).run Try.prog V = .ok () V' ∧ Sr w S R T s p q V' (m + 1) := by
  obtain ⟨P, Q, g, e⟩ := attD_open s p q m
  obtain ⟨P', Q', g', e'⟩ := bestC_open s p q m
  have hb := h.b
  rw [e'] at hb
  rw [e] at hA ⊢
  obtain ⟨h1, h2⟩ := store_att (blkF s p q m) (m : Nat) P Q g hb rfl
  have hTS : S ≠ T := by
    intro e
    subst e
    have := h.t.symm.trans h.b
    simp only [Option.some.injEq, Obj.cells.injEq] at this
    exact absurd this.2.1 (by decide)
  exact ⟨_, load_att hA, h1, ⟨setRow_other h.t hTS, setRow_other h.r hRT, by rw [hn, e]; exact h2, below_setRow h.bel hST⟩⟩
theorem nearestBlock_any (w : World) (a : Option Addr) (c : Nat) (s : Nat → Int) (p q : Int) (hR : IRow w a 16 s) (hs : ∀ i, Smp (s i)) (hp : Smp p) (hq : Smp q) :
    Calls Try.prog 34 #[.slice a 16 c, .agg #[.int .i64 p, .int .i64 q]] w fun e w' => e = .returned (.agg (attD s p q (topF s p q 51))) ∧ Below w.heap.size w w' := by
  have HA := Lib.hid (fun W m (hI : IRow W a 16 s) (hm : m < 52) => attempt_any W a c (m % 13) (m / 13) s p q hI hs (by omega) (by omega) hp hq)
  have HT := Lib.hid farthest_any
  have HN := Lib.hid nearer_any
  have hstep := Lib.hid (best_step s p q hs)
  have hbnd := Lib.hid (blkF_bnd s p q hs)
  have hstop := Lib.hid (fun k (hk : k ≤ 51) h0 => topF_stop s p q hs k 51 hk h0)
  have hRh := Lib.hid hR
  have hB0 := ((Below.refl w.heap.size w).alloc (Nat.le_refl _) (.cells #[.int .i64 p, .int .i64 q] 55)).alloc (Below.size ((Below.refl w.heap.size w).alloc (Nat.le_refl _) (.cells #[.int .i64 p, .int .i64 q] 55))) (.cells (attA 0 0 0 0 (fun _ => 0)) 69)
  have hT0 := (Whole.fresh w 55 #[.int .i64 p, .int .i64 q]).alloc (.cells (attA 0 0 0 0 (fun _ => 0)) 69)
  have hZ0 := Whole.fresh (w.alloc (.cells #[.int .i64 p, .int .i64 q] 55)) 69 (attA 0 0 0 0 (fun _ => 0))
  rw [alloc_size] at hZ0
  have cZ : attA 0 0 0 0 (fun _ => 0) = #[.int .i64 0, .int .i64 0, .int .i64 0, .int .i64 0, .int .u8 0, .int .u8 0, .int .u8 0, .int .u8 0, .int .u8 0, .int .u8 0, .int .u8 0, .int .u8 0, .int .u8 0] := rfl
  have cI : bestC s p q 0 = #[.int .i64 9223372036854775807, .int .i64 0, .int .i64 0, .int .i64 0, .int .u8 0, .int .u8 0, .int .u8 0, .int .u8 0, .int .u8 0, .int .u8 0, .int .u8 0, .int .u8 0, .int .u8 0] := rfl
  clear hR hp hq
  go_enter Try.func34, Try.ntmps34
  go_wp2_with fail
  go_step3
  go_upto_region 1 with (fail)
  rw [← cZ]
  generalize (w.alloc (.cells #[.int .i64 p, .int .i64 q] 55)).alloc (.cells (attA 0 0 0 0 (fun _ => 0)) 69) = W1 at *
  generalize hRs : w.heap.size + 1 = R at *
  generalize hSs : w.heap.size = S at *
  have hSR : S ≤ R := by omega
  replace hSs := Lib.hid hSs
  clear hRs cZ
  go_wp2_with fail
  refine (HT.out _).mono ?_
  rintro e W2 ⟨rfl, hB2⟩
  have hX2 := hT0.below hB2 hT0.lt
  have hY2 := hZ0.below hB2 hZ0.lt
  have hL2 : S ≤ W1.heap.size := Nat.le_of_lt hT0.lt
  have hSr : Sr w S R W2.heap.size s p q (W2.alloc (.cells (bestC s p q 0) 69)) 0 := ⟨hX2.alloc _, hY2.alloc _, Whole.fresh W2 _ _, (hB0.trans (hB2.mono hL2)).alloc (Nat.le_trans hL2 hB2.size) _⟩
  have hRT : R ≠ W2.heap.size := Nat.ne_of_lt hY2.lt
  have hST : S ≤ W2.heap.size := Nat.le_trans hL2 hB2.size
  clear hX2 hY2 hL2 hB0 hT0 hZ0 hB2 HT
  go_wp2_with fail
  rw [← cI]
  generalize W2.alloc (.cells (bestC s p q 0) 69) = W3 at *
  generalize W2.heap.size = T at *
  clear cI
  go_step3
  go_wp2_with fail
  go_loopw [11] (fun s11 wr => ∃ fi : Nat, fi ≤ 4 ∧ s11 = .int .i64 (fi : Nat) ∧ Sr w S R T s p q wr (13 * fi)) (fun s11 _ => 4 - (intOf s11).toNat)
  case atStart => exact ⟨0, by omega, rfl, hSr⟩
  case round =>
    obtain ⟨fi, hfi, rfl, hSo⟩ := hrel
    clear hSr
    by_cases hlt : fi < 4
    · replace hSo := Lib.hid hSo
      have hd4 : decide ((fi : Int) < 4) = true := decide_eq_true (by omega)
      go_wp2_with fail
      obtain ⟨wo, rfl⟩ : ∃ wo, wo = wr := ⟨_, rfl⟩
      go_loopw [14] (fun s14 wr => ∃ sh : Nat, sh ≤ 13 ∧ s14 = .int .i64 (sh : Nat) ∧ Sr w S R T s p q wr (13 * fi + sh)) (fun s14 _ => 13 - (intOf s14).toNat)
      case atStart => exact ⟨0, by omega, rfl, hSo.out⟩
      case round =>
        obtain ⟨sh, hsh, rfl, hS⟩ := hrel
        clear hSo
        by_cases hlt2 : sh < 13
        · have hm1 : (13 * fi + sh) % 13 = sh := by omega
          have hm2 : (13 * fi + sh) / 13 = fi := by omega
          have hm3 : 13 * fi + sh < 52 := by omega
          have HAm := HA.out wr (13 * fi + sh) (hRh.out.below (hSs.out ▸ hS.bel)) hm3
          have hDd : attC ((13 * fi + sh) % 13) ((13 * fi + sh) / 13) s p q = attD s p q (13 * fi + sh) := rfl
          rw [hDd] at HAm
          rw [hm1, hm2] at HAm
          clear hDd hm1 hm2 hm3
          obtain ⟨P, Q, g, hD⟩ := attD_open s p q (13 * fi + sh)
          rw [hD] at HAm
          have cV : attA (blkF s p q (13 * fi + sh)) ((13 * fi + sh : Nat) : Int) P Q g = #[.int .i64 (blkF s p q (13 * fi + sh)), .int .i64 ((13 * fi + sh : Nat) : Int), .int .i64 P, .int .i64 Q, .int .u8 (g 0 : Nat), .int .u8 (g 1 : Nat), .int .u8 (g 2 : Nat), .int .u8 (g 3 : Nat), .int .u8 (g 4 : Nat), .int .u8 (g 5 : Nat), .int .u8 (g 6 : Nat), .int .u8 (g 7 : Nat), .int .u8 (g 8 : Nat)] := rfl
          have hA6 := fun W => Whole.fresh W 69 (attA (blkF s p q (13 * fi + sh)) ((13 * fi + sh : Nat) : Int) P Q g)
          have hst := hstep.out (13 * fi + sh)
          obtain ⟨P8, Q8, g8, e8⟩ := bestC_open s p q (13 * fi + sh)
          have hnx : nearP ((bF s p q (13 * fi + sh)).1, (bF s p q (13 * fi + sh)).2) (blkF s p q (13 * fi + sh), ((13 * fi + sh : Nat) : Int)) = nearP (bF s p q (13 * fi + sh)) (blkF s p q (13 * fi + sh), ((13 * fi + sh : Nat) : Int)) := rfl
          have HN' := fun W => HN.out W (bF s p q (13 * fi + sh)).1 (bF s p q (13 * fi + sh)).2 (blkF s p q (13 * fi + sh)) ((13 * fi + sh : Nat) : Int)
          rw [hnx] at HN'
          clear hnx
          have x0 := hS.t.cell 0
          have x1 := hS.t.cell 1
          simp only [List.getElem?_toArray, List.getElem?_cons_zero, List.getElem?_cons_succ] at x0 x1
          generalize hFe : blkF s p q (13 * fi + sh) = F at *
          generalize hMe : ((13 * fi + sh : Nat) : Int) = M at *
          generalize hY1 : (bF s p q (13 * fi + sh)).1 = Y1 at *
          generalize hY2 : (bF s p q (13 * fi + sh)).2 = Y2 at *
          rw [cV] at HAm
          replace cV := Lib.hid cV
          replace hA6 := Lib.hid hA6
          replace HAm := Lib.hid HAm
          replace hD := Lib.hid hD
          replace e8 := Lib.hid e8
          replace hst := Lib.hid hst
          replace HN' := Lib.hid HN'
          replace hFe := Lib.hid hFe
          replace hMe := Lib.hid hMe
          replace hY1 := Lib.hid hY1
          replace hY2 := Lib.hid hY2
          have hSh := Lib.hid hS
          clear hS
          go_wp2_with fail
          refine HAm.out.mono ?_
          rintro e W6 ⟨rfl, hB6⟩
          have hS7 := (hSh.out.below hB6).below ((Below.refl _ W6).alloc (Nat.le_refl _) (.cells (attA F M P Q g) 69))
          have hA7 := hA6.out W6
          clear hSh hA6 x0 x1 HAm hB6
          go_upto_region 9 with (fail)
          rw [← cV.out]
          generalize W6.alloc (.cells (attA F M P Q g) 69) = W7 at *
          generalize W6.heap.size = A7 at *
          have hb7 := hS7.b
          rw [e8.out] at hb7
          have b0 := hb7.cell 0
          have b1 := hb7.cell 1
          have c0 := hA7.cell 0
          have c1 := hA7.cell 1
          rw [show (attA Y1 Y2 P8 Q8 g8)[0]? = some (.int .i64 Y1) from rfl] at b0
          rw [show (attA Y1 Y2 P8 Q8 g8)[1]? = some (.int .i64 Y2) from rfl] at b1
          rw [show (attA F M P Q g)[0]? = some (.int .i64 F) from rfl] at c0
          rw [show (attA F M P Q g)[1]? = some (.int .i64 M) from rfl] at c1
          rw [← hD.out] at hA7
          replace hS7 := Lib.hid hS7
          replace hA7 := Lib.hid hA7
          clear hb7 cV hD e8
          rcases hst.out with ⟨hn1, hn2⟩ | ⟨hn1, hn2, hn3⟩
          · have HN2 := HN'.out
            rw [hn1] at HN2
            dsimp only at HN2
            replace HN2 := Lib.hid HN2
            replace hn2 := Lib.hid hn2
            clear HN' hn1 hst
            refine wp_region_quiet_below (by kernel_rfl) (by kernel_rfl) ?_
            have q0 := cell_regrown b0
            have q1 := cell_regrown b1
            have q2 := cell_regrown c0
            have q3 := cell_regrown c1
            clear b0 b1 c0 c1
            repeat (go_big_quiet_step (first
              | (go_at_call 44; first | (with_reducible exact Calls.regrown_of (HN2.out _)))))
            refine wpQuiet_nil ?_
            intro _ hw'
            obtain ⟨⟨dq, osq⟩, hw''⟩ := hw'
            subst hw''
            have hbl := below_regrown W7 dq osq
            have hS8 := hS7.out.below hbl
            have hA8 := hA7.out.below hbl hA7.out.lt
            generalize Go.«Sort».grow (redrawn W7 dq) osq = V1 at *
            clear q0 q1 q2 q3 HN2 hS7 hA7 hbl
            obtain ⟨V2, l1, l2, hS9⟩ := hS8.upd hRT hST hA8 hn2.out
            replace l1 := Lib.hid l1
            replace l2 := Lib.hid l2
            generalize attD s p q (13 * fi + sh) = DD at *
            clear hS8 hA8 hn2
            go_upto_region 11 with (first | (refine wpList_loadVar rfl 69 _ rfl _ _ rfl l1.out ?_) | (refine wpList_storeVar rfl 69 _ _ rfl _ _ rfl rfl l2.out ?_))
            obtain ⟨P9, Q9, g9, e9⟩ := bestC_open s p q (13 * fi + sh + 1)
            have hb9 := hS9.b
            rw [e9] at hb9
            have z0 := hb9.cell 0
            rw [show (attA (bF s p q (13 * fi + sh + 1)).1 (bF s p q (13 * fi + sh + 1)).2 P9 Q9 g9)[0]? = some (.int .i64 (blkF s p q (topF s p q (13 * fi + sh)))) from rfl] at z0
            clear hb9 e9
            by_cases hz0 : blkF s p q (topF s p q (13 * fi + sh)) = 0
            · rw [hz0] at z0
              obtain ⟨V', f1, f2, f3, f4, f5⟩ := hS9.fin hSR
              have hTop := hstop.out (13 * fi + sh) (by omega) hz0
              have hfinC : bestC s p q (13 * fi + sh + 1) = attD s p q (topF s p q 51) := by rw [hTop]; rfl
              rw [hfinC] at f1 f2 f3 f5
              replace f1 := Lib.hid f1
              replace f2 := Lib.hid f2
              replace f3 := Lib.hid f3
              replace f4 := Lib.hid f4
              clear hfinC hTop hS9 hz0
              generalize hCC : attD s p q (topF s p q 51) = CC at *
              replace hCC := Lib.hid hCC
              go_wp2_with (first | (refine wpList_loadVar rfl 69 _ rfl _ _ rfl f1.out ?_) | (refine wpList_storeVar rfl 69 _ _ rfl _ _ rfl rfl f2.out ?_))
              try rw [Exit.noGoto_ret]
              exact bodyPost_ret (results_cell_row (fn := Try.f34) (p := 4) (ty := 69) rfl _ _ _ _ _ (0, 0) _ rfl f3.out Try.underlying69 rfl (by rw [f5]; kernel_rfl)) rfl ⟨by rw [hCC.out], by rw [hSs.out]; exact f4.out⟩
            · have hzb : (blkF s p q (topF s p q (13 * fi + sh)) == 0) = false := beq_eq_false_iff_ne.2 hz0
              generalize blkF s p q (topF s p q (13 * fi + sh)) = far9 at *
              clear hz0
              replace hS9 := Lib.hid hS9
              go_wp2_with fail
              go_roundw
              case rel => exact ⟨sh + 1, by omega, by go_num, by rw [← Nat.add_assoc]; exact hS9.out⟩
              case measure => simp [intOf]; omega
          · have HN2 := HN'.out
            rw [hn1, hY1.out, hY2.out] at HN2
            replace HN2 := Lib.hid HN2
            have hn4 : (Y2 == M) = false := beq_eq_false_iff_ne.2 hn2
            replace hn3 := Lib.hid hn3
            clear HN' hn1 hst hn2
            refine wp_region_quiet_below (by kernel_rfl) (by kernel_rfl) ?_
            have q0 := cell_regrown b0
            have q1 := cell_regrown b1
            have q2 := cell_regrown c0
            have q3 := cell_regrown c1
            clear b0 b1 c0 c1
            repeat (go_big_quiet_step (first
              | (go_at_call 44; first | (with_reducible exact Calls.regrown_of (HN2.out _)))))
            refine wpQuiet_nil ?_
            intro _ hw'
            obtain ⟨⟨dq, osq⟩, hw''⟩ := hw'
            subst hw''
            have hbl := below_regrown W7 dq osq
            have hS8 := hS7.out.below hbl
            have hA8 := hA7.out.below hbl hA7.out.lt
            generalize Go.«Sort».grow (redrawn W7 dq) osq = V1 at *
            clear q0 q1 q2 q3 HN2 hS7 hA7 hbl
            have hS9 : Sr w S R T s p q V1 (13 * fi + sh + 1) := ⟨hS8.t, hS8.r, by rw [hn3.out]; exact hS8.b, hS8.bel⟩
            clear hS8 hA8 hn3
            go_upto_region 11 with (fail)
            obtain ⟨P9, Q9, g9, e9⟩ := bestC_open s p q (13 * fi + sh + 1)
            have hb9 := hS9.b
            rw [e9] at hb9
            have z0 := hb9.cell 0
            rw [show (attA (bF s p q (13 * fi + sh + 1)).1 (bF s p q (13 * fi + sh + 1)).2 P9 Q9 g9)[0]? = some (.int .i64 (blkF s p q (topF s p q (13 * fi + sh)))) from rfl] at z0
            clear hb9 e9
            by_cases hz0 : blkF s p q (topF s p q (13 * fi + sh)) = 0
            · rw [hz0] at z0
              obtain ⟨V', f1, f2, f3, f4, f5⟩ := hS9.fin hSR
              have hTop := hstop.out (13 * fi + sh) (by omega) hz0
              have hfinC : bestC s p q (13 * fi + sh + 1) = attD s p q (topF s p q 51) := by rw [hTop]; rfl
              rw [hfinC] at f1 f2 f3 f5
              replace f1 := Lib.hid f1
              replace f2 := Lib.hid f2
              replace f3 := Lib.hid f3
              replace f4 := Lib.hid f4
              clear hfinC hTop hS9 hz0
              generalize hCC : attD s p q (topF s p q 51) = CC at *
              replace hCC := Lib.hid hCC
              go_wp2_with (first | (refine wpList_loadVar rfl 69 _ rfl _ _ rfl f1.out ?_) | (refine wpList_storeVar rfl 69 _ _ rfl _ _ rfl rfl f2.out ?_))
              try rw [Exit.noGoto_ret]
              exact bodyPost_ret (results_cell_row (fn := Try.f34) (p := 4) (ty := 69) rfl _ _ _ _ _ (0, 0) _ rfl f3.out Try.underlying69 rfl (by rw [f5]; kernel_rfl)) rfl ⟨by rw [hCC.out], by rw [hSs.out]; exact f4.out⟩
            · have hzb : (blkF s p q (topF s p q (13 * fi + sh)) == 0) = false := beq_eq_false_iff_ne.2 hz0
              generalize blkF s p q (topF s p q (13 * fi + sh)) = far9 at *
              clear hz0
              replace hS9 := Lib.hid hS9
              go_wp2_with fail
              go_roundw
              case rel => exact ⟨sh + 1, by omega, by go_num, by rw [← Nat.add_assoc]; exact hS9.out⟩
              case measure => simp [intOf]; omega
        · obtain rfl : sh = 13 := by omega
          replace hS := Lib.hid hS
          go_wp2_with fail
          go_roundw
          case rel => exact ⟨fi + 1, by omega, by go_num, by have := hS.out; rw [show 13 * (fi + 1) = 13 * fi + 13 by omega]; exact this⟩
          case measure => simp [intOf]; omega
    · obtain rfl : fi = 4 := by omega
      obtain ⟨V', f1, f2, f3, f4, f5⟩ := hSo.fin hSR
      have hfinC : bestC s p q (13 * 4) = attD s p q (topF s p q 51) := rfl
      rw [hfinC] at f1 f2 f3 f5
      replace f1 := Lib.hid f1
      replace f2 := Lib.hid f2
      replace f3 := Lib.hid f3
      replace f4 := Lib.hid f4
      clear hfinC hSo
      generalize hCC : attD s p q (topF s p q 51) = CC at *
      replace hCC := Lib.hid hCC
      go_wp2_with (first | (refine wpList_loadVar rfl 69 _ rfl _ _ rfl f1.out ?_) | (refine wpList_storeVar rfl 69 _ _ rfl _ _ rfl rfl f2.out ?_))
      try rw [Exit.noGoto_ret]
      exact bodyPost_ret (results_cell_row (fn := Try.f34) (p := 4) (ty := 69) rfl _ _ _ _ _ (0, 0) _ rfl f3.out Try.underlying69 rfl (by rw [f5]; kernel_rfl)) rfl ⟨by rw [hCC.out], by rw [hSs.out]; exact f4.out⟩
end Go.Proofs.Ytekjcgckniopdaa
