/-
  The document's Enter.
-/
import Derived.Test.YtnacdaodjgdnnaaGreatXDtB
import Derived.Deep.RegionWith
namespace Go.Proofs.YtnacdaodjgdnnaaGreat
open Go.RowKit Go.Shelf
set_option maxRecDepth 100000
set_option maxHeartbeats 1000000
set_option linter.unusedVariables false

theorem rvector_any (why : Nat) (e : Bool) (w : World) (hw : why < 256) : Calls Tryz.prog 24 #[.int .u8 (why : Nat), .bool e] w fun e' w' => e' = .returned (.int .u32 (vectorF why e : Nat)) ∧ w = w' := by
  unfold vectorF
  rcases (show why = 0 ∨ why = 1 ∨ why = 2 ∨ 2 < why by omega) with rfl | rfl | rfl | h
  · rw [if_pos rfl]
    go_enter Tryz.func24, Tryz.ntmps24
    go_wp2_with fail
    go_ret
    exact ⟨rfl, rfl⟩
  · rw [if_neg (by decide), if_pos rfl]
    cases e
    · rw [if_neg (by decide)]
      go_enter Tryz.func24, Tryz.ntmps24
      go_wp2_with fail
      go_ret
      exact ⟨rfl, rfl⟩
    · rw [if_pos rfl]
      go_enter Tryz.func24, Tryz.ntmps24
      go_wp2_with fail
      go_ret
      exact ⟨rfl, rfl⟩
  · rw [if_neg (by decide), if_neg (by decide), if_pos rfl]
    cases e
    · rw [if_neg (by decide)]
      go_enter Tryz.func24, Tryz.ntmps24
      go_wp2_with fail
      go_ret
      exact ⟨rfl, rfl⟩
    · rw [if_pos rfl]
      go_enter Tryz.func24, Tryz.ntmps24
      go_wp2_with fail
      go_ret
      exact ⟨rfl, rfl⟩
  · rw [if_neg (by omega), if_neg (by omega), if_neg (by omega)]
    have t0 : ((why : Int) == 0) = false := by rw [beq_eq_false_iff_ne]; omega
    have t1 : ((why : Int) == 1) = false := by rw [beq_eq_false_iff_ne]; omega
    have t2 : ((why : Int) == 2) = false := by rw [beq_eq_false_iff_ne]; omega
    go_enter Tryz.func24, Tryz.ntmps24
    go_wp2_with fail
    go_ret
    exact ⟨rfl, rfl⟩
theorem denter_any (why : Nat) (r : Rg) (a : Option Addr) (n c : Nat) (f : Nat → Nat) (w : World) (hw : why < 256) (h : r.Ok) (hR : Row w a n f) (hnc : n ≤ c) (s : Ds) (hs : dEnter why r ⟨r.settle, n, f, [], 0, 0⟩ = s) (hlen : s.l.length ≤ 200) :
    Calls Tryz.prog 22 #[.int .u8 (why : Nat), r.v, .slice a n c] w fun e w' => ∃ a c, e = .returned (tnV (.slice a (cutL s.n s.l).length c) s.ok s.tr s.ta) ∧ AX w' a (cutL s.n s.l) ∧ (cutL s.n s.l).length ≤ c ∧ Below w.heap.size w w' := by
  rcases Nat.eq_zero_or_pos why with rfl | hpos
  · exact denter_0 r a n c f w h hR hnc s hs hlen
  have hG := (Whole.fresh w 24 (rgC r.A r.X r.Y r.S r.D r.PC r.B r.K r.P r.E)).alloc (.cells #[.slice none 0 0, .bool false, .int .u16 0, .int .u16 0, .int .u16 0, .int .u16 0, .int .u16 0, .int .u16 0, .int .u8 0, .int .u8 0, .int .u8 0, .bool false, .int .u8 0] 29)
  have hB := ((Below.refl w.heap.size w).alloc (Nat.le_refl _) (.cells (rgC r.A r.X r.Y r.S r.D r.PC r.B r.K r.P r.E) 24)).alloc (by simp) (.cells #[.slice none 0 0, .bool false, .int .u16 0, .int .u16 0, .int .u16 0, .int .u16 0, .int .u16 0, .int .u16 0, .int .u8 0, .int .u8 0, .int .u8 0, .bool false, .int .u8 0] 29)
  have hT := Whole.fresh (w.alloc (.cells (rgC r.A r.X r.Y r.S r.D r.PC r.B r.K r.P r.E) 24)) 29 #[.slice none 0 0, .bool false, .int .u16 0, .int .u16 0, .int .u16 0, .int .u16 0, .int .u16 0, .int .u16 0, .int .u8 0, .int .u8 0, .int .u8 0, .bool false, .int .u8 0]
  have hR2 := (hR.alloc (.cells (rgC r.A r.X r.Y r.S r.D r.PC r.B r.K r.P r.E) 24)).alloc (.cells #[.slice none 0 0, .bool false, .int .u16 0, .int .u16 0, .int .u16 0, .int .u16 0, .int .u16 0, .int .u16 0, .int .u8 0, .int .u8 0, .int .u8 0, .bool false, .int .u8 0] 29)
  have hsz : (w.alloc (.cells (rgC r.A r.X r.Y r.S r.D r.PC r.B r.K r.P r.E) 24)).heap.size = w.heap.size + 1 := by simp
  rw [hsz] at hT
  generalize hV : (w.alloc (.cells (rgC r.A r.X r.Y r.S r.D r.PC r.B r.K r.P r.E) 24)).alloc (.cells #[.slice none 0 0, .bool false, .int .u16 0, .int .u16 0, .int .u16 0, .int .u16 0, .int .u16 0, .int .u16 0, .int .u8 0, .int .u8 0, .int .u8 0, .bool false, .int .u8 0] 29) = V at *
  have HS := fun W => rsettle_any r W h
  have hset := h.settle
  have hnew := fun (W2 : World) (hb : Below V.heap.size V W2) => Dk.new V W2 a n c f r.settle hset hb hR2 hnc
  have hTlt := hT.lt
  have hVs := hB.size
  have hGW := fun (W : World) (hb : Below V.heap.size V W) => hG.below hb hG.lt
  -- the end
  have hlast : ∀ (la : Option Addr) (lc : Nat) (W : World), AX W la (cutL s.n s.l) → AB V.heap.size la → Below V.heap.size V W → (Whole W (w.heap.size + 1) 29 #[.slice none 0 0, .bool false, .int .u16 0, .int .u16 0, .int .u16 0, .int .u16 0, .int .u16 0, .int .u16 0, .int .u8 0, .int .u8 0, .int .u8 0, .bool false, .int .u8 0] ∧ Hid (Whole (layT W (w.heap.size + 1) (.slice la (cutL s.n s.l).length lc) (.bool s.ok) (.int .u16 (s.tr.A : Nat)) (.int .u16 (s.tr.X : Nat)) (.int .u16 (s.tr.Y : Nat)) (.int .u16 (s.tr.S : Nat)) (.int .u16 (s.tr.D : Nat)) (.int .u16 (s.tr.PC : Nat)) (.int .u8 (s.tr.B : Nat)) (.int .u8 (s.tr.K : Nat)) (.int .u8 (s.tr.P : Nat)) (.bool s.tr.E) (.int .u8 (s.ta : Nat))) (w.heap.size + 1) 29 #[.slice la (cutL s.n s.l).length lc, .bool s.ok, .int .u16 (s.tr.A : Nat), .int .u16 (s.tr.X : Nat), .int .u16 (s.tr.Y : Nat), .int .u16 (s.tr.S : Nat), .int .u16 (s.tr.D : Nat), .int .u16 (s.tr.PC : Nat), .int .u8 (s.tr.B : Nat), .int .u8 (s.tr.K : Nat), .int .u8 (s.tr.P : Nat), .bool s.tr.E, .int .u8 (s.ta : Nat)] ∧ AX (layT W (w.heap.size + 1) (.slice la (cutL s.n s.l).length lc) (.bool s.ok) (.int .u16 (s.tr.A : Nat)) (.int .u16 (s.tr.X : Nat)) (.int .u16 (s.tr.Y : Nat)) (.int .u16 (s.tr.S : Nat)) (.int .u16 (s.tr.D : Nat)) (.int .u16 (s.tr.PC : Nat)) (.int .u8 (s.tr.B : Nat)) (.int .u8 (s.tr.K : Nat)) (.int .u8 (s.tr.P : Nat)) (.bool s.tr.E) (.int .u8 (s.ta : Nat))) la (cutL s.n s.l) ∧ Below w.heap.size w (layT W (w.heap.size + 1) (.slice la (cutL s.n s.l).length lc) (.bool s.ok) (.int .u16 (s.tr.A : Nat)) (.int .u16 (s.tr.X : Nat)) (.int .u16 (s.tr.Y : Nat)) (.int .u16 (s.tr.S : Nat)) (.int .u16 (s.tr.D : Nat)) (.int .u16 (s.tr.PC : Nat)) (.int .u8 (s.tr.B : Nat)) (.int .u8 (s.tr.K : Nat)) (.int .u8 (s.tr.P : Nat)) (.bool s.tr.E) (.int .u8 (s.ta : Nat))))) :=
    fun la lc W ha hab hb => by
      have hTw := hT.below hb hTlt
      have hx := layT_fin (lv := .slice none 0 0) (n := 0) (xs := []) (.slice la (cutL s.n s.l).length lc) (.bool s.ok) (.int .u16 (s.tr.A : Nat)) (.int .u16 (s.tr.X : Nat)) (.int .u16 (s.tr.Y : Nat)) (.int .u16 (s.tr.S : Nat)) (.int .u16 (s.tr.D : Nat)) (.int .u16 (s.tr.PC : Nat)) (.int .u8 (s.tr.B : Nat)) (.int .u8 (s.tr.K : Nat)) (.int .u8 (s.tr.P : Nat)) (.bool s.tr.E) (.int .u8 (s.ta : Nat)) hTw (World.ownsRow_nil W w.heap.size 35 3) (by simp [Value.ownBlock]) (hB.trans (hb.mono hVs)) (Nat.le_succ _)
      exact ⟨hTw, Lib.hid ⟨hx.1, ha.lay (fun p hp => by have := hab p hp; have := hTlt; omega) _ _ _ _ _ _ _ _ _ _ _ _ _, hx.2.2⟩⟩
  have hl200 : s.l.length ≤ 200 := hlen
  have HT := fun (B b t : Nat) (W : World) (hW : Dk V B b t cd0 false s W) => dtold_any hW hl200
  unfold layT at hlast
  have hvr : r.v = .agg #[.int .u16 r.A, .int .u16 r.X, .int .u16 r.Y, .int .u16 r.S, .int .u16 r.D, .int .u16 r.PC, .int .u8 r.B, .int .u8 r.K, .int .u8 r.P, .bool r.E] := rfl
  unfold Rg.v rgC at HS
  rw [hvr]
  unfold rgC at hG hV hGW
  have g0 := hG.cell 0
  have g1 := hG.cell 1
  have g2 := hG.cell 2
  have g3 := hG.cell 3
  have g4 := hG.cell 4
  have g5 := hG.cell 5
  have g6 := hG.cell 6
  have g7 := hG.cell 7
  have g8 := hG.cell 8
  have g9 := hG.cell 9
  simp only [List.getElem?_toArray, List.getElem?_cons_zero, List.getElem?_cons_succ] at g0 g1 g2 g3 g4 g5 g6 g7 g8 g9
  generalize hq : r.settle = q at *
  replace HS := Lib.hid HS
  replace hnew := Lib.hid hnew
  replace hlast := Lib.hid hlast
  replace HT := Lib.hid HT
  replace hGW := Lib.hid hGW
  clear hG hB hT hR2 hR hsz hTlt hVs hnc hlen hl200 hvr hset
  rcases (show why = 0 ∨ why = 1 ∨ why = 2 ∨ 2 < why by omega) with rfl | rfl | rfl | hgt
  · exact absurd hpos (by decide)
  · rw [show dEnter 1 r ⟨q, n, f, [], 0, 0⟩ = (wd (intW 1) ⟨q, n, f, [], 0, 0⟩).2 from rfl] at hs
    obtain ⟨s1, hs1⟩ : ∃ s1, (wd (idlesW 2) ⟨q, n, f, [], 0, 0⟩).2 = s1 := ⟨_, rfl⟩
    rw [intD 1 _ s1 hs1] at hs
    have hr1 : s1.r = q := by rw [← hs1]; exact idlesD_r 2 _
    have hl1 : s1.l.length = 2 := by rw [← hs1]; exact idlesD_len 2 _
    rw [hr1] at hs
    have HI := fun (b t : Nat) (W : World) (hW : Dk V V.heap.size b t cd0 false ⟨q, n, f, [], 0, 0⟩ W) => didle_any (n := 2) hW (by show 0 + 2 ≤ 100; decide)
    rw [hs1] at HI
    have hl90 : s1.l.length ≤ 90 := by omega
    have hPq : q.P < 256 := by rw [← hq]; exact settleP_lt _ _ h.P
    have hvl := vectorF_lt 1 q.E
    have HV := fun W => rvector_any 1 q.E W (by decide)
    have hE16 : q.E = true → (q.P / 16 % 2 == 1) = true := fun e => by
      rw [← hq] at e ⊢
      show (settleP r.P r.E / 16 % 2 == 1) = true
      have e' : r.E = true := e
      unfold settleP
      rw [if_pos e', (p48 r.P h.P).1]
      rfl
    have h239 : ∀ P, P < 256 → (P / 16 % 2 == 1) = true → P &&& 239 = P - 16 ∧ 16 ≤ P := by decide +kernel
    have HF := fun (b t : Nat) (W : World) (hW : Dk V V.heap.size b t cd0 false s1 W) => dflag_any (f := 16) hW (by decide) (by decide)
    rw [hr1] at HF
    have hfa := fun (b t : Nat) (W : World) (hW : Dk V V.heap.size b t cd0 false s1 W) => (show W.cell? ⟨t, 0, none⟩ = some (.pointer (some ⟨b, 0, none⟩)) ∧ W.cell? ⟨b, 8, none⟩ = some (.int .u8 (q.P : Nat)) ∧ W.cell? ⟨b, 9, none⟩ = some (.bool q.E) from ⟨hW.ptr, by rw [← hr1]; exact hW.pk.look.2.1.2.2.2.1, by rw [← hr1]; exact hW.pk.look.2.1.2.2.2.2⟩)
    generalize vectorF 1 q.E = vec at *
    have HN := fun (b t : Nat) (W : World) (fl : Nat) (hfl : fl < 256) (hW : Dk V V.heap.size b t cd0 false s1 W) => dinto_any (vec := vec) (fl := fl) hW hl90 hvl hfl
    simp only [show ((1 : Nat) : Int) = 1 from rfl, show ((2 : Nat) : Int) = 2 from rfl, show ((16 : Nat) : Int) = 16 from rfl] at HI HV HF
    replace HI := Lib.hid HI
    replace HV := Lib.hid HV
    replace HF := Lib.hid HF
    replace HN := Lib.hid HN
    replace hfa := Lib.hid hfa
    clear hGW hr1 hl1 hl90 hvl hs1
    cases hE : q.E with
    | false =>
      rw [hE, if_neg (by decide)] at hs
      rw [hE] at HV hfa
      have HN2 := Lib.hid fun b t W => HN.out b t W q.P hPq
      rw [hs] at HN2
      clear HN hE16 h239 hs HF hPq hq hE
      go_enter Tryz.func22, Tryz.ntmps22
      go_upto_region 1 with (fail)
      clear hV
      go_wp2_with fail
      refine (HS.out _).mono ?_
      rintro e W2 ⟨rfl, hb⟩
      have hD := hnew.out W2 hb
      clear HS hnew hb g0 g1 g2 g3 g4 g5 g6 g7 g8 g9
      go_upto_region 2 with (fail)
      generalize (W2.alloc (.cells #[.int .u16 q.A, .int .u16 q.X, .int .u16 q.Y, .int .u16 q.S, .int .u16 q.D, .int .u16 q.PC, .int .u8 q.B, .int .u8 q.K, .int .u8 q.P, .bool q.E, .slice a n c, .slice none 0 0, .int .i64 0] 110)).alloc (.cells #[.pointer (some ⟨W2.heap.size, 0, none⟩), .int .u8 0, .string ⟨#[]⟩, .int .u8 0, .int .u8 0, .int .u8 0, .bool false, .int .u8 0] 112) = W3 at *
      generalize W2.heap.size = b at *
      have c0 := hD.ptr
      replace hD := Lib.hid hD
      go_wp2_with fail
      refine (HI.out _ _ _ hD.out).mono ?_
      rintro e W4 ⟨rfl, h4⟩
      obtain ⟨d0, d8, d9⟩ := hfa.out _ _ _ h4
      replace h4 := Lib.hid h4
      clear HI hfa hD c0
      generalize q.P = P at *
      go_wp2_with fail
      refine (HV.out _).mono ?_
      rintro e W5 ⟨rfl, rfl⟩
      go_wp2_with fail
      refine (HN2.out _ _ _ h4.out).mono ?_
      rintro e W6 ⟨rfl, hD⟩
      replace hD := Lib.hid hD
      clear HV HN2 h4 d0 d8 d9
      go_wp2_with fail
      refine (HT.out _ _ _ _ hD.out).mono ?_
      rintro e W9 ⟨la, lc, rfl, hax, hlc, hb9, hab⟩
      obtain ⟨hTc, hfn⟩ := hlast.out la lc W9 hax hab hb9
      have u0 := hTc.cell 0
      have f0 := hTc.free 0
      have u1 := hTc.cell 1
      have f1 := hTc.free 1
      have u2 := hTc.cell 2
      have f2 := hTc.free 2
      have t3 := hTc.cell 3
      have f3 := hTc.free 3
      have t4 := hTc.cell 4
      have f4 := hTc.free 4
      have t5 := hTc.cell 5
      have f5 := hTc.free 5
      have t6 := hTc.cell 6
      have f6 := hTc.free 6
      have t7 := hTc.cell 7
      have f7 := hTc.free 7
      have t8 := hTc.cell 8
      have f8 := hTc.free 8
      have t9 := hTc.cell 9
      have f9 := hTc.free 9
      have t10 := hTc.cell 10
      have f10 := hTc.free 10
      have t11 := hTc.cell 11
      have f11 := hTc.free 11
      have t12 := hTc.cell 12
      have f12 := hTc.free 12
      simp only [List.getElem?_toArray, List.getElem?_cons_zero, List.getElem?_cons_succ] at u0 u1 u2 t3 t4 t5 t6 t7 t8 t9 t10 t11 t12
      replace hlc := Lib.hid hlc
      clear HT hD hTc hax hab hb9 hlast
      unfold tnV
      go_wp2_with fail
      exact bodyPost_ret (results_cell_row (fn := Tryz.f22) (p := 6) (ty := 29) rfl _ _ _ _ _ (0, 0) _ rfl hfn.out.1 Tryz.underlying29 rfl (by kernel_rfl)) rfl ⟨_, _, rfl, hfn.out.2.1, hlc.out, hfn.out.2.2⟩
    | true =>
      rw [hE, if_pos rfl] at hs
      rw [hE] at HV hfa
      have hP16 := hE16 hE
      obtain ⟨he1, he2⟩ := h239 q.P hPq hP16
      have HN2 := Lib.hid fun b t W => HN.out b t W (q.P &&& 239) (and_lt256 _ _ hPq)
      rw [hs] at HN2
      rw [hP16] at HF
      obtain ⟨z, hz⟩ : ∃ z, q.P &&& 239 = z := ⟨_, rfl⟩
      rw [hz] at HN2 he1
      have e1 : (q.P : Int) - 16 = (z : Int) := by omega
      have e2 : IntKind.u8.wrap (z : Int) = (z : Int) := by simp only [IntKind.wrap_u8]; omega
      clear HN hE16 h239 hs hPq hq hP16 he1 he2 hz hE
      go_enter Tryz.func22, Tryz.ntmps22
      go_upto_region 1 with (fail)
      clear hV
      go_wp2_with fail
      refine (HS.out _).mono ?_
      rintro e W2 ⟨rfl, hb⟩
      have hD := hnew.out W2 hb
      clear HS hnew hb g0 g1 g2 g3 g4 g5 g6 g7 g8 g9
      go_upto_region 2 with (fail)
      generalize (W2.alloc (.cells #[.int .u16 q.A, .int .u16 q.X, .int .u16 q.Y, .int .u16 q.S, .int .u16 q.D, .int .u16 q.PC, .int .u8 q.B, .int .u8 q.K, .int .u8 q.P, .bool q.E, .slice a n c, .slice none 0 0, .int .i64 0] 110)).alloc (.cells #[.pointer (some ⟨W2.heap.size, 0, none⟩), .int .u8 0, .string ⟨#[]⟩, .int .u8 0, .int .u8 0, .int .u8 0, .bool false, .int .u8 0] 112) = W3 at *
      generalize W2.heap.size = b at *
      have c0 := hD.ptr
      replace hD := Lib.hid hD
      go_wp2_with fail
      refine (HI.out _ _ _ hD.out).mono ?_
      rintro e W4 ⟨rfl, h4⟩
      obtain ⟨d0, d8, d9⟩ := hfa.out _ _ _ h4
      replace h4 := Lib.hid h4
      clear HI hfa hD c0
      generalize q.P = P at *
      go_wp2_with fail
      refine (HF.out _ _ _ h4.out).mono ?_
      rintro e W5 ⟨rfl, rfl⟩
      clear HF
      go_wp2_with fail
      refine (HV.out _).mono ?_
      rintro e W5 ⟨rfl, rfl⟩
      go_wp2_with fail
      refine (HN2.out _ _ _ h4.out).mono ?_
      rintro e W6 ⟨rfl, hD⟩
      replace hD := Lib.hid hD
      clear HV HN2 h4 d0 d8 d9
      go_wp2_with fail
      refine (HT.out _ _ _ _ hD.out).mono ?_
      rintro e W9 ⟨la, lc, rfl, hax, hlc, hb9, hab⟩
      obtain ⟨hTc, hfn⟩ := hlast.out la lc W9 hax hab hb9
      have u0 := hTc.cell 0
      have f0 := hTc.free 0
      have u1 := hTc.cell 1
      have f1 := hTc.free 1
      have u2 := hTc.cell 2
      have f2 := hTc.free 2
      have t3 := hTc.cell 3
      have f3 := hTc.free 3
      have t4 := hTc.cell 4
      have f4 := hTc.free 4
      have t5 := hTc.cell 5
      have f5 := hTc.free 5
      have t6 := hTc.cell 6
      have f6 := hTc.free 6
      have t7 := hTc.cell 7
      have f7 := hTc.free 7
      have t8 := hTc.cell 8
      have f8 := hTc.free 8
      have t9 := hTc.cell 9
      have f9 := hTc.free 9
      have t10 := hTc.cell 10
      have f10 := hTc.free 10
      have t11 := hTc.cell 11
      have f11 := hTc.free 11
      have t12 := hTc.cell 12
      have f12 := hTc.free 12
      simp only [List.getElem?_toArray, List.getElem?_cons_zero, List.getElem?_cons_succ] at u0 u1 u2 t3 t4 t5 t6 t7 t8 t9 t10 t11 t12
      replace hlc := Lib.hid hlc
      clear HT hD hTc hax hab hb9 hlast
      unfold tnV
      go_wp2_with fail
      exact bodyPost_ret (results_cell_row (fn := Tryz.f22) (p := 6) (ty := 29) rfl _ _ _ _ _ (0, 0) _ rfl hfn.out.1 Tryz.underlying29 rfl (by kernel_rfl)) rfl ⟨_, _, rfl, hfn.out.2.1, hlc.out, hfn.out.2.2⟩
  · rw [show dEnter 2 r ⟨q, n, f, [], 0, 0⟩ = (wd (intW 2) ⟨q, n, f, [], 0, 0⟩).2 from rfl] at hs
    obtain ⟨s1, hs1⟩ : ∃ s1, (wd (idlesW 2) ⟨q, n, f, [], 0, 0⟩).2 = s1 := ⟨_, rfl⟩
    rw [intD 2 _ s1 hs1] at hs
    have hr1 : s1.r = q := by rw [← hs1]; exact idlesD_r 2 _
    have hl1 : s1.l.length = 2 := by rw [← hs1]; exact idlesD_len 2 _
    rw [hr1] at hs
    have HI := fun (b t : Nat) (W : World) (hW : Dk V V.heap.size b t cd0 false ⟨q, n, f, [], 0, 0⟩ W) => didle_any (n := 2) hW (by show 0 + 2 ≤ 100; decide)
    rw [hs1] at HI
    have hl90 : s1.l.length ≤ 90 := by omega
    have hPq : q.P < 256 := by rw [← hq]; exact settleP_lt _ _ h.P
    have hvl := vectorF_lt 2 q.E
    have HV := fun W => rvector_any 2 q.E W (by decide)
    have hE16 : q.E = true → (q.P / 16 % 2 == 1) = true := fun e => by
      rw [← hq] at e ⊢
      show (settleP r.P r.E / 16 % 2 == 1) = true
      have e' : r.E = true := e
      unfold settleP
      rw [if_pos e', (p48 r.P h.P).1]
      rfl
    have h239 : ∀ P, P < 256 → (P / 16 % 2 == 1) = true → P &&& 239 = P - 16 ∧ 16 ≤ P := by decide +kernel
    have HF := fun (b t : Nat) (W : World) (hW : Dk V V.heap.size b t cd0 false s1 W) => dflag_any (f := 16) hW (by decide) (by decide)
    rw [hr1] at HF
    have hfa := fun (b t : Nat) (W : World) (hW : Dk V V.heap.size b t cd0 false s1 W) => (show W.cell? ⟨t, 0, none⟩ = some (.pointer (some ⟨b, 0, none⟩)) ∧ W.cell? ⟨b, 8, none⟩ = some (.int .u8 (q.P : Nat)) ∧ W.cell? ⟨b, 9, none⟩ = some (.bool q.E) from ⟨hW.ptr, by rw [← hr1]; exact hW.pk.look.2.1.2.2.2.1, by rw [← hr1]; exact hW.pk.look.2.1.2.2.2.2⟩)
    generalize vectorF 2 q.E = vec at *
    have HN := fun (b t : Nat) (W : World) (fl : Nat) (hfl : fl < 256) (hW : Dk V V.heap.size b t cd0 false s1 W) => dinto_any (vec := vec) (fl := fl) hW hl90 hvl hfl
    simp only [show ((2 : Nat) : Int) = 2 from rfl, show ((16 : Nat) : Int) = 16 from rfl] at HI HV HF
    replace HI := Lib.hid HI
    replace HV := Lib.hid HV
    replace HF := Lib.hid HF
    replace HN := Lib.hid HN
    replace hfa := Lib.hid hfa
    clear hGW hr1 hl1 hl90 hvl hs1
    cases hE : q.E with
    | false =>
      rw [hE, if_neg (by decide)] at hs
      rw [hE] at HV hfa
      have HN2 := Lib.hid fun b t W => HN.out b t W q.P hPq
      rw [hs] at HN2
      clear HN hE16 h239 hs HF hPq hq hE
      go_enter Tryz.func22, Tryz.ntmps22
      go_upto_region 1 with (fail)
      clear hV
      go_wp2_with fail
      refine (HS.out _).mono ?_
      rintro e W2 ⟨rfl, hb⟩
      have hD := hnew.out W2 hb
      clear HS hnew hb g0 g1 g2 g3 g4 g5 g6 g7 g8 g9
      go_upto_region 2 with (fail)
      generalize (W2.alloc (.cells #[.int .u16 q.A, .int .u16 q.X, .int .u16 q.Y, .int .u16 q.S, .int .u16 q.D, .int .u16 q.PC, .int .u8 q.B, .int .u8 q.K, .int .u8 q.P, .bool q.E, .slice a n c, .slice none 0 0, .int .i64 0] 110)).alloc (.cells #[.pointer (some ⟨W2.heap.size, 0, none⟩), .int .u8 0, .string ⟨#[]⟩, .int .u8 0, .int .u8 0, .int .u8 0, .bool false, .int .u8 0] 112) = W3 at *
      generalize W2.heap.size = b at *
      have c0 := hD.ptr
      replace hD := Lib.hid hD
      go_wp2_with fail
      refine (HI.out _ _ _ hD.out).mono ?_
      rintro e W4 ⟨rfl, h4⟩
      obtain ⟨d0, d8, d9⟩ := hfa.out _ _ _ h4
      replace h4 := Lib.hid h4
      clear HI hfa hD c0
      generalize q.P = P at *
      go_wp2_with fail
      refine (HV.out _).mono ?_
      rintro e W5 ⟨rfl, rfl⟩
      go_wp2_with fail
      refine (HN2.out _ _ _ h4.out).mono ?_
      rintro e W6 ⟨rfl, hD⟩
      replace hD := Lib.hid hD
      clear HV HN2 h4 d0 d8 d9
      go_wp2_with fail
      refine (HT.out _ _ _ _ hD.out).mono ?_
      rintro e W9 ⟨la, lc, rfl, hax, hlc, hb9, hab⟩
      obtain ⟨hTc, hfn⟩ := hlast.out la lc W9 hax hab hb9
      have u0 := hTc.cell 0
      have f0 := hTc.free 0
      have u1 := hTc.cell 1
      have f1 := hTc.free 1
      have u2 := hTc.cell 2
      have f2 := hTc.free 2
      have t3 := hTc.cell 3
      have f3 := hTc.free 3
      have t4 := hTc.cell 4
      have f4 := hTc.free 4
      have t5 := hTc.cell 5
      have f5 := hTc.free 5
      have t6 := hTc.cell 6
      have f6 := hTc.free 6
      have t7 := hTc.cell 7
      have f7 := hTc.free 7
      have t8 := hTc.cell 8
      have f8 := hTc.free 8
      have t9 := hTc.cell 9
      have f9 := hTc.free 9
      have t10 := hTc.cell 10
      have f10 := hTc.free 10
      have t11 := hTc.cell 11
      have f11 := hTc.free 11
      have t12 := hTc.cell 12
      have f12 := hTc.free 12
      simp only [List.getElem?_toArray, List.getElem?_cons_zero, List.getElem?_cons_succ] at u0 u1 u2 t3 t4 t5 t6 t7 t8 t9 t10 t11 t12
      replace hlc := Lib.hid hlc
      clear HT hD hTc hax hab hb9 hlast
      unfold tnV
      go_wp2_with fail
      exact bodyPost_ret (results_cell_row (fn := Tryz.f22) (p := 6) (ty := 29) rfl _ _ _ _ _ (0, 0) _ rfl hfn.out.1 Tryz.underlying29 rfl (by kernel_rfl)) rfl ⟨_, _, rfl, hfn.out.2.1, hlc.out, hfn.out.2.2⟩
    | true =>
      rw [hE, if_pos rfl] at hs
      rw [hE] at HV hfa
      have hP16 := hE16 hE
      obtain ⟨he1, he2⟩ := h239 q.P hPq hP16
      have HN2 := Lib.hid fun b t W => HN.out b t W (q.P &&& 239) (and_lt256 _ _ hPq)
      rw [hs] at HN2
      rw [hP16] at HF
      obtain ⟨z, hz⟩ : ∃ z, q.P &&& 239 = z := ⟨_, rfl⟩
      rw [hz] at HN2 he1
      have e1 : (q.P : Int) - 16 = (z : Int) := by omega
      have e2 : IntKind.u8.wrap (z : Int) = (z : Int) := by simp only [IntKind.wrap_u8]; omega
      clear HN hE16 h239 hs hPq hq hP16 he1 he2 hz hE
      go_enter Tryz.func22, Tryz.ntmps22
      go_upto_region 1 with (fail)
      clear hV
      go_wp2_with fail
      refine (HS.out _).mono ?_
      rintro e W2 ⟨rfl, hb⟩
      have hD := hnew.out W2 hb
      clear HS hnew hb g0 g1 g2 g3 g4 g5 g6 g7 g8 g9
      go_upto_region 2 with (fail)
      generalize (W2.alloc (.cells #[.int .u16 q.A, .int .u16 q.X, .int .u16 q.Y, .int .u16 q.S, .int .u16 q.D, .int .u16 q.PC, .int .u8 q.B, .int .u8 q.K, .int .u8 q.P, .bool q.E, .slice a n c, .slice none 0 0, .int .i64 0] 110)).alloc (.cells #[.pointer (some ⟨W2.heap.size, 0, none⟩), .int .u8 0, .string ⟨#[]⟩, .int .u8 0, .int .u8 0, .int .u8 0, .bool false, .int .u8 0] 112) = W3 at *
      generalize W2.heap.size = b at *
      have c0 := hD.ptr
      replace hD := Lib.hid hD
      go_wp2_with fail
      refine (HI.out _ _ _ hD.out).mono ?_
      rintro e W4 ⟨rfl, h4⟩
      obtain ⟨d0, d8, d9⟩ := hfa.out _ _ _ h4
      replace h4 := Lib.hid h4
      clear HI hfa hD c0
      generalize q.P = P at *
      go_wp2_with fail
      refine (HF.out _ _ _ h4.out).mono ?_
      rintro e W5 ⟨rfl, rfl⟩
      clear HF
      go_wp2_with fail
      refine (HV.out _).mono ?_
      rintro e W5 ⟨rfl, rfl⟩
      go_wp2_with fail
      refine (HN2.out _ _ _ h4.out).mono ?_
      rintro e W6 ⟨rfl, hD⟩
      replace hD := Lib.hid hD
      clear HV HN2 h4 d0 d8 d9
      go_wp2_with fail
      refine (HT.out _ _ _ _ hD.out).mono ?_
      rintro e W9 ⟨la, lc, rfl, hax, hlc, hb9, hab⟩
      obtain ⟨hTc, hfn⟩ := hlast.out la lc W9 hax hab hb9
      have u0 := hTc.cell 0
      have f0 := hTc.free 0
      have u1 := hTc.cell 1
      have f1 := hTc.free 1
      have u2 := hTc.cell 2
      have f2 := hTc.free 2
      have t3 := hTc.cell 3
      have f3 := hTc.free 3
      have t4 := hTc.cell 4
      have f4 := hTc.free 4
      have t5 := hTc.cell 5
      have f5 := hTc.free 5
      have t6 := hTc.cell 6
      have f6 := hTc.free 6
      have t7 := hTc.cell 7
      have f7 := hTc.free 7
      have t8 := hTc.cell 8
      have f8 := hTc.free 8
      have t9 := hTc.cell 9
      have f9 := hTc.free 9
      have t10 := hTc.cell 10
      have f10 := hTc.free 10
      have t11 := hTc.cell 11
      have f11 := hTc.free 11
      have t12 := hTc.cell 12
      have f12 := hTc.free 12
      simp only [List.getElem?_toArray, List.getElem?_cons_zero, List.getElem?_cons_succ] at u0 u1 u2 t3 t4 t5 t6 t7 t8 t9 t10 t11 t12
      replace hlc := Lib.hid hlc
      clear HT hD hTc hax hab hb9 hlast
      unfold tnV
      go_wp2_with fail
      exact bodyPost_ret (results_cell_row (fn := Tryz.f22) (p := 6) (ty := 29) rfl _ _ _ _ _ (0, 0) _ rfl hfn.out.1 Tryz.underlying29 rfl (by kernel_rfl)) rfl ⟨_, _, rfl, hfn.out.2.1, hlc.out, hfn.out.2.2⟩
  · have hs0 : (⟨q, n, f, [], 0, 0⟩ : Ds) = s := by
      rw [← hs]
      unfold dEnter
      rw [if_neg (by omega), if_neg (by omega)]
    rw [hs0] at hnew
    have t0 : ((why : Int) == 0) = false := by rw [beq_eq_false_iff_ne]; omega
    have t1 : ((why : Int) == 1) = false := by rw [beq_eq_false_iff_ne]; omega
    have t2 : ((why : Int) == 2) = false := by rw [beq_eq_false_iff_ne]; omega
    clear hs hs0 hq hgt hGW
    go_enter Tryz.func22, Tryz.ntmps22
    go_upto_region 1 with (fail)
    clear hV
    go_wp2_with fail
    refine (HS.out _).mono ?_
    rintro e W2 ⟨rfl, hb⟩
    have hD := hnew.out W2 hb
    clear HS hnew hb g0 g1 g2 g3 g4 g5 g6 g7 g8 g9
    go_upto_region 2 with (fail)
    generalize (W2.alloc (.cells #[.int .u16 q.A, .int .u16 q.X, .int .u16 q.Y, .int .u16 q.S, .int .u16 q.D, .int .u16 q.PC, .int .u8 q.B, .int .u8 q.K, .int .u8 q.P, .bool q.E, .slice a n c, .slice none 0 0, .int .i64 0] 110)).alloc (.cells #[.pointer (some ⟨W2.heap.size, 0, none⟩), .int .u8 0, .string ⟨#[]⟩, .int .u8 0, .int .u8 0, .int .u8 0, .bool false, .int .u8 0] 112) = W3 at *
    generalize W2.heap.size = b at *
    replace hD := Lib.hid hD
    go_wp2_with fail
    refine (HT.out _ _ _ _ hD.out).mono ?_
    rintro e W9 ⟨la, lc, rfl, hax, hlc, hb9, hab⟩
    obtain ⟨hTc, hfn⟩ := hlast.out la lc W9 hax hab hb9
    have u0 := hTc.cell 0
    have f0 := hTc.free 0
    have u1 := hTc.cell 1
    have f1 := hTc.free 1
    have u2 := hTc.cell 2
    have f2 := hTc.free 2
    have t3 := hTc.cell 3
    have f3 := hTc.free 3
    have t4 := hTc.cell 4
    have f4 := hTc.free 4
    have t5 := hTc.cell 5
    have f5 := hTc.free 5
    have t6 := hTc.cell 6
    have f6 := hTc.free 6
    have t7 := hTc.cell 7
    have f7 := hTc.free 7
    have t8 := hTc.cell 8
    have f8 := hTc.free 8
    have t9 := hTc.cell 9
    have f9 := hTc.free 9
    have t10 := hTc.cell 10
    have f10 := hTc.free 10
    have t11 := hTc.cell 11
    have f11 := hTc.free 11
    have t12 := hTc.cell 12
    have f12 := hTc.free 12
    simp only [List.getElem?_toArray, List.getElem?_cons_zero, List.getElem?_cons_succ] at u0 u1 u2 t3 t4 t5 t6 t7 t8 t9 t10 t11 t12
    replace hlc := Lib.hid hlc
    clear HT hD hTc hax hab hb9 hlast
    unfold tnV
    go_wp2_with fail
    exact bodyPost_ret (results_cell_row (fn := Tryz.f22) (p := 6) (ty := 29) rfl _ _ _ _ _ (0, 0) _ rfl hfn.out.1 Tryz.underlying29 rfl (by kernel_rfl)) rfl ⟨_, _, rfl, hfn.out.2.1, hlc.out, hfn.out.2.2⟩
end Go.Proofs.YtnacdaodjgdnnaaGreat
