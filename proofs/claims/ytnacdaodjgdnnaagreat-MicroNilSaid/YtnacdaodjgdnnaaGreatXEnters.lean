/-
  ExecEnters: two turns that are the same; the law's walk.
-/
import Derived.Test.YtnacdaodjgdnnaaGreatXCrsA
namespace Go.Proofs.YtnacdaodjgdnnaaGreat
open Go.RowKit Go.Shelf
set_option maxRecDepth 100000
set_option maxHeartbeats 1000000
set_option linter.unusedVariables false

theorem turns_any (a a' : Option Addr) (c c' : Nat) (l : List (Nat × Nat × Nat)) (d : Bool) (r : Rg) (z : Nat) (w : World) (h1 : AX w a l) (h2 : AX w a' l) (hn : l.length ≤ 100) :
    Calls Tryz.prog 17 #[tnV (.slice a l.length c) d r z, tnV (.slice a' l.length c') d r z] w fun e w' => e = .returned (.bool true) ∧ Below w.heap.size w w' := by
  obtain ⟨L, hL⟩ : ∃ L, l.length = L := ⟨_, rfl⟩
  have hX := (Whole.fresh w 29 #[.slice a L c, .bool d, .int .u16 (r.A : Nat), .int .u16 (r.X : Nat), .int .u16 (r.Y : Nat), .int .u16 (r.S : Nat), .int .u16 (r.D : Nat), .int .u16 (r.PC : Nat), .int .u8 (r.B : Nat), .int .u8 (r.K : Nat), .int .u8 (r.P : Nat), .bool r.E, .int .u8 (z : Nat)]).alloc (.cells #[.slice a' L c', .bool d, .int .u16 (r.A : Nat), .int .u16 (r.X : Nat), .int .u16 (r.Y : Nat), .int .u16 (r.S : Nat), .int .u16 (r.D : Nat), .int .u16 (r.PC : Nat), .int .u8 (r.B : Nat), .int .u8 (r.K : Nat), .int .u8 (r.P : Nat), .bool r.E, .int .u8 (z : Nat)] 29)
  have hY := Whole.fresh (w.alloc (.cells #[.slice a L c, .bool d, .int .u16 (r.A : Nat), .int .u16 (r.X : Nat), .int .u16 (r.Y : Nat), .int .u16 (r.S : Nat), .int .u16 (r.D : Nat), .int .u16 (r.PC : Nat), .int .u8 (r.B : Nat), .int .u8 (r.K : Nat), .int .u8 (r.P : Nat), .bool r.E, .int .u8 (z : Nat)] 29)) 29 #[.slice a' L c', .bool d, .int .u16 (r.A : Nat), .int .u16 (r.X : Nat), .int .u16 (r.Y : Nat), .int .u16 (r.S : Nat), .int .u16 (r.D : Nat), .int .u16 (r.PC : Nat), .int .u8 (r.B : Nat), .int .u8 (r.K : Nat), .int .u8 (r.P : Nat), .bool r.E, .int .u8 (z : Nat)]
  rw [World.size_alloc] at hY
  have hB := ((Below.refl w.heap.size w).alloc (Nat.le_refl _) (.cells #[.slice a L c, .bool d, .int .u16 (r.A : Nat), .int .u16 (r.X : Nat), .int .u16 (r.Y : Nat), .int .u16 (r.S : Nat), .int .u16 (r.D : Nat), .int .u16 (r.PC : Nat), .int .u8 (r.B : Nat), .int .u8 (r.K : Nat), .int .u8 (r.P : Nat), .bool r.E, .int .u8 (z : Nat)] 29)).alloc (by simp) (.cells #[.slice a' L c', .bool d, .int .u16 (r.A : Nat), .int .u16 (r.X : Nat), .int .u16 (r.Y : Nat), .int .u16 (r.S : Nat), .int .u16 (r.D : Nat), .int .u16 (r.PC : Nat), .int .u8 (r.B : Nat), .int .u8 (r.K : Nat), .int .u8 (r.P : Nat), .bool r.E, .int .u8 (z : Nat)] 29)
  have HS := Lib.hid (same_acc a a' l c c' _ (h1.below hB) (h2.below hB) hn)
  rw [hL] at HS ⊢
  unfold tnV
  have x0 := hX.cell 0
  have y0 := hY.cell 0
  have x1 := hX.cell 1
  have y1 := hY.cell 1
  have x2 := hX.cell 2
  have y2 := hY.cell 2
  have x3 := hX.cell 3
  have y3 := hY.cell 3
  have x4 := hX.cell 4
  have y4 := hY.cell 4
  have x5 := hX.cell 5
  have y5 := hY.cell 5
  have x6 := hX.cell 6
  have y6 := hY.cell 6
  have x7 := hX.cell 7
  have y7 := hY.cell 7
  have x8 := hX.cell 8
  have y8 := hY.cell 8
  have x9 := hX.cell 9
  have y9 := hY.cell 9
  have x10 := hX.cell 10
  have y10 := hY.cell 10
  have x11 := hX.cell 11
  have y11 := hY.cell 11
  have x12 := hX.cell 12
  have y12 := hY.cell 12
  simp only [List.getElem?_toArray, List.getElem?_cons_zero, List.getElem?_cons_succ] at x0 x1 x2 x3 x4 x5 x6 x7 x8 x9 x10 x11 x12 y0 y1 y2 y3 y4 y5 y6 y7 y8 y9 y10 y11 y12
  clear hX hY h1 h2 hn hL
  obtain ⟨T, hT⟩ : ∃ T, w.heap.size = T := ⟨_, rfl⟩
  rw [hT] at hB x0 x1 x2 x3 x4 x5 x6 x7 x8 x9 x10 x11 x12 y0 y1 y2 y3 y4 y5 y6 y7 y8 y9 y10 y11 y12
  obtain ⟨V, hV⟩ : ∃ V, (w.alloc (.cells #[.slice a L c, .bool d, .int .u16 (r.A : Nat), .int .u16 (r.X : Nat), .int .u16 (r.Y : Nat), .int .u16 (r.S : Nat), .int .u16 (r.D : Nat), .int .u16 (r.PC : Nat), .int .u8 (r.B : Nat), .int .u8 (r.K : Nat), .int .u8 (r.P : Nat), .bool r.E, .int .u8 (z : Nat)] 29)).alloc (.cells #[.slice a' L c', .bool d, .int .u16 (r.A : Nat), .int .u16 (r.X : Nat), .int .u16 (r.Y : Nat), .int .u16 (r.S : Nat), .int .u16 (r.D : Nat), .int .u16 (r.PC : Nat), .int .u8 (r.B : Nat), .int .u8 (r.K : Nat), .int .u8 (r.P : Nat), .bool r.E, .int .u8 (z : Nat)] 29) = V := ⟨_, rfl⟩
  rw [hV] at hB HS x0 x1 x2 x3 x4 x5 x6 x7 x8 x9 x10 x11 x12 y0 y1 y2 y3 y4 y5 y6 y7 y8 y9 y10 y11 y12
  replace hB := Lib.hid hB
  go_enter Tryz.func17, Tryz.ntmps17
  go_upto_region 1 with (fail)
  clear hV
  go_wp2_with fail
  refine HS.out.mono ?_
  rintro e W ⟨rfl, q, rfl⟩
  have hB2 := Lib.hid (below_drewN hB.out q)
  clear hB HS
  have e1 : ∀ i, (V.drewN q).cell? ⟨T, i, none⟩ = V.cell? ⟨T, i, none⟩ := fun i => rfl
  have e2 : ∀ i, (V.drewN q).cell? ⟨T + 1, i, none⟩ = V.cell? ⟨T + 1, i, none⟩ := fun i => rfl
  have p0 := (e1 0).trans x0
  have r0 := (e2 0).trans y0
  have p1 := (e1 1).trans x1
  have r1 := (e2 1).trans y1
  have p2 := (e1 2).trans x2
  have r2 := (e2 2).trans y2
  have p3 := (e1 3).trans x3
  have r3 := (e2 3).trans y3
  have p4 := (e1 4).trans x4
  have r4 := (e2 4).trans y4
  have p5 := (e1 5).trans x5
  have r5 := (e2 5).trans y5
  have p6 := (e1 6).trans x6
  have r6 := (e2 6).trans y6
  have p7 := (e1 7).trans x7
  have r7 := (e2 7).trans y7
  have p8 := (e1 8).trans x8
  have r8 := (e2 8).trans y8
  have p9 := (e1 9).trans x9
  have r9 := (e2 9).trans y9
  have p10 := (e1 10).trans x10
  have r10 := (e2 10).trans y10
  have p11 := (e1 11).trans x11
  have r11 := (e2 11).trans y11
  have p12 := (e1 12).trans x12
  have r12 := (e2 12).trans y12
  clear x0 x1 x2 x3 x4 x5 x6 x7 x8 x9 x10 x11 x12 y0 y1 y2 y3 y4 y5 y6 y7 y8 y9 y10 y11 y12 e1 e2
  generalize V.drewN q = V2 at *
  go_wp2_with fail
  go_ret
  exact ⟨rfl, by rw [hT]; exact hB2.out⟩
theorem readAt_lt {s : Xs} (bk n : Nat) (h : ∀ i, i < s.n → s.f i < 256) : (readAtX bk n 2 s).1 < 65536 := by
  have h1 : ∀ (a : Nat) (t : Xs), (∀ i, i < t.n → t.f i < 256) → (readX a t).1 < 256 ∧ ∀ i, i < (readX a t).2.n → (readX a t).2.f i < 256 := fun a t ht => by
    unfold readX takeX
    have hp : (t.put 1 (a % 16777216) 0).n = t.n ∧ (t.put 1 (a % 16777216) 0).f = t.f := by unfold Xs.put; split <;> exact ⟨rfl, rfl⟩
    generalize t.put 1 (a % 16777216) 0 = t' at *
    obtain ⟨p1, p2⟩ := hp
    split
    · exact ⟨Nat.zero_lt_succ 255, fun i hi => by show t'.f i < 256; rw [p2]; exact ht i (by rw [← p1]; exact hi)⟩
    · exact ⟨by show t'.f 0 < 256; rw [p2]; exact ht 0 (by omega), fun i hi => by
        show t'.f (i + 1) < 256
        have hi' : i < t'.n - 1 := hi
        rw [p2]
        exact ht (i + 1) (by omega)⟩
  obtain ⟨a1, a2⟩ := h1 (bk * 65536 + (n + 0) % 65536) s h
  obtain ⟨b1, _⟩ := h1 (bk * 65536 + (n + 1) % 65536) _ a2
  have e : (readAtX bk n 2 s).1 = (0 + (readX (bk * 65536 + (n + 0) % 65536) s).1 * 256 ^ 0) + (readX (bk * 65536 + (n + 1) % 65536) (readX (bk * 65536 + (n + 0) % 65536) s).2).1 * 256 ^ 1 := rfl
  rw [e]
  omega
theorem idles_nf : ∀ (k : Nat) (s : Xs), (idlesX k s).2.n = s.n ∧ (idlesX k s).2.f = s.f ∧ (idlesX k s).2.af = s.af
  | 0, s => ⟨rfl, rfl, rfl⟩
  | k + 1, s => by
    have ih := idles_nf k s
    have hp : ∀ t : Xs, (t.put 0 0 0).n = t.n ∧ (t.put 0 0 0).f = t.f ∧ (t.put 0 0 0).af = t.af := fun t => by unfold Xs.put; split <;> exact ⟨rfl, rfl, rfl⟩
    have e : (idlesX (k + 1) s).2 = (idlesX k s).2.put 0 0 0 := rfl
    rw [e, (hp _).1, (hp _).2.1, (hp _).2.2]
    exact ih
theorem readAtX_af (bk n : Nat) (s : Xs) : (readAtX bk n 2 s).2.af = s.af := (num_cd (fun i t => read_cd _ t) 2 s).2
theorem twin_set {s : Xs} {d : Ds} (h : Twin s d) (g : Rg → Rg) : Twin (setX g s).2 d := ⟨h.cnt, h.left, h.byte, h.list, h.stop⟩
theorem set_same (g : Rg → Rg) (s : Xs) : (setX g s).2.n = s.n ∧ (setX g s).2.f = s.f ∧ (setX g s).2.af = s.af ∧ (setX g s).2.r = g s.r ∧ (setX g s).2.l = s.l := ⟨rfl, rfl, rfl, rfl, rfl⟩
theorem twin_rr {s : Xs} {d : Ds} (h : Twin s d) (r : Rg) : Twin s (d.rr r) := ⟨h.cnt, h.left, h.byte, h.list, h.stop⟩
def gA : Rg → Rg := fun r => { r with S := (r.S + 65533) % 65536, E := true, D := 0, B := 0 }
def gB : Rg → Rg := fun r => { r with P := flagP r.P 4 true }
def gC : Rg → Rg := fun r => { r with P := flagP r.P 8 false }
def gF (v : Nat) : Rg → Rg := fun r => { r with PC := v % 65536, K := v / 65536 % 256 }
theorem anew_set : anewX = setX gA := by unfold anewX gA; rfl
theorem flag4_set : flagX 4 true = setX gB := by unfold flagX gB; rfl
theorem flag8_set : flagX 8 false = setX gC := by unfold flagX gC; rfl
theorem far_set (v : Nat) : farX v = setX (gF v) := by unfold farX gF; rfl
theorem g_all (r : Rg) : gC (gB (gA r)) = ⟨r.A, r.X, r.Y, (r.S + 65533) % 65536, 0, r.PC, 0, r.K, flagP (flagP r.P 4 true) 8 false, true⟩ := by simp only [gA, gB, gC]
theorem gF_is (v : Nat) (r : Rg) : gF v r = ⟨r.A, r.X, r.Y, r.S, r.D, v % 65536, r.B, v / 65536 % 256, r.P, r.E⟩ := by simp only [gF]
attribute [local irreducible] gA gB gC gF idlesX readAtX readAtW idlesW resetR
/-- A reset by the code, and by the document. -/
theorem reset_twin (r : Rg) (h : r.Ok) (n : Nat) (f : Nat → Nat) (hf : ∀ i, i < n → f i < 256) :
    Twin (resetX ⟨r.settle, n, f, [], false, cd0, 0⟩).2 (dReset r ⟨r.settle, n, f, [], 0, 0⟩) ∧ (resetX ⟨r.settle, n, f, [], false, cd0, 0⟩).2.r.settle = (dReset r ⟨r.settle, n, f, [], 0, 0⟩).r.settle ∧ (resetX ⟨r.settle, n, f, [], false, cd0, 0⟩).2.af = (dReset r ⟨r.settle, n, f, [], 0, 0⟩).af := by
  rw [reset_is]
  have hdr : dReset r ⟨r.settle, n, f, [], 0, 0⟩ = (wd (readAtW 0 65532 2) ((wd (idlesW 5) ⟨r, n, f, [], 0, 0⟩).2.rr (resetR (wd (idlesW 5) ⟨r, n, f, [], 0, 0⟩).2.r))).2.rr ((wd (readAtW 0 65532 2) ((wd (idlesW 5) ⟨r, n, f, [], 0, 0⟩).2.rr (resetR (wd (idlesW 5) ⟨r, n, f, [], 0, 0⟩).2.r))).2.r.pc (wd (readAtW 0 65532 2) ((wd (idlesW 5) ⟨r, n, f, [], 0, 0⟩).2.rr (resetR (wd (idlesW 5) ⟨r, n, f, [], 0, 0⟩).2.r))).1) := rfl
  rw [hdr]
  have t2 := twin_idles (twin_new r.settle r n f) 5
  have r2 := idles_r 5 ⟨r.settle, n, f, [], false, cd0, 0⟩
  have q2 := idles_nf 5 ⟨r.settle, n, f, [], false, cd0, 0⟩
  have dr2 : (wd (idlesW 5) ⟨r, n, f, [], 0, 0⟩).2.r = r := idlesD_r 5 _
  have da2 : (wd (idlesW 5) ⟨r, n, f, [], 0, 0⟩).2.af = 0 := idlesD_af 5 _
  generalize (idlesX 5 ⟨r.settle, n, f, [], false, cd0, 0⟩).2 = s2 at *
  generalize (wd (idlesW 5) ⟨r, n, f, [], 0, 0⟩).2 = d2 at *
  rw [anew_set, flag4_set, flag8_set]
  have t3 := twin_rr (twin_set (twin_set (twin_set t2 gA) gB) gC) (resetR d2.r)
  obtain ⟨k1, k2, k3, r3, _⟩ := set_same gC (setX gB (setX gA s2).2).2
  obtain ⟨m1, m2, m3, mr, _⟩ := set_same gB (setX gA s2).2
  obtain ⟨l1, l2, l3, lr, _⟩ := set_same gA s2
  rw [m1, l1] at k1
  rw [m2, l2] at k2
  rw [m3, l3] at k3
  rw [mr, lr, g_all] at r3
  clear m1 m2 m3 mr l1 l2 l3 lr
  generalize (setX gC (setX gB (setX gA s2).2).2).2 = s3 at *
  obtain ⟨e4, t4⟩ := twin_readAt t3 0 65532
  have hlt := readAt_lt (s := s3) 0 65532 (by rw [k1, k2, q2.1, q2.2.1]; exact hf)
  have r4 := readAt_r 0 65532 2 s3
  have a4 := readAtX_af 0 65532 s3
  have dr4 := readAtD_r 0 65532 (d2.rr (resetR d2.r))
  have da4 : (wd (readAtW 0 65532 2) (d2.rr (resetR d2.r))).2.af = d2.af := by rw [readAtD]; rfl
  generalize readAtX 0 65532 2 s3 = p at *
  generalize wd (readAtW 0 65532 2) (d2.rr (resetR d2.r)) = p' at *
  obtain ⟨v, s4⟩ := p
  obtain ⟨v', d4⟩ := p'
  dsimp only at *
  subst e4
  rw [far_set]
  obtain ⟨_, _, j3, jr, _⟩ := set_same (gF v) s4
  refine ⟨twin_rr (twin_set t4 _) _, ?_, ?_⟩
  · rw [jr, gF_is, r4, r3, r2]
    have e6 : (d4.rr (d4.r.pc v)).r = d4.r.pc v := rfl
    rw [e6, dr4]
    have e7 : (d2.rr (resetR d2.r)).r = resetR d2.r := rfl
    rw [e7, dr2]
    exact reset_same r h v hlt
  · rw [j3, a4, k3, q2.2.2]
    show 0 = d4.af
    rw [da4, da2]
/-- An interrupt by the code, and by the document. -/
theorem enter_same (why : Nat) (r : Rg) (h : r.Ok) (n : Nat) (f : Nat → Nat) (hf : ∀ i, i < n → f i < 256) (x : Xs) (d : Ds) (hx : (enterTopX why ⟨r.settle, n, f, [], false, cd0, 0⟩).2 = x) (hd : dEnter why r ⟨r.settle, n, f, [], 0, 0⟩ = d) :
    (!x.st) = d.ok ∧ x.l = cutL d.n d.l ∧ x.tr = d.tr ∧ x.ta = d.ta := by
  suffices hs : Twin x d ∧ x.r.settle = d.r.settle ∧ x.af = d.af by
    obtain ⟨h1, h2, h3⟩ := hs
    exact ⟨h1.ok.1, h1.ok.2, (h1.tr h2 h3).1, (h1.tr h2 h3).2⟩
  rw [← hx, ← hd]
  unfold enterTopX dEnter
  by_cases h0 : why = 0
  · rw [if_pos h0, if_pos h0]
    exact reset_twin r h n f hf
  · rw [if_neg h0, if_neg h0]
    by_cases h1 : why = 1 ∨ why = 2
    · rw [if_pos h1, if_pos h1, ← (Is.interrupt why).eq]
      obtain ⟨_, b2, b3, b4⟩ := both (Fine.interrupt why) (twin_new r.settle r.settle n f) rfl rfl
      exact ⟨b4, by rw [b2], b3⟩
    · rw [if_neg h1, if_neg h1]
      exact ⟨twin_new _ _ n f, rfl, rfl⟩
theorem readAtD_len (bk n : Nat) (s : Ds) : (wd (readAtW bk n 2) s).2.l.length = s.l.length + 2 := by
  rw [readAtD]
  show (readD _ (readD _ s).2).2.l.length = _
  rw [readD_len, readD_len]
theorem intoD_len (vec fl : Nat) (s : Ds) : (wd (intoW vec fl) s).2.l.length ≤ s.l.length + 6 := by
  have h1 := bankD_len s
  have h2 := push2D_len (wd bankW s).2.r.PC (wd bankW s).2
  have h3 := pushD_len fl (wd (push2W (wd bankW s).2.r.PC) (wd bankW s).2).2
  have h4 := readAtD_len 0 vec ((wd (pushW fl) (wd (push2W (wd bankW s).2.r.PC) (wd bankW s).2).2).2.rr ((wd (pushW fl) (wd (push2W (wd bankW s).2.r.PC) (wd bankW s).2).2).2.r.p (flagP (flagP (wd (pushW fl) (wd (push2W (wd bankW s).2.r.PC) (wd bankW s).2).2).2.r.P 4 true) 8 false)))
  have h5 : ∀ (t : Ds) (q : Rg), (t.rr q).l = t.l := fun t q => rfl
  rw [intoD vec fl s _ _ _ rfl rfl rfl]
  rw [h5, h4, h5]
  omega
theorem enter_lenD (why : Nat) (r : Rg) (n : Nat) (f : Nat → Nat) : (dEnter why r ⟨r.settle, n, f, [], 0, 0⟩).l.length ≤ 200 := by
  have h5 : ∀ (t : Ds) (q : Rg), (t.rr q).l = t.l := fun t q => rfl
  unfold dEnter
  split
  · unfold dReset
    dsimp only
    rw [h5, readAtD_len, h5, idlesD_len, h5]
    show 0 + 5 + 2 ≤ 200
    decide
  · split
    · have h1 := intD why ⟨r.settle, n, f, [], 0, 0⟩ _ rfl
      rw [h1]
      have h2 := intoD_len (vectorF why (wd (idlesW 2) ⟨r.settle, n, f, [], 0, 0⟩).2.r.E) (if (wd (idlesW 2) ⟨r.settle, n, f, [], 0, 0⟩).2.r.E = true then (wd (idlesW 2) ⟨r.settle, n, f, [], 0, 0⟩).2.r.P &&& 239 else (wd (idlesW 2) ⟨r.settle, n, f, [], 0, 0⟩).2.r.P) (wd (idlesW 2) ⟨r.settle, n, f, [], 0, 0⟩).2
      rw [idlesD_len] at h2
      exact Nat.le_trans h2 (by show 0 + 2 + 6 ≤ 200; decide)
    · show 0 ≤ 200
      decide
theorem enter_len (why : Nat) (s : Xs) (hs : s.l = []) : (enterTopX why s).2.l.length ≤ 100 := by
  unfold enterTopX
  split
  · have := Cost.reset s
    rw [hs] at this
    exact Nat.le_trans this (by decide)
  · split
    · have := Cost.interrupt why s
      rw [hs] at this
      exact Nat.le_trans this (by decide)
    · show s.l.length ≤ 100
      rw [hs]
      decide
end Go.Proofs.YtnacdaodjgdnnaaGreat
