/-
  The unit's sums: plain ones, and digit by digit.
-/
import Derived.Test.YtnjbgnkbncjnlaaDigs
namespace Go.Proofs.Ytnjbgnkbncjnlaa
open Go.RowKit Go.Shelf
set_option maxRecDepth 100000
set_option maxHeartbeats 1000000
theorem carry_at (u p cnt mask top c : Nat) (w : World) (h : Uni w u p cnt mask top) (hp : p < 256) (hc : p % 2 = c) :
    Calls Try.prog 45 #[.pointer (some ⟨u, 0, none⟩)] w fun e w' => e = .returned (.int .u16 c) ∧ w = w' := by
  subst hc; exact carry_any u p cnt mask top w h hp
theorem apart_at (x d0 d1 d2 d3 : Nat) (w : World) (hx : x < 65536) (h0 : x % 16 = d0) (h1 : x / 16 % 16 = d1) (h2 : x / 256 % 16 = d2) (h3 : x / 4096 % 16 = d3) :
    Calls Try.prog 32 #[.int .u16 x] w fun e w' => e = .returned (.agg #[.int .u16 d0, .int .u16 d1, .int .u16 d2, .int .u16 d3]) ∧ Below w.heap.size w w' := by
  subst h0 h1 h2 h3; exact apart_any x w hx
theorem cor_at {g : Nat} {cor : Nat → Nat × Nat} (hg : ∀ (s : Nat) (w : World), s < 32 → Calls Try.prog g #[.int .u16 s] w fun e w' => e = .returned (.tuple #[.int .u16 ((cor s).1 : Nat), .int .u16 ((cor s).2 : Nat)]) ∧ w = w')
    (s d c : Nat) (w : World) (hs : s < 32) (h : cor s = (d, c)) : Calls Try.prog g #[.int .u16 s] w fun e w' => e = .returned (.tuple #[.int .u16 d, .int .u16 c]) ∧ w = w' := by
  have := hg s w hs
  rw [h] at this
  exact this
theorem together_at (a b c d x : Nat) (w : World) (ha : a < 16) (hb : b < 16) (hc : c < 16) (hd : d < 16) (hx : a + 16 * b + 256 * c + 4096 * d = x) :
    Calls Try.prog 33 #[.agg #[.int .u16 a, .int .u16 b, .int .u16 c, .int .u16 d]] w fun e w' => e = .returned (.int .u16 x) ∧ Below w.heap.size w w' := by
  subst hx; exact together_any a b c d w ha hb hc hd
theorem and8 (s : Nat) (h : s < 65536) : (bits .and .u16 (s : Int) 8 != 0) = (s &&& 8 != 0) := by
  rw [show (8 : Int) = ((8 : Nat) : Int) from rfl, u16_and_nat s 8 h (by omega), bne0]

/-- Two numbers and the carry together: the flags. -/
def addF (p mask top a b c : Nat) : Nat := signF (overF (setF p 1 (decide (mask < a + b + c))) top a b ((a + b + c) % 65536 &&& top != 0)) mask top ((a + b + c) % 65536)
theorem add_any (u p cnt mask top a b c : Nat) (w : World) (h : Uni w u p cnt mask top) (hp : p < 256) (hm : mask < 65536) (ht : top < 65536) (ha : a < 65536) (hb : b < 65536) (hc : p % 2 = c) :
    Calls Try.prog 42 #[.pointer (some ⟨u, 0, none⟩), .int .u16 a, .int .u16 b] w fun e w' => e = .returned (.int .u16 ((a + b + c) % 65536 &&& mask : Nat)) ∧ w.setCell ⟨u, 0, none⟩ (.int .u8 (addF p mask top a b c : Nat)) = w' := by
  have h2 := h.c2
  have h3 := h.c3
  have hc2 : c < 2 := by omega
  obtain ⟨x, hx⟩ : ∃ x, (a + b + c) % 65536 = x := ⟨_, rfl⟩
  have hx2 : x < 65536 := by omega
  have E := Lib.hid (show IntKind.u16.wrap ((a : Int) + b + c) = x by rw [IntKind.wrap_u16]; omega)
  have E2 := Lib.hid (u16_and_nat x top hx2 ht)
  have HX := Lib.hid hx
  have HC := Lib.hid hc
  clear hx hc
  have hq := setF_lt p 1
  go_enter Try.func42, Try.ntmps42
  go_wp2_with fail
  refine (carry_at u p cnt mask top c _ h hp HC.out).mono ?_
  rintro e w1 ⟨rfl, rfl⟩
  go_wp2_with fail
  refine (set_any u p cnt mask top 1 _ _ h hp (by omega)).mono ?_
  rintro e w1 ⟨rfl, rfl⟩
  have hA := h.set (setF p 1 (decide ((mask : Int) < a + b + c)))
  go_wp2_with fail
  refine (overflow_any u _ cnt mask top a b _ _ hA (hq _ (by omega)) ht ha hb).mono ?_
  rintro e w1 ⟨rfl, rfl⟩
  have hB := hA.set (overF (setF p 1 (decide ((mask : Int) < a + b + c))) top a b (bits .and .u16 (IntKind.u16.wrap ((a : Int) + b + c)) top != 0))
  have hr : overF (setF p 1 (decide ((mask : Int) < a + b + c))) top a b (bits .and .u16 (IntKind.u16.wrap ((a : Int) + b + c)) top != 0) < 256 := setF_lt _ _ _ (by omega)
  go_wp2_with fail
  rw [E.out]
  rw [E.out] at hr hB
  refine (sign_any u _ cnt mask top x _ hB hr hm ht hx2).mono ?_
  rintro e w1 ⟨rfl, rfl⟩
  go_wp2_with fail
  go_ret
  refine ⟨ret1 (by rw [HX.out]), ?_⟩
  rw [setCell_twice, setCell_twice]
  unfold addF
  rw [HX.out, E2.out, bne0, show decide ((mask : Int) < a + b + c) = decide (mask < a + b + c) from decide_eq_decide.2 (by omega)]





theorem addDigits2_any (g : Nat) (cor : Nat → Nat × Nat) (eg : ∀ args w, (callFunc g args).run Try.prog w = .ok (.enter g args) w)
    (hg : ∀ (s : Nat) (w : World), s < 32 → Calls Try.prog g #[.int .u16 s] w fun e w' => e = .returned (.tuple #[.int .u16 ((cor s).1 : Nat), .int .u16 ((cor s).2 : Nat)]) ∧ w = w')
    (u p mask top a b x : Nat) (w : World) (h : Uni w u p 2 mask top) (hp : p < 256) (hm : mask < 65536) (ht : top < 65536) (ha : a < 65536) (hb : b < 65536)
    (c0 a0 a1 a2 a3 b0 b1 b2 b3 s0 r0 c1 s1 r1 c2 : Nat) (hc : p % 2 = c0) (ha0 : a % 16 = a0) (ha1 : a / 16 % 16 = a1) (ha2 : a / 256 % 16 = a2) (ha3 : a / 4096 % 16 = a3)
    (hb0 : b % 16 = b0) (hb1 : b / 16 % 16 = b1) (hb2 : b / 256 % 16 = b2) (hb3 : b / 4096 % 16 = b3) (t0 : a0 + b0 + c0 = s0) (t1 : a1 + b1 + c1 = s1) (k0 : cor s0 = (r0, c1)) (k1 : cor s1 = (r1, c2)) (hc1 : c1 < 2) (hr0 : r0 < 16) (hr1 : r1 < 16) (hx : r0 + 16 * r1 + 256 * a2 + 4096 * a3 = x) :
    Calls Try.prog 41 #[.pointer (some ⟨u, 0, none⟩), .int .u16 a, .int .u16 b, .func (.func g) #[] #[]] w fun e w' => e = .returned (.int .u16 (x &&& mask : Nat)) ∧ Uni w' u (signF (overF (setF p 1 (c2 != 0)) top a b (s1 &&& 8 != 0)) mask top x) 2 mask top ∧ Below u w w' := by
  have HG := Lib.hid hg
  have HC := Lib.hid hc
  have HX := Lib.hid hx
  have g0 : a0 < 16 := ha0 ▸ Nat.mod_lt _ (by decide)
  have e0 : b0 < 16 := hb0 ▸ Nat.mod_lt _ (by decide)
  have A0 := Lib.hid ha0
  have B0 := Lib.hid hb0
  have g1 : a1 < 16 := ha1 ▸ Nat.mod_lt _ (by decide)
  have e1 : b1 < 16 := hb1 ▸ Nat.mod_lt _ (by decide)
  have A1 := Lib.hid ha1
  have B1 := Lib.hid hb1
  have g2 : a2 < 16 := ha2 ▸ Nat.mod_lt _ (by decide)
  have e2 : b2 < 16 := hb2 ▸ Nat.mod_lt _ (by decide)
  have A2 := Lib.hid ha2
  have B2 := Lib.hid hb2
  have g3 : a3 < 16 := ha3 ▸ Nat.mod_lt _ (by decide)
  have e3 : b3 < 16 := hb3 ▸ Nat.mod_lt _ (by decide)
  have A3 := Lib.hid ha3
  have B3 := Lib.hid hb3
  have g4 : c0 < 2 := hc ▸ Nat.mod_lt _ (by decide)
  have K0 := Lib.hid k0
  have K1 := Lib.hid k1
  clear hg hc ha0 hb0 ha1 hb1 ha2 hb2 ha3 hb3 k0 k1
  have hx2 : x < 65536 := by omega
  clear hx
  have q0 : s0 < 32 := by omega
  have S0 := Lib.hid (show (a0 : Int) + b0 + c0 = s0 by omega)
  clear t0
  have q1 : s1 < 32 := by omega
  have S1 := Lib.hid (show (a1 : Int) + b1 + c1 = s1 by omega)
  clear t1
  go_enter Try.func41, Try.ntmps41
  go_wp2_with fail
  refine (apart_at a a0 a1 a2 a3 _ ha A0.out A1.out A2.out A3.out).mono ?_
  rintro e w1 ⟨rfl, hb1⟩
  go_wp2_with fail
  refine (apart_at b b0 b1 b2 b3 _ hb B0.out B1.out B2.out B3.out).mono ?_
  rintro e w2 ⟨rfl, hb2⟩
  have hul : u < w.heap.size := Whole.lt h
  have hU : Uni w2 u p 2 mask top := (h.below hb1 hul).below hb2 (by have := hb1.size; omega)
  have hbl : Below u w w2 := (hb1.mono (by omega)).trans (hb2.mono (by have := hb1.size; omega))
  go_wp2_with fail
  refine (carry_at u p 2 mask top c0 _ ((hU.alloc _).alloc _) hp HC.out).mono ?_
  rintro e w3 ⟨rfl, rfl⟩
  have d1 := hU.c1
  have hul2 : u < w2.heap.size := Whole.lt hU
  clear h hb1 hb2
  go_wp2_with fail
  refine wp_loop_rounds 3 ?_
  rw [rounds_succ]
  go_wp2_with fail
  go_quiet (fail)
  go_wp2_with fail
  rw [S0.out]
  refine (cor_at HG.out s0 r0 c1 _ q0 K0.out).mono ?_
  rintro e w' ⟨rfl, rfl⟩
  go_wp2_with fail
  rw [rounds_succ]
  go_wp2_with fail
  go_quiet (fail)
  go_wp2_with fail
  rw [S1.out]
  refine (cor_at HG.out s1 r1 c2 _ q1 K1.out).mono ?_
  rintro e w' ⟨rfl, rfl⟩
  go_wp2_with fail
  rw [rounds_succ]
  go_wp2_with fail
  refine calls_gen (fun W => Uni W u p 2 mask top ∧ Whole W w2.heap.size 53 #[.int .u16 r0, .int .u16 r1, .int .u16 a2, .int .u16 a3] ∧ Below u w W) ⟨(Whole.away (Whole.drewN (Whole.away (Whole.drewN ((hU.alloc _).alloc _) _) (Nat.ne_of_lt hul2) _) _) (Nat.ne_of_lt hul2) _), Whole.as ((((((Whole.fresh w2 53 _).alloc _).drewN _).put 0 _).drewN _).put 1 _) (by simp), ((below_drewN ((below_drewN ((hbl.alloc (Nat.le_of_lt hul2) _).alloc (by simp; omega) _) _).setCell (Nat.le_of_lt hul2) _) _).setCell (Nat.le_of_lt hul2) _)⟩ ?_
  rintro W ⟨hUW, hL, hBW⟩
  clear hU d1 hbl
  have X := Lib.hid (bne0 c2)
  rw [X.out]
  refine (set_any u p 2 mask top 1 _ _ hUW hp (by omega)).mono ?_
  rintro e w3 ⟨rfl, rfl⟩
  have hA := hUW.set (setF p 1 (c2 != 0))
  have rA : setF p 1 (c2 != 0) < 256 := setF_lt _ _ _ (by omega)
  have X2 := Lib.hid (and8 s1 (by omega))
  go_wp2_with fail
  rw [X2.out]
  refine (overflow_any u _ 2 mask top a b _ _ hA rA ht ha hb).mono ?_
  rintro e w3 ⟨rfl, rfl⟩
  have hl0 := hL.cell 0
  have hl1 := hL.cell 1
  have hl2 := hL.cell 2
  have hl3 := hL.cell 3
  have hB := hA.set (overF (setF p 1 (c2 != 0)) top a b (s1 &&& 8 != 0))
  have rB : overF (setF p 1 (c2 != 0)) top a b (s1 &&& 8 != 0) < 256 := setF_lt _ _ _ (by omega)
  have bB := (hBW.setCell (p := ⟨u, 0, none⟩) (Nat.le_refl u) (.int .u8 (setF p 1 (c2 != 0) : Nat))).setCell (p := ⟨u, 0, none⟩) (Nat.le_refl u) (.int .u8 (overF (setF p 1 (c2 != 0)) top a b (s1 &&& 8 != 0) : Nat))
  go_wp2_with fail
  refine (together_at r0 r1 a2 a3 x _ (by omega) (by omega) (by omega) (by omega) HX.out).mono ?_
  rintro e w4 ⟨rfl, hb4⟩
  have hC := hB.below hb4 hB.lt
  have bC := bB.trans (hb4.mono (Nat.le_of_lt hB.lt))
  clear hA hB bB hb4 hl0 hl1 hl2 hl3 hL hUW hBW
  go_wp2_with fail
  refine (sign_any u _ 2 mask top x _ hC rB hm ht hx2).mono ?_
  rintro e w5 ⟨rfl, rfl⟩
  go_wp2_with fail
  go_ret
  exact ⟨rfl, hC.set _, bC.setCell (p := ⟨u, 0, none⟩) (Nat.le_refl u) _⟩

theorem addDigits4_any (g : Nat) (cor : Nat → Nat × Nat) (eg : ∀ args w, (callFunc g args).run Try.prog w = .ok (.enter g args) w)
    (hg : ∀ (s : Nat) (w : World), s < 32 → Calls Try.prog g #[.int .u16 s] w fun e w' => e = .returned (.tuple #[.int .u16 ((cor s).1 : Nat), .int .u16 ((cor s).2 : Nat)]) ∧ w = w')
    (u p mask top a b x : Nat) (w : World) (h : Uni w u p 4 mask top) (hp : p < 256) (hm : mask < 65536) (ht : top < 65536) (ha : a < 65536) (hb : b < 65536)
    (c0 a0 a1 a2 a3 b0 b1 b2 b3 s0 r0 c1 s1 r1 c2 s2 r2 c3 s3 r3 c4 : Nat) (hc : p % 2 = c0) (ha0 : a % 16 = a0) (ha1 : a / 16 % 16 = a1) (ha2 : a / 256 % 16 = a2) (ha3 : a / 4096 % 16 = a3)
    (hb0 : b % 16 = b0) (hb1 : b / 16 % 16 = b1) (hb2 : b / 256 % 16 = b2) (hb3 : b / 4096 % 16 = b3) (t0 : a0 + b0 + c0 = s0) (t1 : a1 + b1 + c1 = s1) (t2 : a2 + b2 + c2 = s2) (t3 : a3 + b3 + c3 = s3) (k0 : cor s0 = (r0, c1)) (k1 : cor s1 = (r1, c2)) (k2 : cor s2 = (r2, c3)) (k3 : cor s3 = (r3, c4)) (hc1 : c1 < 2) (hr0 : r0 < 16) (hc2 : c2 < 2) (hr1 : r1 < 16) (hc3 : c3 < 2) (hr2 : r2 < 16) (hr3 : r3 < 16) (hx : r0 + 16 * r1 + 256 * r2 + 4096 * r3 = x) :
    Calls Try.prog 41 #[.pointer (some ⟨u, 0, none⟩), .int .u16 a, .int .u16 b, .func (.func g) #[] #[]] w fun e w' => e = .returned (.int .u16 (x &&& mask : Nat)) ∧ Uni w' u (signF (overF (setF p 1 (c4 != 0)) top a b (s3 &&& 8 != 0)) mask top x) 4 mask top ∧ Below u w w' := by
  have HG := Lib.hid hg
  have HC := Lib.hid hc
  have HX := Lib.hid hx
  have g0 : a0 < 16 := ha0 ▸ Nat.mod_lt _ (by decide)
  have e0 : b0 < 16 := hb0 ▸ Nat.mod_lt _ (by decide)
  have A0 := Lib.hid ha0
  have B0 := Lib.hid hb0
  have g1 : a1 < 16 := ha1 ▸ Nat.mod_lt _ (by decide)
  have e1 : b1 < 16 := hb1 ▸ Nat.mod_lt _ (by decide)
  have A1 := Lib.hid ha1
  have B1 := Lib.hid hb1
  have g2 : a2 < 16 := ha2 ▸ Nat.mod_lt _ (by decide)
  have e2 : b2 < 16 := hb2 ▸ Nat.mod_lt _ (by decide)
  have A2 := Lib.hid ha2
  have B2 := Lib.hid hb2
  have g3 : a3 < 16 := ha3 ▸ Nat.mod_lt _ (by decide)
  have e3 : b3 < 16 := hb3 ▸ Nat.mod_lt _ (by decide)
  have A3 := Lib.hid ha3
  have B3 := Lib.hid hb3
  have g4 : c0 < 2 := hc ▸ Nat.mod_lt _ (by decide)
  have K0 := Lib.hid k0
  have K1 := Lib.hid k1
  have K2 := Lib.hid k2
  have K3 := Lib.hid k3
  clear hg hc ha0 hb0 ha1 hb1 ha2 hb2 ha3 hb3 k0 k1 k2 k3
  have hx2 : x < 65536 := by omega
  clear hx
  have q0 : s0 < 32 := by omega
  have S0 := Lib.hid (show (a0 : Int) + b0 + c0 = s0 by omega)
  clear t0
  have q1 : s1 < 32 := by omega
  have S1 := Lib.hid (show (a1 : Int) + b1 + c1 = s1 by omega)
  clear t1
  have q2 : s2 < 32 := by omega
  have S2 := Lib.hid (show (a2 : Int) + b2 + c2 = s2 by omega)
  clear t2
  have q3 : s3 < 32 := by omega
  have S3 := Lib.hid (show (a3 : Int) + b3 + c3 = s3 by omega)
  clear t3
  go_enter Try.func41, Try.ntmps41
  go_wp2_with fail
  refine (apart_at a a0 a1 a2 a3 _ ha A0.out A1.out A2.out A3.out).mono ?_
  rintro e w1 ⟨rfl, hb1⟩
  go_wp2_with fail
  refine (apart_at b b0 b1 b2 b3 _ hb B0.out B1.out B2.out B3.out).mono ?_
  rintro e w2 ⟨rfl, hb2⟩
  have hul : u < w.heap.size := Whole.lt h
  have hU : Uni w2 u p 4 mask top := (h.below hb1 hul).below hb2 (by have := hb1.size; omega)
  have hbl : Below u w w2 := (hb1.mono (by omega)).trans (hb2.mono (by have := hb1.size; omega))
  go_wp2_with fail
  refine (carry_at u p 4 mask top c0 _ ((hU.alloc _).alloc _) hp HC.out).mono ?_
  rintro e w3 ⟨rfl, rfl⟩
  have d1 := hU.c1
  have hul2 : u < w2.heap.size := Whole.lt hU
  clear h hb1 hb2
  go_wp2_with fail
  refine wp_loop_rounds 5 ?_
  rw [rounds_succ]
  go_wp2_with fail
  go_quiet (fail)
  go_wp2_with fail
  rw [S0.out]
  refine (cor_at HG.out s0 r0 c1 _ q0 K0.out).mono ?_
  rintro e w' ⟨rfl, rfl⟩
  go_wp2_with fail
  rw [rounds_succ]
  go_wp2_with fail
  go_quiet (fail)
  go_wp2_with fail
  rw [S1.out]
  refine (cor_at HG.out s1 r1 c2 _ q1 K1.out).mono ?_
  rintro e w' ⟨rfl, rfl⟩
  go_wp2_with fail
  rw [rounds_succ]
  go_wp2_with fail
  go_quiet (fail)
  go_wp2_with fail
  rw [S2.out]
  refine (cor_at HG.out s2 r2 c3 _ q2 K2.out).mono ?_
  rintro e w' ⟨rfl, rfl⟩
  go_wp2_with fail
  rw [rounds_succ]
  go_wp2_with fail
  go_quiet (fail)
  go_wp2_with fail
  rw [S3.out]
  refine (cor_at HG.out s3 r3 c4 _ q3 K3.out).mono ?_
  rintro e w' ⟨rfl, rfl⟩
  go_wp2_with fail
  rw [rounds_succ]
  go_wp2_with fail
  refine calls_gen (fun W => Uni W u p 4 mask top ∧ Whole W w2.heap.size 53 #[.int .u16 r0, .int .u16 r1, .int .u16 r2, .int .u16 r3] ∧ Below u w W) ⟨(Whole.away (Whole.drewN (Whole.away (Whole.drewN (Whole.away (Whole.drewN (Whole.away (Whole.drewN ((hU.alloc _).alloc _) _) (Nat.ne_of_lt hul2) _) _) (Nat.ne_of_lt hul2) _) _) (Nat.ne_of_lt hul2) _) _) (Nat.ne_of_lt hul2) _), Whole.as ((((((((((Whole.fresh w2 53 _).alloc _).drewN _).put 0 _).drewN _).put 1 _).drewN _).put 2 _).drewN _).put 3 _) (by simp), ((below_drewN ((below_drewN ((below_drewN ((below_drewN ((hbl.alloc (Nat.le_of_lt hul2) _).alloc (by simp; omega) _) _).setCell (Nat.le_of_lt hul2) _) _).setCell (Nat.le_of_lt hul2) _) _).setCell (Nat.le_of_lt hul2) _) _).setCell (Nat.le_of_lt hul2) _)⟩ ?_
  rintro W ⟨hUW, hL, hBW⟩
  clear hU d1 hbl
  have X := Lib.hid (bne0 c4)
  rw [X.out]
  refine (set_any u p 4 mask top 1 _ _ hUW hp (by omega)).mono ?_
  rintro e w3 ⟨rfl, rfl⟩
  have hA := hUW.set (setF p 1 (c4 != 0))
  have rA : setF p 1 (c4 != 0) < 256 := setF_lt _ _ _ (by omega)
  have X2 := Lib.hid (and8 s3 (by omega))
  go_wp2_with fail
  rw [X2.out]
  refine (overflow_any u _ 4 mask top a b _ _ hA rA ht ha hb).mono ?_
  rintro e w3 ⟨rfl, rfl⟩
  have hl0 := hL.cell 0
  have hl1 := hL.cell 1
  have hl2 := hL.cell 2
  have hl3 := hL.cell 3
  have hB := hA.set (overF (setF p 1 (c4 != 0)) top a b (s3 &&& 8 != 0))
  have rB : overF (setF p 1 (c4 != 0)) top a b (s3 &&& 8 != 0) < 256 := setF_lt _ _ _ (by omega)
  have bB := (hBW.setCell (p := ⟨u, 0, none⟩) (Nat.le_refl u) (.int .u8 (setF p 1 (c4 != 0) : Nat))).setCell (p := ⟨u, 0, none⟩) (Nat.le_refl u) (.int .u8 (overF (setF p 1 (c4 != 0)) top a b (s3 &&& 8 != 0) : Nat))
  go_wp2_with fail
  refine (together_at r0 r1 r2 r3 x _ (by omega) (by omega) (by omega) (by omega) HX.out).mono ?_
  rintro e w4 ⟨rfl, hb4⟩
  have hC := hB.below hb4 hB.lt
  have bC := bB.trans (hb4.mono (Nat.le_of_lt hB.lt))
  clear hA hB bB hb4 hl0 hl1 hl2 hl3 hL hUW hBW
  go_wp2_with fail
  refine (sign_any u _ 4 mask top x _ hC rB hm ht hx2).mono ?_
  rintro e w5 ⟨rfl, rfl⟩
  go_wp2_with fail
  go_ret
  exact ⟨rfl, hC.set _, bC.setCell (p := ⟨u, 0, none⟩) (Nat.le_refl u) _⟩
end Go.Proofs.Ytnjbgnkbncjnlaa
