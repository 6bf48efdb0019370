/-
  Idle cycles; the registers in pairs; sums with a carry.
-/
import Derived.Test.YthecghmhohkcmaaGreatDoorTWd
namespace Go.Proofs.YthecghmhohkcmaaGreatDoor
open Go.RowKit Go.Shelf
set_option maxRecDepth 100000
set_option maxHeartbeats 1000000
set_option linter.unusedVariables false

section
variable {K : Cx} {z : Zs} {s : Ts} {w : World}
def idleS (s : Ts) (k : Nat) : Ts := { s with l := s.l ++ List.replicate k (0, 0, 0) }
theorem Ran.idles (s : Ts) : ∀ k, Ran (M.idles k) s () (idleS s k)
  | 0 => by unfold idleS; rw [List.replicate_zero, List.append_nil]; exact Ran.pure () s
  | k + 1 => by
    have h := Ran.bind (k := fun _ => M.idles k) (Ran.idle s) (Ran.idles { s with l := s.l ++ [(0, 0, 0)] } k)
    unfold idleS at h ⊢
    dsimp only at h
    rw [List.append_assoc, List.singleton_append, ← List.replicate_succ] at h
    exact h
theorem idleS_step (s : Ts) (k : Nat) : { idleS s k with l := (idleS s k).l ++ [(0, 0, 0)] } = idleS s (k + 1) := by
  unfold idleS
  dsimp only
  rw [List.append_assoc, ← List.replicate_succ']
theorem idles_any (n : Int) (k : Nat) (hk : n.toNat = k) (h : Tk K z s w) (hl : s.l.length + k ≤ 100) :
    Calls Tryz.prog 47 #[.pointer (some ⟨K.b, 0, none⟩), .int .i64 n] w fun e w' => e = .returned (.tuple #[]) ∧ Tk K z (idleS s k) w' ∧ Kp K w w' := by
  have h0 : Tk K z (idleS s 0) w := by unfold idleS; rw [List.replicate_zero, List.append_nil]; exact h
  have HS : ∀ i, i < k → ∀ W, Tk K z (idleS s i) W → ∃ la L lc gg cap w1, W.cell? ⟨K.b, 8, none⟩ = some (.slice la L lc) ∧
    (Builtin.append_ #[26, 26] 26 #[.slice la L lc, .slice (some ⟨W.heap.size, 0, none⟩) 1 1]).run Tryz.prog (W.alloc (.cells #[.int .u8 0, .int .u32 0, .int .u8 0] 42)) = .ok (.slice (some ⟨gg, 0, none⟩) (L + 1) cap) w1 ∧
    (∃ u, w1.cell? ⟨K.b, 8, none⟩ = some u) ∧ w1.frozen? ⟨K.b, 8, none⟩ = false ∧ Hid (Tk K z (idleS s (i + 1)) (w1.setCell ⟨K.b, 8, none⟩ (.slice (some ⟨gg, 0, none⟩) (L + 1) cap)) ∧ Kp K W (w1.setCell ⟨K.b, 8, none⟩ (.slice (some ⟨gg, 0, none⟩) (L + 1) cap))) := by
    intro i hi W hW
    obtain ⟨la, lc, gg, cap, w1, h1, h2, h3, h4, h5⟩ := hW.push 0 0 0 (by unfold idleS; simp; omega)
    rw [idleS_step] at h5
    exact ⟨la, _, lc, gg, cap, w1, h1, h2, h3, h4, h5⟩
  have hlt : ∀ i : Nat, i < k → decide ((i : Int) < n) = true := fun i hi => decide_eq_true (by omega)
  have hge : decide ((k : Int) < n) = false := decide_eq_false (by omega)
  have hk100 : k ≤ 100 := by omega
  clear h hl
  replace HS := Lib.hid HS
  replace hlt := Lib.hid hlt
  replace hge := Lib.hid hge
  replace hk := Lib.hid hk
  go_enter Tryz.func47, Tryz.ntmps47
  go_wp2_with fail
  go_loopw [5] (fun s5 wr => ∃ i : Nat, i ≤ k ∧ s5 = .int .i64 i ∧ Tk K z (idleS s i) wr ∧ Kp K w wr) (fun s5 _ => k - (intOf s5).toNat)
  case atStart => exact ⟨0, Nat.zero_le _, rfl, h0, Kp.refl _ _⟩
  case round =>
    obtain ⟨i, hi, rfl, hx, hkp⟩ := hrel
    by_cases hc : i < k
    · have t1 := hlt.out i hc
      obtain ⟨la, L, lc, gg, cap, w1, c8, hr, ⟨u, d8⟩, f8, hh⟩ := HS.out i hc wr hx
      have hb : i ≤ 100000000 ∨ True := .inr trivial
      have hkk := hk.out
      have hwr : IntKind.i64.wrap ((i : Int) + 1) = (i : Int) + 1 ∨ True := .inr trivial
      replace hkp := Lib.hid hkp
      clear HS hlt hge h0 hx hkk hb hwr
      go_wp2_with (at_builtin; refine wpList_append_ran rfl _ _ 26 rfl _ _ _ w1 rfl rfl hr ?_)
      go_roundw
      case rel => exact ⟨i + 1, hc, by go_num, hh.out.1, hkp.out.trans hh.out.2⟩
      case measure => simp [intOf]; omega
    · obtain rfl : i = k := by omega
      have t1 := hge.out
      clear HS hlt hge h0
      go_wp2_with fail
      go_end0
      exact ⟨rfl, hx, hkp⟩
/-- Y above A. -/
def yaR (r : Rp) : Nat := r.Y * 256 + r.A
theorem yaR_lt {r : Rp} (h : r.Ok) : yaR r < 65536 := by have := h.A; have := h.Y; unfold yaR; omega
theorem ya_any (h : Tk K z s w) :
    Calls Tryz.prog 121 #[.pointer (some ⟨K.b, 0, none⟩)] w fun e w' => e = .returned (.int .u16 (yaR s.r : Nat)) ∧ ∃ q, w' = w.drewN q := by
  obtain ⟨⟨rA, rX, rY, rS, rP, rPc, rH⟩, l, q⟩ := s
  have c0 := h.look.1.1
  have c2 := h.look.1.2.2.1
  have hA := h.ok.A
  have hY := h.ok.Y
  dsimp only at c0 c2 hA hY
  have e1 : IntKind.u16.wrap (rA : Int) = (rA : Int) := by simp only [IntKind.wrap_u16]; omega
  have e2 : IntKind.u16.wrap (rY : Int) = (rY : Int) := by simp only [IntKind.wrap_u16]; omega
  have eo : bits .or .u16 ((rY : Int) * 256) (rA : Int) = ((rY * 256 + rA : Nat) : Int) := by
    rw [show (rY : Int) * 256 = ((rY * 256 : Nat) : Int) from by omega, u16_or_nat (rY * 256) rA (by omega) (by omega), show rY * 256 ||| rA = rY * 256 + rA from by rw [show rY * 256 = rY <<< 8 from (Nat.shiftLeft_eq rY 8).symm, ← Nat.shiftLeft_add_eq_or_of_lt (show rA < 2 ^ 8 from hA)]]
  have e3 : IntKind.u16.wrap ((rY : Int) * 256) = (rY : Int) * 256 := by simp only [IntKind.wrap_u16]; omega
  unfold yaR
  dsimp only
  generalize rY * 256 + rA = v at *
  clear h
  go_enter Tryz.func121, Tryz.ntmps121
  go_upto_region 1 with (fail)
  go_quiet (fail)
  go_wp2_with fail
  go_ret
  exact ⟨rfl, _, rfl⟩
/-- A word laid into Y and A. -/
def layR (v : Nat) (r : Rp) : Rp := { r with A := v % 256, Y := v / 256 }
theorem layYA_any (v : Nat) (h : Tk K z s w) (hv : v < 65536) :
    Calls Tryz.prog 122 #[.pointer (some ⟨K.b, 0, none⟩), .int .u16 v] w (Turns K z s w (layR v s.r) (.tuple #[])) := by
  obtain ⟨⟨rA, rX, rY, rS, rP, rPc, rH⟩, l, q⟩ := s
  have c0 := h.look.1.1
  have c2 := h.look.1.2.2.1
  have f0 := h.look.2.2 0
  have f2 := h.look.2.2 2
  have e1 : IntKind.u8.wrap (v : Int) = ((v % 256 : Nat) : Int) := by simp only [IntKind.wrap_u8]; omega
  have e2 : IntKind.u8.wrap ((v : Int) / 256) = ((v / 256 : Nat) : Int) := by simp only [IntKind.wrap_u8]; omega
  have t1 := h.toA (v % 256) (Nat.mod_lt _ (by decide))
  have t2 := t1.toY (v / 256) (by omega)
  have hfin := Lib.hid (And.intro t2 (((Kp.refl K w).set 0 (.int .u8 (v % 256 : Nat))).set 2 (.int .u8 (v / 256 : Nat))))
  unfold Turns layR
  dsimp only at *
  generalize v % 256 = lo at *
  generalize v / 256 = hi at *
  clear h t1 t2 hv
  go_enter Tryz.func122, Tryz.ntmps122
  go_wp2_with fail
  go_end0
  exact ⟨rfl, hfin.out⟩
/-- Two bytes and the carry together. -/
def sumV (r : Rp) (a b : Nat) : Nat := (a + b + r.P % 2) % 256
def sumR (a b : Nat) (r : Rp) : Rp :=
  putR 64 ((decide (a &&& 128 = b &&& 128)) && !(decide (a &&& 128 = sumV r a b &&& 128))) (putR 8 (decide (16 ≤ a % 16 + b % 16 + r.P % 2)) (putR 1 (decide (256 ≤ a + b + r.P % 2)) r))
theorem sum_any (a b : Nat) (h : Tk K z s w) (ha : a < 256) (hb : b < 256) :
    Calls Tryz.prog 125 #[.pointer (some ⟨K.b, 0, none⟩), .int .u8 a, .int .u8 b] w (Turns K z s w (sumR a b s.r) (.int .u8 (sumV s.r a b : Nat))) := by
  obtain ⟨⟨rA, rX, rY, rS, rP, rPc, rH⟩, l, q⟩ := s
  have c4 := h.look.1.2.2.2.2
  have hP := h.ok.P
  dsimp only at c4 hP
  have e1 : bits .and .u8 (rP : Int) 1 = ((rP % 2 : Nat) : Int) := (u8_and_nat rP 1 hP (by decide)).trans (by rw [Nat.and_one_is_mod])
  have ev : ((a : Int) + b + ((rP % 2 : Nat) : Int)) % 256 = (((a + b + rP % 2) % 256 : Nat) : Int) := by omega
  have hc : rP % 2 < 2 := Nat.mod_lt _ (by decide)
  have hv : (a + b + rP % 2) % 256 < 256 := Nat.mod_lt _ (by decide)
  have a1 : bits .and .u8 (a : Int) 15 = ((a % 16 : Nat) : Int) := (u8_and_nat a 15 ha (by decide)).trans (by rw [show (15 : Nat) = 2 ^ 4 - 1 from rfl, Nat.and_two_pow_sub_one_eq_mod])
  have b1 : bits .and .u8 (b : Int) 15 = ((b % 16 : Nat) : Int) := (u8_and_nat b 15 hb (by decide)).trans (by rw [show (15 : Nat) = 2 ^ 4 - 1 from rfl, Nat.and_two_pow_sub_one_eq_mod])
  have a2 : bits .and .u8 (a : Int) 128 = ((a &&& 128 : Nat) : Int) := u8_and_nat a 128 ha (by decide)
  have b2 : bits .and .u8 (b : Int) 128 = ((b &&& 128 : Nat) : Int) := u8_and_nat b 128 hb (by decide)
  have v2 : bits .and .u8 (((a + b + rP % 2) % 256 : Nat) : Int) 128 = (((a + b + rP % 2) % 256 &&& 128 : Nat) : Int) := u8_and_nat _ 128 hv (by decide)
  have H1 := put_any 1 1 rfl (decide (256 ≤ a + b + rP % 2)) h (by decide)
  have H2 := fun (r : Rp) (W : World) (hW : Tk K z ⟨r, l, q⟩ W) => put_any 8 8 rfl (decide (16 ≤ a % 16 + b % 16 + rP % 2)) hW (by decide)
  have H3 := fun (r : Rp) (W : World) (hW : Tk K z ⟨r, l, q⟩ W) => put_any 64 64 rfl ((decide (a &&& 128 = b &&& 128)) && !(decide (a &&& 128 = (a + b + rP % 2) % 256 &&& 128))) hW (by decide)
  unfold Turns at H1 H2 H3 ⊢
  unfold sumR sumV
  dsimp only at *
  have d1 : decide (256 ≤ (a : Int) + b + ((rP % 2 : Nat) : Int)) = decide (256 ≤ a + b + rP % 2) := by rw [Bool.eq_iff_iff]; simp only [decide_eq_true_eq]; omega
  have d2 : decide (16 ≤ ((a % 16 : Nat) : Int) + ((b % 16 : Nat) : Int) + ((rP % 2 : Nat) : Int)) = decide (16 ≤ a % 16 + b % 16 + rP % 2) := by rw [Bool.eq_iff_iff]; simp only [decide_eq_true_eq]; omega
  have d3 : (((a &&& 128 : Nat) : Int) == ((b &&& 128 : Nat) : Int)) = decide (a &&& 128 = b &&& 128) := by rw [Bool.eq_iff_iff]; simp only [beq_iff_eq, decide_eq_true_eq]; omega
  have d4 : (((a &&& 128 : Nat) : Int) != (((a + b + rP % 2) % 256 &&& 128 : Nat) : Int)) = !(decide (a &&& 128 = (a + b + rP % 2) % 256 &&& 128)) := by rw [Bool.eq_iff_iff]; simp only [bne_iff_ne, Bool.not_eq_true', decide_eq_false_iff_not]; omega
  have ha16 : a % 16 < 16 := Nat.mod_lt _ (by decide)
  have hb16 : b % 16 < 16 := Nat.mod_lt _ (by decide)
  generalize decide (256 ≤ a + b + rP % 2) = o1 at *
  generalize decide (16 ≤ a % 16 + b % 16 + rP % 2) = o2 at *
  generalize decide (a &&& 128 = (a + b + rP % 2) % 256 &&& 128) = o4 at *
  generalize decide (a &&& 128 = b &&& 128) = o3 at *
  generalize (a + b + rP % 2) % 256 &&& 128 = v7 at *
  generalize (a + b + rP % 2) % 256 = v at *
  generalize a &&& 128 = a7 at *
  generalize b &&& 128 = b7 at *
  generalize a % 16 = a4 at *
  generalize b % 16 = b4 at *
  generalize rP % 2 = c at *
  replace H1 := Lib.hid H1
  replace H2 := Lib.hid H2
  replace H3 := Lib.hid H3
  clear h
  go_enter Tryz.func125, Tryz.ntmps125
  go_wp2_with fail
  with_reducible refine H1.out.mono ?_
  rintro e w1 ⟨rfl, t1, k1⟩
  have H4 := Lib.hid (H2.out _ _ t1)
  replace k1 := Lib.hid k1
  clear H1 H2 t1
  go_wp2_with fail
  with_reducible refine H4.out.mono ?_
  rintro e w2 ⟨rfl, t2, k2⟩
  have H5 := Lib.hid (H3.out _ _ t2)
  replace k2 := Lib.hid (k1.out.trans k2)
  clear H4 H3 t2 k1
  cases o3
  · replace H5 := H5.out
    rw [Bool.false_and] at H5
    replace H5 := Lib.hid H5
    go_wp2_with fail
    with_reducible refine H5.out.mono ?_
    rintro e w3 ⟨rfl, t3, k3⟩
    have hfin := Lib.hid (And.intro t3 (k2.out.trans k3))
    clear H5 k2 k3 t3
    go_wp2_with fail
    go_ret
    exact ⟨rfl, hfin.out⟩
  · replace H5 := H5.out
    rw [Bool.true_and] at H5
    replace H5 := Lib.hid H5
    go_wp2_with fail
    with_reducible refine H5.out.mono ?_
    rintro e w3 ⟨rfl, t3, k3⟩
    have hfin := Lib.hid (And.intro t3 (k2.out.trans k3))
    clear H5 k2 k3 t3
    go_wp2_with fail
    go_ret
    exact ⟨rfl, hfin.out⟩
end
end Go.Proofs.YthecghmhohkcmaaGreatDoor
