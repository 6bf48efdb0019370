/-
  AluHalves: the walk.
-/
import Derived.Test.YtnjbgnkbncjnlaaHalves
namespace Go.Proofs.Ytnjbgnkbncjnlaa.aluHalves
open Go.RowKit Go.Shelf
set_option maxRecDepth 100000
set_option maxHeartbeats 1000000
set_option linter.unusedVariables false
theorem nat_if (c : Bool) : (if c then 1 else 0) = nat c := rfl
theorem pack (a b p : Nat) (less : Bool) (ha : a < 65536) (hb : b < 65536) (hp : p < 256) :
    ∃ X q L r H s cin : Nat, ∃ z : Bool, bits .or .u8 (bits .andNot .u8 (p : Int) 1) (bits .and .u8 (r : Int) 1) = cin ∧ ((X : Int) != bits .or .u16 (IntKind.u16.wrap ((H : Int) * 256)) L) = false ∧
      (bits .and .u8 (bits .xor .u8 (q : Int) s) 193 != 0) = false ∧ (bits .and .u8 (q : Int) 2 != 0) = z ∧ ((X : Int) == 0) = z ∧ (bits .and .u8 (bits .xor .u8 (q : Int) p) 60 == 0) = true ∧
      DoIs (if less then 4 else 3) a b p true X q ∧ DoIs (if less then 4 else 3) (a % 256) (b % 256) p false L r ∧ DoIs (if less then 4 else 3) (a / 256) (b / 256) cin false H s := by
  obtain ⟨c, hc⟩ : ∃ c, p % 2 = c := ⟨_, rfl⟩
  obtain ⟨D, hd⟩ : ∃ D, (p &&& 8 != 0) = D := ⟨_, rfl⟩
  have hc2 : c < 2 := by omega
  obtain ⟨y, hy⟩ : ∃ y, yy less true b = y := ⟨_, rfl⟩
  have hyl : y < 65536 := hy ▸ yy_lt less true b
  obtain ⟨y1, y2⟩ := yy_halves less b hb
  rw [hy] at y1 y2
  obtain ⟨m1, m2, m3⟩ := halves D less a y c ha hyl hc2
  have D1 := do_sum less a b p a y c true ha hb hp D hd (Nat.mod_eq_of_lt ha) hy hc
  have D2 := do_sum less (a % 256) (b % 256) p (a % 256) (y % 256) c false (by omega) (by omega) hp D hd (Nat.mod_eq_of_lt (Nat.mod_lt _ (by decide))) y1 hc
  obtain ⟨k, hk⟩ : ∃ k, nat (sC D less false (a % 256) (y % 256) c) = k := ⟨_, rfl⟩
  have hk2 : k < 2 := by rw [← hk]; unfold nat; split <;> omega
  obtain ⟨c1, c2, c3⟩ := carry_in p hp k hk2
  obtain ⟨cin, hcin⟩ : ∃ cin, (p &&& 254) ||| k = cin := ⟨_, rfl⟩
  rw [hcin] at c1 c2 c3
  have D3 := do_sum less (a / 256) (b / 256) cin (a / 256) (y / 256) k false (by omega) (by omega) c1 D (c2.trans hd) (Nat.mod_eq_of_lt (show a / 256 < 256 by omega)) y2 c3
  rw [hk] at m1 m2 m3
  have hH : sX D less false (a / 256) (y / 256) k < 256 := sX_lt D less false _ _ _ (show a / 256 < 256 by omega) hk2
  have hL : sX D less false (a % 256) (y % 256) c < 256 := sX_lt D less false _ _ _ (show a % 256 < 256 by omega) hc2
  obtain ⟨f1, f2, f3, f4, f5⟩ := flg_all p hp (topb true (sX D less true a y c)) (topb true a == topb true y && topb true a != sN D less true a y c) (sX D less true a y c == 0) (sC D less true a y c)
  obtain ⟨g1, g2, g3, g4, g5⟩ := flg_all cin c1 (topb false (sX D less false (a / 256) (y / 256) k)) (topb false (a / 256) == topb false (y / 256) && topb false (a / 256) != sN D less false (a / 256) (y / 256) k) (sX D less false (a / 256) (y / 256) k == 0) (sC D less false (a / 256) (y / 256) k)
  obtain ⟨r1, _, _, _, r5⟩ := flg_all p hp (topb false (sX D less false (a % 256) (y % 256) c)) (topb false (a % 256) == topb false (y % 256) && topb false (a % 256) != sN D less false (a % 256) (y % 256) c) (sX D less false (a % 256) (y % 256) c == 0) (sC D less false (a % 256) (y % 256) c)
  have hN : topb true (sX D less true a y c) = topb false (sX D less false (a / 256) (y / 256) k) := by rw [topb_half, m1]; congr 1; omega
  have h193 : sF D less true p a y c &&& 193 = sF D less false cin (a / 256) (y / 256) k &&& 193 := by
    unfold sF
    rw [f4, g4, ← m3, hN, ← m2, ← topb_half a, ← topb_half y]
  change sF D less true p a y c < 256 at f1
  change (sF D less true p a y c &&& 2 != 0) = _ at f2
  change ((sF D less true p a y c ^^^ p) &&& 60 == 0) = true at f3
  change sF D less false cin (a / 256) (y / 256) k < 256 at g1
  change sF D less false p (a % 256) (y % 256) c < 256 at r1
  change sF D less false p (a % 256) (y % 256) c % 2 = _ at r5
  rw [nat_if, hk] at r5
  generalize sF D less true p a y c = q at *
  generalize sF D less false cin (a / 256) (y / 256) k = s at *
  generalize sF D less false p (a % 256) (y % 256) c = r at *
  generalize sX D less true a y c = X at *
  generalize sX D less false (a / 256) (y / 256) k = H at *
  generalize sX D less false (a % 256) (y % 256) c = L at *
  refine ⟨X, q, L, r, H, s, cin, X == 0, ?_, ?_, ?_, ?_, ?_, ?_, D1, D2, D3⟩
  · rw [show (1 : Int) = ((1 : Nat) : Int) from rfl, u8_andNot_nat p 1 hp (by omega), u8_and_nat r 1 r1 (by omega), nat_mask1, r5, u8_or_nat _ k (Nat.and_lt_two_pow (n := 8) _ (by decide)) (by omega), ← hcin]
  · rw [IntKind.wrap_u16, show (H : Int) * 256 % 65536 = ((256 * H : Nat) : Int) by omega, u16_or_nat _ L (by omega) (by omega), nat_join 8 (256 * H) L (Nat.mul_mod_right _ _) hL, bne_eq_false_iff_eq]
    omega
  · rw [u8_xor_nat q s f1 g1, show (193 : Int) = ((193 : Nat) : Int) from rfl, u8_and_nat _ 193 (Nat.xor_lt_two_pow (n := 8) f1 g1) (by omega), bne0, Nat.and_xor_distrib_right, h193, Nat.xor_self]
    rfl
  · rw [show (2 : Int) = ((2 : Nat) : Int) from rfl, u8_and_nat q 2 f1 (by omega), bne0, f2]
  · exact beq0 X
  · rw [u8_xor_nat q p f1 hp, show (60 : Int) = ((60 : Nat) : Int) from rfl, u8_and_nat _ 60 (Nat.xor_lt_two_pow (n := 8) f1 hp) (by omega), beq0]
    exact f3
theorem walkN (a b p : Nat) (less : Bool) (ha : a < 65536) (hb : b < 65536) (hp : p < 256) (w : World) :
    Calls Try.prog 6 #[.int .u16 a, .int .u16 b, .int .u8 p, .bool less] w fun e w' => e = .returned (.bool true) ∧ Below w.heap.size w w' := by
  obtain ⟨X, q, L, r, H, s, cin, z, e1, t1, t2, t3, t4, t5, d1, d2, d3⟩ := pack a b p less ha hb hp
  obtain ⟨al, hal⟩ : ∃ n, a % 256 = n := ⟨_, rfl⟩
  obtain ⟨bl, hbl⟩ : ∃ n, b % 256 = n := ⟨_, rfl⟩
  obtain ⟨ah, hah⟩ : ∃ n, a / 256 = n := ⟨_, rfl⟩
  obtain ⟨bh, hbh⟩ : ∃ n, b / 256 = n := ⟨_, rfl⟩
  rw [hal, hbl] at d2
  rw [hah, hbh] at d3
  have D1 := Lib.hid d1
  have D2 := Lib.hid d2
  have D3 := Lib.hid d3
  have E1 := Lib.hid e1
  have AL := Lib.hid (show bits .and .u16 (a : Int) 255 = (al : Nat) by rw [← hal, show (255 : Int) = ((255 : Nat) : Int) from rfl, u16_and_nat a 255 ha (by omega), nat_mask8])
  have BL := Lib.hid (show bits .and .u16 (b : Int) 255 = (bl : Nat) by rw [← hbl, show (255 : Int) = ((255 : Nat) : Int) from rfl, u16_and_nat b 255 hb (by omega), nat_mask8])
  have AH := Lib.hid (show (a : Int) / 256 = (ah : Nat) by omega)
  have BH := Lib.hid (show (b : Int) / 256 = (bh : Nat) by omega)
  clear d1 d2 d3 e1 hal hbl hah hbh
  cases less <;> cases z
  all_goals
    go_enter Try.func6, Try.ntmps6
    go_wp2_with fail
    refine (D1.out _).mono ?_
    rintro e w1 ⟨rfl, b1⟩
    go_wp2_with fail
    rw [AL.out, BL.out]
    refine (D2.out _).mono ?_
    rintro e w2 ⟨rfl, b2⟩
    go_wp2_with fail
    rw [AH.out, BH.out, E1.out]
    refine (D3.out _).mono ?_
    rintro e w3 ⟨rfl, b3⟩
    have hall := (b1.trans (b2.mono b1.size)).trans (b3.mono (by have := b1.size; have := b2.size; omega))
    clear b1 b2 b3
    go_wp2_with fail
    refine (awake_any _).mono ?_
    rintro e w7 ⟨rfl, b7⟩
    go_wp2_with fail
    go_ret
    exact ⟨rfl, hall.trans (b7.mono hall.size)⟩
theorem walk (a0 : Int) (a1 : Int) (a2 : Int) (a3 : Bool) (w0 : (Lit.int .u16 a0).wf = true) (w1 : (Lit.int .u16 a1).wf = true) (w2 : (Lit.int .u8 a2).wf = true) (w : World) :
    Calls Try.prog 6 #[.int .u16 a0, .int .u16 a1, .int .u8 a2, .bool a3] w fun e w' => e = .returned (.bool true) ∧ Below w.heap.size w w' := by
  obtain ⟨a, rfl, ha⟩ := nat16 w0
  obtain ⟨b, rfl, hb⟩ := nat16 w1
  obtain ⟨p, rfl, hp⟩ := nat8 w2
  exact walkN a b p a3 ha hb hp w
end Go.Proofs.Ytnjbgnkbncjnlaa.aluHalves
