/-
  alu.Do's sums and differences of digits, in plain numbers.
-/
import Derived.Test.YtnjbgnkbncjnlaaDoOps
namespace Go.Proofs.Ytnjbgnkbncjnlaa
open Go.RowKit Go.Shelf
set_option maxRecDepth 100000
set_option maxHeartbeats 1000000
set_option linter.unusedVariables false
def dX (cor : Nat → Nat × Nat) (wide : Bool) (a b c : Nat) : Nat := if wide then dX4 cor a b c else dX2 cor a b c
def dS (cor : Nat → Nat × Nat) (wide : Bool) (a b c : Nat) : Nat := if wide then dS4 cor a b c else dS2 cor a b c
def dC (cor : Nat → Nat × Nat) (wide : Bool) (a b c : Nat) : Nat := if wide then (q3 cor a b c).2 else (q1 cor a b c).2
theorem dX_lt (cor : Nat → Nat × Nat) (hk : Cor cor) (wide : Bool) (a b c : Nat) (ha : a < sz wide) (hc : c < 2) : dX cor wide a b c < sz wide := by
  obtain ⟨⟨z0, _⟩, ⟨z1, _⟩, ⟨z2, _⟩, ⟨z3, _⟩⟩ := digs_lt cor hk a b c hc
  cases wide
  · show dX2 cor a b c < 256
    have h1 : a / 256 = 0 := Nat.div_eq_of_lt ha
    have h2 : a / 4096 = 0 := Nat.div_eq_of_lt (Nat.lt_trans ha (by decide))
    unfold dX2
    rw [h1, h2]
    omega
  · show dX4 cor a b c < 65536
    unfold dX4
    omega
theorem dC_lt (cor : Nat → Nat × Nat) (hk : Cor cor) (wide : Bool) (a b c : Nat) (hc : c < 2) : dC cor wide a b c < 2 := by
  obtain ⟨_, ⟨_, z1⟩, _, ⟨_, z3⟩⟩ := digs_lt cor hk a b c hc
  cases wide
  · exact z1
  · exact z3
theorem dF_is (p : Nat) (wide : Bool) (a b C S X : Nat) (h : X < sz wide) :
    dF (msk wide) (tp wide) p a b C S X = flg p (topb wide X) (topb wide a == topb wide b && topb wide a != (S &&& 8 != 0)) (X == 0) (C != 0) := by
  unfold dF flg
  rw [sg _ wide X X (Nat.mod_eq_of_lt h), ov]
theorem do_addD (a b p x y c X F : Nat) (wide : Bool) (ha : a < 65536) (hb : b < 65536) (hp : p < 256) (hd : (p &&& 8 != 0) = true) (hx : a % sz wide = x) (hy : b % sz wide = y) (hc : p % 2 = c)
    (hX : dX corS wide x y c = X) (hF : flg p (topb wide X) (topb wide x == topb wide y && topb wide x != (dS corS wide x y c &&& 8 != 0)) (X == 0) (dC corS wide x y c != 0) = F) : DoIs 3 a b p wide X F := by
  have hl : X < sz wide := hX ▸ dX_lt corS corS_ok wide x y c (hx ▸ cut_lt wide a) (by omega)
  have hx6 := hx ▸ cut_lt16 wide a
  have hy6 := hy ▸ cut_lt16 wide b
  rw [← dF_is p wide x y _ _ X hl] at hF
  cases wide
  · refine do_is 3 a b x y p F X _ _ false ha hb hx hy (fun u w h => ans_addD2 u p _ _ x y c w h hp (msk_lt false) (tp_lt false) hx6 hy6 hc hd) ?_ ?_
    · rw [← hF, ← hX]; rfl
    · rw [and_msk']; rw [← hX] at hl ⊢; exact Nat.mod_eq_of_lt hl
  · refine do_is 3 a b x y p F X _ _ true ha hb hx hy (fun u w h => ans_addD4 u p _ _ x y c w h hp (msk_lt true) (tp_lt true) hx6 hy6 hc hd) ?_ ?_
    · rw [← hF, ← hX]; rfl
    · rw [and_msk']; rw [← hX] at hl ⊢; exact Nat.mod_eq_of_lt hl
theorem do_subD (a b p x y c X F : Nat) (wide : Bool) (ha : a < 65536) (hb : b < 65536) (hp : p < 256) (hd : (p &&& 8 != 0) = true) (hx : a % sz wide = x) (hy : sz wide - 1 - b % sz wide = y) (hc : p % 2 = c)
    (hX : dX corD wide x y c = X) (hF : flg p (topb wide X) (topb wide x == topb wide y && topb wide x != (dS corD wide x y c &&& 8 != 0)) (X == 0) (dC corD wide x y c != 0) = F) : DoIs 4 a b p wide X F := by
  have hl : X < sz wide := hX ▸ dX_lt corD corD_ok wide x y c (hx ▸ cut_lt wide a) (by omega)
  have hx6 := hx ▸ cut_lt16 wide a
  have hy6 := cut_lt16 wide b
  have hyx : b % sz wide ^^^ msk wide = y := by rw [xor_msk wide _ (cut_lt wide b), hy]
  rw [← dF_is p wide x y _ _ X hl] at hF
  cases wide
  · refine do_is 4 a b x (b % sz false) p F X _ _ false ha hb hx rfl (fun u w h => ans_subD2 u p _ _ x _ c y w h hp (msk_lt false) (tp_lt false) hx6 hy6 hc hyx hd) ?_ ?_
    · rw [← hF, ← hX]; rfl
    · rw [and_msk']; rw [← hX] at hl ⊢; exact Nat.mod_eq_of_lt hl
  · refine do_is 4 a b x (b % sz true) p F X _ _ true ha hb hx rfl (fun u w h => ans_subD4 u p _ _ x _ c y w h hp (msk_lt true) (tp_lt true) hx6 hy6 hc hyx hd) ?_ ?_
    · rw [← hF, ← hX]; rfl
    · rw [and_msk']; rw [← hX] at hl ⊢; exact Nat.mod_eq_of_lt hl
/-- What can be read of the four flags. -/
theorem flg_all : ∀ p, p < 256 → ∀ n v z c : Bool, flg p n v z c < 256 ∧ (flg p n v z c &&& 2 != 0) = z ∧ ((flg p n v z c ^^^ p) &&& 60 == 0) = true ∧
    flg p n v z c &&& 193 = (if n then 128 else 0) + (if v then 64 else 0) + (if c then 1 else 0) ∧ flg p n v z c % 2 = (if c then 1 else 0) := by decide +kernel
end Go.Proofs.Ytnjbgnkbncjnlaa
