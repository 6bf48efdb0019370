/-
  alu.Do, the other operations, in plain numbers.
-/
import Derived.Test.YtnjbgnkbncjnlaaDoOps
namespace Go.Proofs.Ytnjbgnkbncjnlaa
open Go.RowKit Go.Shelf
set_option maxRecDepth 100000
set_option maxHeartbeats 1000000
set_option linter.unusedVariables false
theorem sz_pow (wide : Bool) : sz wide = 2 ^ (if wide then 16 else 8) := by cases wide <;> rfl
theorem or_cut (wide : Bool) (x y : Nat) (hx : x < sz wide) (hy : y < sz wide) : x ||| y < sz wide := by rw [sz_pow] at *; exact Nat.or_lt_two_pow hx hy
theorem xor_cut (wide : Bool) (x y : Nat) (hx : x < sz wide) (hy : y < sz wide) : x ^^^ y < sz wide := by rw [sz_pow] at *; exact Nat.xor_lt_two_pow hx hy
theorem and_cut2 (wide : Bool) (x y : Nat) (hx : x < sz wide) : x &&& y < sz wide := Nat.lt_of_le_of_lt Nat.and_le_left hx
theorem do_or (a b p x y X F : Nat) (wide : Bool) (ha : a < 65536) (hb : b < 65536) (hp : p < 256) (hx : a % sz wide = x) (hy : b % sz wide = y)
    (hX : x ||| y = X) (hF : flg2 p (topb wide X) (X == 0) = F) : DoIs 0 a b p wide X F := by
  have hl : X < sz wide := hX ▸ or_cut wide x y (hx ▸ cut_lt wide a) (hy ▸ cut_lt wide b)
  refine do_is 0 a b x y p F X _ _ wide ha hb hx hy (fun u w h => ans_or u p _ _ _ x y _ w h hp (msk_lt wide) (tp_lt wide) (hx ▸ cut_lt16 wide a) (hy ▸ cut_lt16 wide b) hX) ?_ ?_
  · rw [← hF, sg _ wide _ X (Nat.mod_eq_of_lt hl)]
    rfl
  · rw [and_msk', Nat.mod_eq_of_lt hl]
theorem do_and (a b p x y X F : Nat) (wide : Bool) (ha : a < 65536) (hb : b < 65536) (hp : p < 256) (hx : a % sz wide = x) (hy : b % sz wide = y)
    (hX : x &&& y = X) (hF : flg2 p (topb wide X) (X == 0) = F) : DoIs 1 a b p wide X F := by
  have hl : X < sz wide := hX ▸ and_cut2 wide x y (hx ▸ cut_lt wide a)
  refine do_is 1 a b x y p F X _ _ wide ha hb hx hy (fun u w h => ans_and u p _ _ _ x y _ w h hp (msk_lt wide) (tp_lt wide) (hx ▸ cut_lt16 wide a) (hy ▸ cut_lt16 wide b) hX) ?_ ?_
  · rw [← hF, sg _ wide _ X (Nat.mod_eq_of_lt hl)]
    rfl
  · rw [and_msk', Nat.mod_eq_of_lt hl]
theorem do_xor (a b p x y X F : Nat) (wide : Bool) (ha : a < 65536) (hb : b < 65536) (hp : p < 256) (hx : a % sz wide = x) (hy : b % sz wide = y)
    (hX : x ^^^ y = X) (hF : flg2 p (topb wide X) (X == 0) = F) : DoIs 2 a b p wide X F := by
  have hl : X < sz wide := hX ▸ xor_cut wide x y (hx ▸ cut_lt wide a) (hy ▸ cut_lt wide b)
  refine do_is 2 a b x y p F X _ _ wide ha hb hx hy (fun u w h => ans_xor u p _ _ _ x y _ w h hp (msk_lt wide) (tp_lt wide) (hx ▸ cut_lt16 wide a) (hy ▸ cut_lt16 wide b) hX) ?_ ?_
  · rw [← hF, sg _ wide _ X (Nat.mod_eq_of_lt hl)]
    rfl
  · rw [and_msk', Nat.mod_eq_of_lt hl]
theorem do_load (a b p y F : Nat) (wide : Bool) (ha : a < 65536) (hb : b < 65536) (hp : p < 256) (hy : b % sz wide = y)
    (hF : flg2 p (topb wide y) (y == 0) = F) : DoIs 7 a b p wide y F := by
  have hl : y < sz wide := hy ▸ cut_lt wide b
  refine do_is 7 a b (a % sz wide) y p F y _ _ wide ha hb rfl hy (fun u w h => ans_load u p _ _ _ (a % sz wide) y _ w h hp (msk_lt wide) (tp_lt wide) (cut_lt16 wide a) (hy ▸ cut_lt16 wide b) rfl) ?_ ?_
  · rw [← hF, sg _ wide _ y (Nat.mod_eq_of_lt hl)]
    rfl
  · rw [and_msk', Nat.mod_eq_of_lt hl]
theorem do_cmp (a b p x y d F : Nat) (wide : Bool) (ha : a < 65536) (hb : b < 65536) (hp : p < 256) (hx : a % sz wide = x) (hy : b % sz wide = y)
    (hd : (x + sz wide - y) % sz wide = d) (hF : flg3 p (topb wide d) (d == 0) (decide (y ≤ x)) = F) : DoIs 5 a b p wide x F := by
  have lx : x < sz wide := hx ▸ cut_lt wide a
  have ly : y < sz wide := hy ▸ cut_lt wide b
  have e : (x + 65536 - y) % 65536 % sz wide = d := by
    rw [cut_cut, ← hd]
    cases wide
    · have : y < 256 := ly
      show (x + 65536 - y) % 256 = (x + 256 - y) % 256
      omega
    · rfl
  refine do_is 5 a b x y p F x _ _ wide ha hb hx hy (fun u w h => ans_cmp u p _ _ _ x y _ w h hp (msk_lt wide) (tp_lt wide) (hx ▸ cut_lt16 wide a) (hy ▸ cut_lt16 wide b) rfl) ?_ rfl
  rw [← hF, sg _ wide _ d e]
  rfl
theorem and_half (wide : Bool) (y : Nat) : (y &&& (tp wide / 2) != 0) = topb wide (y * 2 % sz wide) := by
  rw [topb_cut]
  unfold topb
  rw [show y * 2 / tp wide = y / (tp wide / 2) by cases wide <;> (first | (show y * 2 / 128 = y / 64; omega) | (show y * 2 / 32768 = y / 16384; omega))]
  cases wide
  · have := nat_bit 6 y
    simp only [Nat.reducePow] at this
    show (y &&& 64 != 0) = (y / 64 % 2 == 1)
    rw [this]
    rcases Nat.mod_two_eq_zero_or_one (y / 64) with h | h <;> rw [h] <;> rfl
  · have := nat_bit 14 y
    simp only [Nat.reducePow] at this
    show (y &&& 16384 != 0) = (y / 16384 % 2 == 1)
    rw [this]
    rcases Nat.mod_two_eq_zero_or_one (y / 16384) with h | h <;> rw [h] <;> rfl
theorem do_bit (a b p x y F : Nat) (wide : Bool) (ha : a < 65536) (hb : b < 65536) (hp : p < 256) (hx : a % sz wide = x) (hy : b % sz wide = y)
    (hF : setF (setF (setF p 128 (topb wide y)) 64 (topb wide (y * 2 % sz wide))) 2 (x &&& y == 0) = F) : DoIs 6 a b p wide x F := by
  refine do_is 6 a b x y p F x _ _ wide ha hb hx hy (fun u w h => ans_bit u p _ _ _ x y _ w h hp (msk_lt wide) (tp_lt wide) (hx ▸ cut_lt16 wide a) (hy ▸ cut_lt16 wide b) rfl) ?_ rfl
  rw [← hF, and_half, and_tp']
theorem do_tsb (a b p x y X F : Nat) (wide : Bool) (ha : a < 65536) (hb : b < 65536) (hp : p < 256) (hx : a % sz wide = x) (hy : b % sz wide = y)
    (hX : x ||| y = X) (hF : setF p 2 (x &&& y == 0) = F) : DoIs 14 a b p wide X F := by
  exact do_is 14 a b x y p F X _ _ wide ha hb hx hy (fun u w h => ans_tsb u p _ _ _ x y _ w h hp (msk_lt wide) (tp_lt wide) (hx ▸ cut_lt16 wide a) (hy ▸ cut_lt16 wide b) rfl) hF (by rw [← hX, Nat.or_comm])
theorem do_trb (a b p x y X F : Nat) (wide : Bool) (ha : a < 65536) (hb : b < 65536) (hp : p < 256) (hx : a % sz wide = x) (hy : b % sz wide = y)
    (hX : y &&& (65535 - x) = X) (hF : setF p 2 (x &&& y == 0) = F) : DoIs 15 a b p wide X F := by
  exact do_is 15 a b x y p F X _ _ wide ha hb hx hy (fun u w h => ans_trb u p _ _ _ x y _ w h hp (msk_lt wide) (tp_lt wide) (hx ▸ cut_lt16 wide a) (hy ▸ cut_lt16 wide b) rfl) hF hX
theorem do_biti (a b p x y F : Nat) (wide : Bool) (ha : a < 65536) (hb : b < 65536) (hp : p < 256) (hx : a % sz wide = x) (hy : b % sz wide = y)
    (hF : setF p 2 (x &&& y == 0) = F) : DoIs 16 a b p wide x F := by
  exact do_is 16 a b x y p F x _ _ wide ha hb hx hy (fun u w h => ans_biti u p _ _ _ x y _ w h hp (msk_lt wide) (tp_lt wide) (hx ▸ cut_lt16 wide a) (hy ▸ cut_lt16 wide b) rfl) hF rfl
theorem do_none (op a b p : Nat) (wide : Bool) (w : World) (ha : a < 65536) (hb : b < 65536) (hop : 16 < op) :
    Calls Try.prog 10 #[.int .u8 op, .int .u16 a, .int .u16 b, .int .u8 p, .bool wide] w fun e w' => e = .returned (.tuple #[.int .u16 0, .int .u8 0, .bool false]) ∧ Below w.heap.size w w' :=
  do_of op a b _ _ p p 0 wide false w ha hb rfl rfl (fun u w h => ans_none u p _ _ _ _ _ op w h hop)
end Go.Proofs.Ytnjbgnkbncjnlaa
