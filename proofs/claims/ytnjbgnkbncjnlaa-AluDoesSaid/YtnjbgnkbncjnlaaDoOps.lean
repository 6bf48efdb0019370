/-
  alu.Do, operation by operation, in plain numbers.
-/
import Derived.Test.YtnjbgnkbncjnlaaAwake
import Derived.OpenShut
namespace Go.Proofs.Ytnjbgnkbncjnlaa
open Go.RowKit Go.Shelf
set_option maxRecDepth 100000
set_option maxHeartbeats 1000000
set_option linter.unusedVariables false
theorem nat16 {a : Int} (h : (Lit.int .u16 a).wf = true) : ∃ n : Nat, a = n ∧ n < 65536 := by
  have := Go.bounds_u16 h
  exact ⟨a.toNat, by omega, by omega⟩
theorem nat8 {a : Int} (h : (Lit.int .u8 a).wf = true) : ∃ n : Nat, a = n ∧ n < 256 := by
  have := Go.bounds_u8 h
  exact ⟨a.toNat, by omega, by omega⟩
/-- 2^8 or 2^16; the top bit. -/
def sz (wide : Bool) : Nat := if wide then 65536 else 256
def topb (wide : Bool) (x : Nat) : Bool := x / tp wide % 2 == 1
theorem msk_sz (wide : Bool) : msk wide + 1 = sz wide := by cases wide <;> rfl
theorem tp_sz (wide : Bool) : tp wide * 2 = sz wide := by cases wide <;> rfl
theorem sz_le (wide : Bool) : sz wide ≤ 65536 := by cases wide <;> decide
theorem msk_lt (wide : Bool) : msk wide < 65536 := by cases wide <;> decide
theorem tp_lt (wide : Bool) : tp wide < 65536 := by cases wide <;> decide
theorem and_msk' (wide : Bool) (x : Nat) : x &&& msk wide = x % sz wide := by rw [and_msk, msk_sz]
theorem and_cut (wide : Bool) (x : Nat) : x % 65536 &&& msk wide = x % sz wide := by
  rw [and_msk']
  cases wide
  · show x % 65536 % 256 = x % 256; omega
  · show x % 65536 % 65536 = x % 65536; omega
theorem and_tp' (wide : Bool) (x : Nat) : (x &&& tp wide != 0) = topb wide x := and_tp wide x
theorem topb_cut (wide : Bool) (x : Nat) : topb wide (x % sz wide) = topb wide x := by
  cases wide
  · show (x % 256 / 128 % 2 == 1) = (x / 128 % 2 == 1); congr 1; omega
  · show (x % 65536 / 32768 % 2 == 1) = (x / 32768 % 2 == 1); congr 1; omega
theorem topb_cut16 (wide : Bool) (x : Nat) : topb wide (x % 65536) = topb wide x := by
  cases wide
  · show (x % 65536 / 128 % 2 == 1) = (x / 128 % 2 == 1); congr 1; omega
  · show (x % 65536 / 32768 % 2 == 1) = (x / 32768 % 2 == 1); congr 1; omega
theorem sg (p : Nat) (wide : Bool) (s X : Nat) (h : s % sz wide = X) : signF p (msk wide) (tp wide) s = setF (setF p 128 (topb wide X)) 2 (X == 0) := by
  unfold signF
  rw [and_msk', h, and_tp']
theorem topb_bit (wide : Bool) (x : Nat) : topb wide x = x.testBit (if wide then 15 else 7) := by
  cases wide
  · show (x / 128 % 2 == 1) = x.testBit 7
    rw [Nat.testBit_eq_decide_div_mod_eq, Bool.eq_iff_iff, beq_iff_eq, decide_eq_true_iff]
  · show (x / 32768 % 2 == 1) = x.testBit 15
    rw [Nat.testBit_eq_decide_div_mod_eq, Bool.eq_iff_iff, beq_iff_eq, decide_eq_true_iff]
theorem topb_xor (wide : Bool) (x y : Nat) : topb wide (x ^^^ y) = (topb wide x ^^ topb wide y) := by
  rw [topb_bit, topb_bit, topb_bit, Nat.testBit_xor]
theorem ov (p : Nat) (wide : Bool) (a b : Nat) (neg : Bool) : overF p (tp wide) a b neg = setF p 64 (topb wide a == topb wide b && topb wide a != neg) := by
  unfold overF
  rw [and_tp', show ((a ^^^ b) &&& tp wide == 0) = !((a ^^^ b) &&& tp wide != 0) by unfold bne; rw [Bool.not_not], and_tp', topb_xor]
  cases topb wide a <;> cases topb wide b <;> rfl
theorem xor_all (n y : Nat) (hy : y < 2 ^ n) : y ^^^ (2 ^ n - 1) = 2 ^ n - (y + 1) := by
  apply Nat.eq_of_testBit_eq
  intro i
  rw [Nat.testBit_xor, Nat.testBit_two_pow_sub_one, Nat.testBit_two_pow_sub_succ hy]
  by_cases h : i < n
  · simp [h]
  · have : y.testBit i = false := Nat.testBit_lt_two_pow (Nat.lt_of_lt_of_le hy (Nat.pow_le_pow_right (by decide) (by omega)))
    simp [h, this]
theorem xor_msk (wide : Bool) (y : Nat) (hy : y < sz wide) : y ^^^ msk wide = sz wide - 1 - y := by
  cases wide
  · have h : y ^^^ 255 = 256 - (y + 1) := xor_all 8 y hy
    show y ^^^ 255 = 256 - 1 - y
    omega
  · have h : y ^^^ 65535 = 65536 - (y + 1) := xor_all 16 y hy
    show y ^^^ 65535 = 65536 - 1 - y
    omega
/-- Four flags, as they come to be set. -/
def flg (p : Nat) (n v z c : Bool) : Nat := setF (setF (setF (setF p 1 c) 64 v) 128 n) 2 z
def flg3 (p : Nat) (n z c : Bool) : Nat := setF (setF (setF p 1 c) 128 n) 2 z
def flg2 (p : Nat) (n z : Bool) : Nat := setF (setF p 128 n) 2 z
/-- What Do answers: x, the flags, and that there is such an operation. -/
def DoIs (op a b p : Nat) (wide : Bool) (X F : Nat) : Prop := ∀ w : World, Calls Try.prog 10 #[.int .u8 op, .int .u16 a, .int .u16 b, .int .u8 p, .bool wide] w fun e w' => e = .returned (.tuple #[.int .u16 X, .int .u8 F, .bool true]) ∧ Below w.heap.size w w'
theorem do_is (op a b x y p F X F' X' : Nat) (wide : Bool) (ha : a < 65536) (hb : b < 65536) (hx : a % sz wide = x) (hy : b % sz wide = y) 
    (hans : ∀ (u : Nat) (w : World), Uni w u p (cn wide) (msk wide) (tp wide) → Calls Try.prog 29 #[.pointer (some ⟨u, 0, none⟩), .int .u8 op, .int .u16 x, .int .u16 y] w (Ans u (cn wide) (msk wide) (tp wide) X' F' true w)) (hF : F' = F) (hX : X' = X) :
    DoIs op a b p wide X F := by
  subst hF hX
  intro w
  exact do_of op a b x y p F' X' wide true w ha hb (by rw [and_msk', hx]) (by rw [and_msk', hy]) hans
theorem cut_lt (wide : Bool) (a : Nat) : a % sz wide < sz wide := Nat.mod_lt _ (by cases wide <;> decide)
theorem cut_lt16 (wide : Bool) (a : Nat) : a % sz wide < 65536 := Nat.lt_of_lt_of_le (cut_lt wide a) (sz_le wide)
theorem cut_cut (wide : Bool) (s : Nat) : s % 65536 % sz wide = s % sz wide := by
  cases wide
  · show s % 65536 % 256 = s % 256; omega
  · show s % 65536 % 65536 = s % 65536; omega
theorem addF_is (p : Nat) (wide : Bool) (x y c X : Nat) (h : (x + y + c) % sz wide = X) :
    addF p (msk wide) (tp wide) x y c = flg p (topb wide X) (topb wide x == topb wide y && topb wide x != topb wide X) (X == 0) (decide (sz wide ≤ x + y + c)) := by
  unfold addF flg
  rw [sg _ wide _ X (by rw [cut_cut, h]), and_tp', topb_cut16, ov, ← h, topb_cut, decide_eq_decide.2 (show msk wide < x + y + c ↔ sz wide ≤ x + y + c by rw [← msk_sz]; omega)]
theorem do_add (a b p x y c X F : Nat) (wide : Bool) (ha : a < 65536) (hb : b < 65536) (hp : p < 256) (hd : (p &&& 8 != 0) = false) (hx : a % sz wide = x) (hy : b % sz wide = y) (hc : p % 2 = c)
    (hX : (x + y + c) % sz wide = X) (hF : flg p (topb wide X) (topb wide x == topb wide y && topb wide x != topb wide X) (X == 0) (decide (sz wide ≤ x + y + c)) = F) : DoIs 3 a b p wide X F := by
  refine do_is 3 a b x y p F X _ _ wide ha hb hx hy (fun u w h => ans_add u p _ _ _ x y c w h hp (msk_lt wide) (tp_lt wide) (hx ▸ cut_lt16 wide a) (hy ▸ cut_lt16 wide b) hc hd) ?_ ?_
  · rw [← hF]; exact addF_is p wide x y c X hX
  · rw [← hX]; exact and_cut wide _
theorem do_sub (a b p x y c X F : Nat) (wide : Bool) (ha : a < 65536) (hb : b < 65536) (hp : p < 256) (hd : (p &&& 8 != 0) = false) (hx : a % sz wide = x) (hy : sz wide - 1 - b % sz wide = y) (hc : p % 2 = c)
    (hX : (x + y + c) % sz wide = X) (hF : flg p (topb wide X) (topb wide x == topb wide y && topb wide x != topb wide X) (X == 0) (decide (sz wide ≤ x + y + c)) = F) : DoIs 4 a b p wide X F := by
  refine do_is 4 a b x (b % sz wide) p F X _ _ wide ha hb hx rfl (fun u w h => ans_sub u p _ _ _ x (b % sz wide) c y w h hp (msk_lt wide) (tp_lt wide) (hx ▸ cut_lt16 wide a) (cut_lt16 wide b) hc (by rw [xor_msk wide _ (cut_lt wide b), hy]) hd) ?_ ?_
  · rw [← hF]; exact addF_is p wide x y c X hX
  · rw [← hX]; exact and_cut wide _
theorem do_rol (a b p x c X F : Nat) (wide : Bool) (ha : a < 65536) (hb : b < 65536) (hp : p < 256) (hx : a % sz wide = x) (hc : p % 2 = c)
    (hX : (2 * x + c) % sz wide = X) (hF : flg3 p (topb wide X) (X == 0) (topb wide x) = F) : DoIs 9 a b p wide X F := by
  have hj : x * 2 % 65536 ||| c = (2 * x + c) % 65536 := by
    rw [nat_join 1 (x * 2 % 65536) c (by show x * 2 % 65536 % 2 = 0; omega) (by show c < 2; omega)]
    omega
  refine do_is 9 a b x (b % sz wide) p F X _ _ wide ha hb hx rfl (fun u w h => ans_rol u p _ _ _ x (b % sz wide) c _ w h hp (msk_lt wide) (tp_lt wide) (hx ▸ cut_lt16 wide a) (cut_lt16 wide b) hc hj) ?_ ?_
  · rw [← hF, sg _ wide _ X (by rw [cut_cut, hX]), and_tp']
    rfl
  · rw [← hX]; exact and_cut wide _
theorem do_asl (a b p x X F : Nat) (wide : Bool) (ha : a < 65536) (hb : b < 65536) (hp : p < 256) (hx : a % sz wide = x)
    (hX : 2 * x % sz wide = X) (hF : flg3 p (topb wide X) (X == 0) (topb wide x) = F) : DoIs 8 a b p wide X F := by
  have hj : x * 2 % 65536 ||| 0 = 2 * x % 65536 := by rw [Nat.or_zero, Nat.mul_comm]
  refine do_is 8 a b x (b % sz wide) p F X _ _ wide ha hb hx rfl (fun u w h => ans_asl u p _ _ _ x (b % sz wide) _ _ w h hp (msk_lt wide) (tp_lt wide) (hx ▸ cut_lt16 wide a) (cut_lt16 wide b) rfl hj) ?_ ?_
  · rw [← hF, sg _ wide _ X (by rw [cut_cut, hX]), and_tp']
    rfl
  · rw [← hX]; exact and_cut wide _
theorem half_lt (wide : Bool) (x : Nat) (h : x < sz wide) : x / 2 < tp wide := by have := tp_sz wide; omega
theorem tp_pow (wide : Bool) : tp wide = 2 ^ (if wide then 15 else 7) := by cases wide <;> rfl
theorem do_ror (a b p x c X F : Nat) (wide : Bool) (ha : a < 65536) (hb : b < 65536) (hp : p < 256) (hx : a % sz wide = x) (hc : p % 2 = c)
    (hX : x / 2 + tp wide * c = X) (hF : flg3 p (topb wide X) (X == 0) (x % 2 == 1) = F) : DoIs 11 a b p wide X F := by
  have hl : x / 2 < tp wide := half_lt wide x (hx ▸ cut_lt wide a)
  have ht := tp_sz wide
  have hs := sz_le wide
  have hc2 : c = 0 ∨ c = 1 := by omega
  have hX2 : X < sz wide := by rcases hc2 with rfl | rfl <;> omega
  have hj : x / 2 ||| tp wide * c % 65536 = X := by
    have e : tp wide * c % 65536 = tp wide * c := by rcases hc2 with rfl | rfl <;> omega
    rw [e, Nat.or_comm, tp_pow, nat_join _ (2 ^ (if wide then 15 else 7) * c) (x / 2) (Nat.mul_mod_right _ _) (by rw [← tp_pow]; exact hl), ← tp_pow]
    omega
  refine do_is 11 a b x (b % sz wide) p F X _ _ wide ha hb hx rfl (fun u w h => ans_ror u p _ _ _ x (b % sz wide) c _ w h hp (msk_lt wide) (tp_lt wide) (hx ▸ cut_lt16 wide a) (cut_lt16 wide b) hc hj) ?_ ?_
  · rw [← hF, sg _ wide _ X (Nat.mod_eq_of_lt hX2)]
    rfl
  · rw [and_msk', Nat.mod_eq_of_lt hX2]
theorem do_lsr (a b p x X F : Nat) (wide : Bool) (ha : a < 65536) (hb : b < 65536) (hp : p < 256) (hx : a % sz wide = x)
    (hX : x / 2 = X) (hF : flg3 p (topb wide X) (X == 0) (x % 2 == 1) = F) : DoIs 10 a b p wide X F := by
  have hl : x < sz wide := hx ▸ cut_lt wide a
  have hX2 : X < sz wide := by omega
  have hj : x / 2 ||| 0 = X := by rw [Nat.or_zero, hX]
  refine do_is 10 a b x (b % sz wide) p F X _ _ wide ha hb hx rfl (fun u w h => ans_lsr u p _ _ _ x (b % sz wide) _ _ w h hp (msk_lt wide) (tp_lt wide) (hx ▸ cut_lt16 wide a) (cut_lt16 wide b) rfl hj) ?_ ?_
  · rw [← hF, sg _ wide _ X (Nat.mod_eq_of_lt hX2)]
    rfl
  · rw [and_msk', Nat.mod_eq_of_lt hX2]
theorem do_inc (a b p x X F : Nat) (wide : Bool) (ha : a < 65536) (hb : b < 65536) (hp : p < 256) (hx : a % sz wide = x)
    (hX : (x + 1) % sz wide = X) (hF : flg2 p (topb wide X) (X == 0) = F) : DoIs 12 a b p wide X F := by
  refine do_is 12 a b x (b % sz wide) p F X _ _ wide ha hb hx rfl (fun u w h => ans_inc u p _ _ _ x (b % sz wide) _ w h hp (msk_lt wide) (tp_lt wide) (hx ▸ cut_lt16 wide a) (cut_lt16 wide b) rfl) ?_ ?_
  · rw [← hF, sg _ wide _ X (by rw [cut_cut, hX])]
    rfl
  · rw [← hX]; exact and_cut wide _
theorem do_dec (a b p x X F : Nat) (wide : Bool) (ha : a < 65536) (hb : b < 65536) (hp : p < 256) (hx : a % sz wide = x)
    (hX : (x + sz wide - 1) % sz wide = X) (hF : flg2 p (topb wide X) (X == 0) = F) : DoIs 13 a b p wide X F := by
  have e : (x + 65535) % sz wide = X := by rw [← hX]; cases wide <;> (simp only [sz]) <;> (first | (show (x + 65535) % 256 = (x + 256 - 1) % 256; omega) | rfl)
  refine do_is 13 a b x (b % sz wide) p F X _ _ wide ha hb hx rfl (fun u w h => ans_dec u p _ _ _ x (b % sz wide) _ w h hp (msk_lt wide) (tp_lt wide) (hx ▸ cut_lt16 wide a) (cut_lt16 wide b) rfl) ?_ ?_
  · rw [← hF, sg _ wide _ X (by rw [cut_cut, e])]
    rfl
  · rw [← e]; exact and_cut wide _
end Go.Proofs.Ytnjbgnkbncjnlaa
