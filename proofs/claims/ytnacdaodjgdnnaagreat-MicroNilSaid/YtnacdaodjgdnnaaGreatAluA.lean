/-
  Plain words for memory, used by this seat's walks: a block that is known whole; the arithmetic unit's block; flags.
-/
import Derived.Test.YtnacdaodjgdnnaaGreatMem
import Derived.WalkKit
import Derived.WalkSpells
import Derived.WalkLawsBesides
import Derived.Laws.NewBlocks
import Derived.Laws.MakeOwn
import Derived.Lib.Hide
import Derived.Outline
import Derived.Shelf.Abstract
import Derived.LoopN
import Derived.BigQuiet
import Derived.Deep.QuietTactic
import Derived.Deep.DeepCutAuto
namespace Go.Proofs.YtnacdaodjgdnnaaGreat.Au
open Go.RowKit

/-- A flag of a byte, made 1 or 0. -/
def setF (p flag : Nat) (on : Bool) : Nat := (p &&& (255 - flag)) ||| (if on then flag else 0)
theorem setF_lt (p flag : Nat) (on : Bool) (hf : flag < 256) : setF p flag on < 256 := by
  unfold setF
  refine Nat.or_lt_two_pow (n := 8) (Nat.and_lt_two_pow _ (by omega)) ?_
  split <;> omega

/-- The arithmetic unit at block u: its flags, how many digits, its mask, its top bit. -/
def Uni (w : World) (u p cnt mask top : Nat) : Prop := Whole w u 244 #[.int .u8 p, .int .i64 cnt, .int .u16 mask, .int .u16 top]
theorem Uni.set {w : World} {u p cnt mask top : Nat} (h : Uni w u p cnt mask top) (q : Nat) : Uni (w.setCell ⟨u, 0, none⟩ (.int .u8 q)) u q cnt mask top := by
  have := Whole.put h 0 (.int .u8 q)
  simpa [Uni] using this
theorem Uni.c0 {w : World} {u p cnt mask top : Nat} (h : Uni w u p cnt mask top) : w.cell? ⟨u, 0, none⟩ = some (.int .u8 p) := Whole.cell h 0
theorem Uni.c1 {w : World} {u p cnt mask top : Nat} (h : Uni w u p cnt mask top) : w.cell? ⟨u, 1, none⟩ = some (.int .i64 cnt) := Whole.cell h 1
theorem Uni.c2 {w : World} {u p cnt mask top : Nat} (h : Uni w u p cnt mask top) : w.cell? ⟨u, 2, none⟩ = some (.int .u16 mask) := Whole.cell h 2
theorem Uni.c3 {w : World} {u p cnt mask top : Nat} (h : Uni w u p cnt mask top) : w.cell? ⟨u, 3, none⟩ = some (.int .u16 top) := Whole.cell h 3
theorem Uni.f0 {w : World} {u p cnt mask top : Nat} (h : Uni w u p cnt mask top) : w.frozen? ⟨u, 0, none⟩ = false := Whole.free h 0
theorem modify_twice (xs : Array Obj) (i : Nat) (f g h : Obj → Obj) (e : ∀ o, g (f o) = h o) : (xs.modify i f).modify i g = xs.modify i h := by
  apply Array.ext
  · simp
  · intro k h1 h2
    simp only [Array.getElem_modify]
    split
    · simp [e]
    · simp
theorem Uni.lt {w : World} {u p cnt mask top : Nat} (h : Uni w u p cnt mask top) : u < w.heap.size := Whole.lt h
theorem Uni.alloc {w : World} {u p cnt mask top : Nat} (h : Uni w u p cnt mask top) (o : Obj) : Uni (w.alloc o) u p cnt mask top := Whole.alloc h o
theorem Uni.below {w w2 : World} {B u p cnt mask top : Nat} (h : Uni w u p cnt mask top) (hb : Below B w w2) (hu : u < B) : Uni w2 u p cnt mask top := Whole.below h hb hu
theorem setCell_twice (w : World) (a : Addr) (x y : Value) : (w.setCell a x).setCell a y = w.setCell a y := by
  show World.mk _ _ _ _ _ = World.mk _ _ _ _ _
  rw [World.mk.injEq]
  refine ⟨?_, rfl, rfl, rfl, rfl⟩
  simp only [World.setCell]
  refine modify_twice w.heap a.block _ _ _ ?_
  intro o
  cases o with
  | cells c elem frozen =>
    cases hs : a.spot.isSome <;> simp
  | _ => rfl
end Go.Proofs.YtnacdaodjgdnnaaGreat.Au
namespace Go.Proofs.YtnacdaodjgdnnaaGreat.Au
open Go.RowKit Go.Shelf
set_option maxRecDepth 100000
set_option maxHeartbeats 1000000
set_option linter.unusedVariables false

theorem bne0 (n : Nat) : ((n : Int) != 0) = (n != 0) := by
  cases n <;> simp [bne] <;> omega
theorem beq0 (n : Nat) : ((n : Int) == 0) = (n == 0) := by
  cases n <;> simp <;> omega
theorem wrap16 (n : Nat) (h : n < 65536) : IntKind.u16.wrap (n : Int) = n := by rw [IntKind.wrap_u16]; omega
theorem set_num (p flag : Nat) (hp : p < 256) (hf : flag < 256) : bits .or .u8 (bits .andNot .u8 p flag) flag = (setF p flag true : Nat) := by
  rw [u8_andNot_nat p flag hp hf, u8_or_nat _ flag (Nat.and_lt_two_pow (n := 8) _ (by omega)) hf]
  rfl
theorem clr_num (p flag : Nat) (hp : p < 256) (hf : flag < 256) : bits .andNot .u8 p flag = (setF p flag false : Nat) := by
  rw [u8_andNot_nat p flag hp hf]
  simp [setF]
theorem set_any (u p cnt mask top flag : Nat) (on : Bool) (w : World) (h : Uni w u p cnt mask top) (hp : p < 256) (hf : flag < 256) :
    Calls Tryz.prog 295 #[.pointer (some ⟨u, 0, none⟩), .int .u8 flag, .bool on] w fun e w' => e = .returned (.tuple #[]) ∧ w.setCell ⟨u, 0, none⟩ (.int .u8 (setF p flag on : Nat)) = w' := by
  have h0 := h.c0
  have h1 := h.f0
  clear h
  have H1 := Lib.hid (set_num p flag hp hf)
  have H2 := Lib.hid (clr_num p flag hp hf)
  cases on
  · go_enter Tryz.func295, Tryz.ntmps295
    go_wp2
    go_end0
    exact ⟨rfl, by rw [H2.out]⟩
  · go_enter Tryz.func295, Tryz.ntmps295
    go_wp2
    go_end0
    exact ⟨rfl, by rw [setCell_twice, H1.out]⟩
theorem carry_any (u p cnt mask top : Nat) (w : World) (h : Uni w u p cnt mask top) (hp : p < 256) :
    Calls Tryz.prog 297 #[.pointer (some ⟨u, 0, none⟩)] w fun e w' => e = .returned (.int .u16 (p % 2 : Nat)) ∧ w = w' := by
  have h0 := h.c0
  clear h
  have H : Hid (IntKind.u16.wrap (bits BinOp.and IntKind.u8 (↑p) 1) = (p % 2 : Nat)) := Lib.hid (by
    rw [show (1 : Int) = ((1 : Nat) : Int) from rfl, u8_and_nat p 1 hp (by omega), nat_mask1, wrap16 _ (by omega)])
  go_enter Tryz.func297, Tryz.ntmps297
  go_wp2
  go_ret
  exact ⟨congrArg Ending.returned (congrArg (Value.int .u16) H.out), rfl⟩

/-- N and Z of a number, that is cut to the unit's width. -/
def signF (p mask top x : Nat) : Nat := setF (setF p 128 (x &&& mask &&& top != 0)) 2 (x &&& mask == 0)
theorem sign_any (u p cnt mask top x : Nat) (w : World) (h : Uni w u p cnt mask top) (hp : p < 256) (hm : mask < 65536) (ht : top < 65536) (hx : x < 65536) :
    Calls Tryz.prog 291 #[.pointer (some ⟨u, 0, none⟩), .int .u16 x] w fun e w' => e = .returned (.int .u16 (x &&& mask : Nat)) ∧ w.setCell ⟨u, 0, none⟩ (.int .u8 (signF p mask top x : Nat)) = w' := by
  have h2 := h.c2
  have h3 := h.c3
  have E1 := Lib.hid (u16_and_nat x mask hx hm)
  have E2 := Lib.hid (u16_and_nat (x &&& mask) top (Nat.and_lt_two_pow (n := 16) _ hm) ht)
  have hq := setF_lt p 128
  go_enter Tryz.func291, Tryz.ntmps291
  go_wp2_with fail
  refine (set_any u p cnt mask top 128 _ _ h hp (by omega)).mono ?_
  rintro e w1 ⟨rfl, rfl⟩
  have h' := h.set (setF p 128 (bits BinOp.and IntKind.u16 (bits BinOp.and IntKind.u16 ↑x ↑mask) ↑top != 0))
  go_wp2_with fail
  refine (set_any u _ cnt mask top 2 _ _ h' (hq _ (by omega)) (by omega)).mono ?_
  rintro e w1 ⟨rfl, rfl⟩
  go_wp2_with fail
  go_ret
  refine ⟨congrArg Ending.returned (congrArg (Value.int .u16) E1.out), ?_⟩
  rw [setCell_twice, E1.out, E2.out, bne0, beq0]
  rfl
theorem common_any (u p cnt mask top a b : Nat) (w : World) (h : Uni w u p cnt mask top) (hp : p < 256) (ha : a < 65536) (hb : b < 65536) :
    Calls Tryz.prog 296 #[.pointer (some ⟨u, 0, none⟩), .int .u16 a, .int .u16 b] w fun e w' => e = .returned (.tuple #[]) ∧ w.setCell ⟨u, 0, none⟩ (.int .u8 (setF p 2 (a &&& b == 0) : Nat)) = w' := by
  have E1 := Lib.hid (u16_and_nat a b ha hb)
  go_enter Tryz.func296, Tryz.ntmps296
  go_wp2_with fail
  refine (set_any u p cnt mask top 2 _ _ h hp (by omega)).mono ?_
  rintro e w1 ⟨rfl, rfl⟩
  go_wp2_with fail
  go_end0
  exact ⟨rfl, by rw [E1.out, beq0]⟩
def overF (p top a b : Nat) (neg : Bool) : Nat := setF p 64 ((a ^^^ b) &&& top == 0 && ((a &&& top != 0) != neg))
theorem overflow_any (u p cnt mask top a b : Nat) (neg : Bool) (w : World) (h : Uni w u p cnt mask top) (hp : p < 256) (ht : top < 65536) (ha : a < 65536) (hb : b < 65536) :
    Calls Tryz.prog 308 #[.pointer (some ⟨u, 0, none⟩), .int .u16 a, .int .u16 b, .bool neg] w fun e w' => e = .returned (.tuple #[]) ∧ w.setCell ⟨u, 0, none⟩ (.int .u8 (overF p top a b neg : Nat)) = w' := by
  have h3 := h.c3
  have E1 := Lib.hid (u16_and_nat a top ha ht)
  have E2 := Lib.hid (u16_xor_nat a b ha hb)
  have E3 := Lib.hid (u16_and_nat (a ^^^ b) top (Nat.xor_lt_two_pow (n := 16) ha hb) ht)
  cases hz : ((a ^^^ b) &&& top == 0)
  · have hq : (bits .and .u16 (bits .xor .u16 ↑a ↑b) ↑top == 0) = false := by rw [E2.out, E3.out, beq0]; exact hz
    go_enter Tryz.func308, Tryz.ntmps308
    go_wp2_with fail
    refine (set_any u p cnt mask top 64 _ _ h hp (by omega)).mono ?_
    rintro e w1 ⟨rfl, rfl⟩
    go_wp2_with fail
    go_end0
    exact ⟨rfl, by unfold overF; rw [hz]; rfl⟩
  · have hq : (bits .and .u16 (bits .xor .u16 ↑a ↑b) ↑top == 0) = true := by rw [E2.out, E3.out, beq0]; exact hz
    go_enter Tryz.func308, Tryz.ntmps308
    go_wp2_with fail
    refine (set_any u p cnt mask top 64 _ _ h hp (by omega)).mono ?_
    rintro e w1 ⟨rfl, rfl⟩
    go_wp2_with fail
    go_end0
    refine ⟨rfl, ?_⟩
    unfold overF
    rw [hz, E1.out, bne0]
    cases (a &&& top != 0) <;> cases neg <;> rfl
end Go.Proofs.YtnacdaodjgdnnaaGreat.Au
namespace Go.Proofs.YtnacdaodjgdnnaaGreat.Au
open Go.RowKit Go.Shelf
set_option maxRecDepth 100000
set_option maxHeartbeats 1000000
set_option linter.unusedVariables false

theorem ret1 {k : IntKind} {a b : Int} (h : a = b) : Ending.returned (.int k a) = .returned (.int k b) := by rw [h]
theorem ret2 {k l : IntKind} {a b c d : Int} (h : a = b) (h' : c = d) : Ending.returned (.tuple #[.int k a, .int l c]) = .returned (.tuple #[.int k b, .int l d]) := by rw [h, h']
theorem and15 (n : Nat) (h : n < 65536) : bits .and .u16 (n : Int) 15 = (n % 16 : Nat) := by
  rw [show (15 : Int) = ((15 : Nat) : Int) from rfl, u16_and_nat _ _ h (by omega), nat_mask4]
theorem count_any (wide : Bool) (w : World) : Calls Tryz.prog 289 #[.bool wide] w fun e w' => e = .returned (.int .i64 (if wide then 4 else 2)) ∧ w = w' := by
  cases wide
  · go_enter Tryz.func289, Tryz.ntmps289
    go_wp2
    go_ret
    exact ⟨rfl, rfl⟩
  · go_enter Tryz.func289, Tryz.ntmps289
    go_wp2
    go_ret
    exact ⟨rfl, rfl⟩
/-- A digit of a sum, and what is carried. -/
def corS (s : Nat) : Nat × Nat := if 9 < s then ((s + 6) % 16, 1) else (s, 0)
def corD (s : Nat) : Nat × Nat := if 15 < s then (s % 16, 1) else ((s + 10) % 16, 0)
theorem corS_any (s : Nat) (w : World) (hs : s < 32) : Calls Tryz.prog 290 #[.int .u16 s] w fun e w' => e = .returned (.tuple #[.int .u16 ((corS s).1 : Nat), .int .u16 ((corS s).2 : Nat)]) ∧ w = w' := by
  by_cases h : (9 : Int) < s
  · have H : Hid (bits BinOp.and IntKind.u16 (↑s + 6) 15 = ((s + 6) % 16 : Nat)) := Lib.hid (by
      rw [show (s : Int) + 6 = ((s + 6 : Nat) : Int) from by omega, and15 _ (by omega)])
    go_enter Tryz.func290, Tryz.ntmps290
    go_wp2
    go_ret2
    rw [show corS s = ((s + 6) % 16, 1) from if_pos (by omega)]
    exact ⟨ret2 H.out rfl, rfl⟩
  · go_enter Tryz.func290, Tryz.ntmps290
    go_wp2
    go_ret2
    rw [show corS s = (s, 0) from if_neg (by omega)]
    exact ⟨rfl, rfl⟩
theorem corD_any (s : Nat) (w : World) (hs : s < 32) : Calls Tryz.prog 292 #[.int .u16 s] w fun e w' => e = .returned (.tuple #[.int .u16 ((corD s).1 : Nat), .int .u16 ((corD s).2 : Nat)]) ∧ w = w' := by
  by_cases h : (15 : Int) < s
  · go_enter Tryz.func292, Tryz.ntmps292
    go_wp2
    go_ret2
    rw [show corD s = (s % 16, 1) from if_pos (by omega)]
    exact ⟨ret2 (and15 s (by omega)) rfl, rfl⟩
  · go_enter Tryz.func292, Tryz.ntmps292
    go_wp2
    go_ret2
    rw [show corD s = ((s + 10) % 16, 0) from if_neg (by omega)]
    refine ⟨ret2 ?_ rfl, rfl⟩
    rw [IntKind.wrap_u16, show ((s : Int) - 6) % 65536 = (((s + 65530) % 65536 : Nat) : Int) from by omega, and15 _ (by omega)]
    congr 1
    omega
theorem apart_any (x : Nat) (w : World) (hx : x < 65536) :
    Calls Tryz.prog 307 #[.int .u16 x] w fun e w' => e = .returned (.agg #[.int .u16 (x % 16 : Nat), .int .u16 (x / 16 % 16 : Nat), .int .u16 (x / 256 % 16 : Nat), .int .u16 (x / 4096 % 16 : Nat)]) ∧ Below w.heap.size w w' := by
  go_enter Tryz.func307, Tryz.ntmps307
  go_wp2
  refine wp_loop_rounds 5 ?_
  rw [rounds_succ]
  go_wp2
  rw [rounds_succ]
  go_wp2
  rw [rounds_succ]
  go_wp2
  rw [rounds_succ]
  go_wp2
  rw [rounds_succ]
  go_wp2
  refine bodyPost_ret (v := .agg #[.int .u16 (bits .and .u16 (x : Int) 15), .int .u16 (bits .and .u16 ((x : Int) / 16) 15), .int .u16 (bits .and .u16 ((x : Int) / 256) 15), .int .u16 (bits .and .u16 ((x : Int) / 4096) 15)]) (by simp [results, Tryz.results307, go_sem]) rfl ⟨?_, ?_⟩
  · rw [show (x : Int) / 16 = ((x / 16 : Nat) : Int) from by omega, show (x : Int) / 256 = ((x / 256 : Nat) : Int) from by omega, show (x : Int) / 4096 = ((x / 4096 : Nat) : Int) from by omega,
      and15 x hx, and15 (x / 16) (by omega), and15 (x / 256) (by omega), and15 (x / 4096) (by omega)]
  · exact ((Below.refl _ _).alloc (Nat.le_refl _) _).alloc (by simp) _
theorem orJ (i x t m : Nat) (hm : m = 2 ^ i) (hx : x < m) (h : x + m * t < 65536) : bits .or .u16 (x : Int) ((t : Int) * m) = (x + m * t : Nat) := by
  have e : (t : Int) * m = ((m * t : Nat) : Int) := by rw [Int.natCast_mul, Int.mul_comm]
  rw [e, u16_or_nat x (m * t) (by omega) (by omega), Nat.or_comm, nat_join i (m * t) x (by rw [hm]; exact Nat.mul_mod_right _ _) (by omega), Nat.add_comm]
theorem together_any (a b c d : Nat) (w : World) (ha : a < 16) (hb : b < 16) (hc : c < 16) (hd : d < 16) :
    Calls Tryz.prog 309 #[.agg #[.int .u16 a, .int .u16 b, .int .u16 c, .int .u16 d]] w fun e w' => e = .returned (.int .u16 (a + 16 * b + 256 * c + 4096 * d : Nat)) ∧ Below w.heap.size w w' := by
  go_enter Tryz.func309, Tryz.ntmps309
  go_wp2
  refine wp_loop_rounds 5 ?_
  rw [rounds_succ]
  go_wp2
  rw [rounds_succ]
  go_wp2
  rw [rounds_succ]
  go_wp2
  rw [rounds_succ]
  go_wp2
  rw [rounds_succ]
  go_wp2
  go_ret
  refine ⟨ret1 ?_, (Below.refl _ _).alloc (Nat.le_refl _) _⟩
  have e0 : bits .or .u16 0 (a : Int) = (a : Nat) := by
    rw [show (0 : Int) = ((0 : Nat) : Int) from rfl, u16_or_nat 0 a (by omega) (by omega), Nat.zero_or]
  have e1 := orJ 4 a b 16 rfl (by omega) (by omega)
  have e2 := orJ 8 (a + 16 * b) c 256 rfl (by omega) (by omega)
  have e3 := orJ 12 (a + 16 * b + 256 * c) d 4096 rfl (by omega) (by omega)
  exact (by rw [e0, show (16 : Int) = ((16 : Nat) : Int) from rfl, e1, show (256 : Int) = ((256 : Nat) : Int) from rfl, e2, show (4096 : Int) = ((4096 : Nat) : Int) from rfl, e3] :
    bits .or .u16 (bits .or .u16 (bits .or .u16 (bits .or .u16 0 (a : Int)) ((b : Int) * 16)) ((c : Int) * 256)) ((d : Int) * 4096) = _)
end Go.Proofs.YtnacdaodjgdnnaaGreat.Au
namespace Go.Proofs.YtnacdaodjgdnnaaGreat.Au
open Go.RowKit Go.Shelf
set_option maxRecDepth 100000
set_option maxHeartbeats 1000000
set_option linter.unusedVariables false
theorem carry_at (u p cnt mask top c : Nat) (w : World) (h : Uni w u p cnt mask top) (hp : p < 256) (hc : p % 2 = c) :
    Calls Tryz.prog 297 #[.pointer (some ⟨u, 0, none⟩)] w fun e w' => e = .returned (.int .u16 c) ∧ w = w' := by
  subst hc; exact carry_any u p cnt mask top w h hp
theorem apart_at (x d0 d1 d2 d3 : Nat) (w : World) (hx : x < 65536) (h0 : x % 16 = d0) (h1 : x / 16 % 16 = d1) (h2 : x / 256 % 16 = d2) (h3 : x / 4096 % 16 = d3) :
    Calls Tryz.prog 307 #[.int .u16 x] w fun e w' => e = .returned (.agg #[.int .u16 d0, .int .u16 d1, .int .u16 d2, .int .u16 d3]) ∧ Below w.heap.size w w' := by
  subst h0 h1 h2 h3; exact apart_any x w hx
theorem cor_at {g : Nat} {cor : Nat → Nat × Nat} (hg : ∀ (s : Nat) (w : World), s < 32 → Calls Tryz.prog g #[.int .u16 s] w fun e w' => e = .returned (.tuple #[.int .u16 ((cor s).1 : Nat), .int .u16 ((cor s).2 : Nat)]) ∧ w = w')
    (s d c : Nat) (w : World) (hs : s < 32) (h : cor s = (d, c)) : Calls Tryz.prog g #[.int .u16 s] w fun e w' => e = .returned (.tuple #[.int .u16 d, .int .u16 c]) ∧ w = w' := by
  have := hg s w hs
  rw [h] at this
  exact this
theorem together_at (a b c d x : Nat) (w : World) (ha : a < 16) (hb : b < 16) (hc : c < 16) (hd : d < 16) (hx : a + 16 * b + 256 * c + 4096 * d = x) :
    Calls Tryz.prog 309 #[.agg #[.int .u16 a, .int .u16 b, .int .u16 c, .int .u16 d]] w fun e w' => e = .returned (.int .u16 x) ∧ Below w.heap.size w w' := by
  subst hx; exact together_any a b c d w ha hb hc hd
theorem and8 (s : Nat) (h : s < 65536) : (bits .and .u16 (s : Int) 8 != 0) = (s &&& 8 != 0) := by
  rw [show (8 : Int) = ((8 : Nat) : Int) from rfl, u16_and_nat s 8 h (by omega), bne0]

/-- Two numbers and the carry together: the flags. -/
def addF (p mask top a b c : Nat) : Nat := signF (overF (setF p 1 (decide (mask < a + b + c))) top a b ((a + b + c) % 65536 &&& top != 0)) mask top ((a + b + c) % 65536)
theorem add_any (u p cnt mask top a b c : Nat) (w : World) (h : Uni w u p cnt mask top) (hp : p < 256) (hm : mask < 65536) (ht : top < 65536) (ha : a < 65536) (hb : b < 65536) (hc : p % 2 = c) :
    Calls Tryz.prog 294 #[.pointer (some ⟨u, 0, none⟩), .int .u16 a, .int .u16 b] w fun e w' => e = .returned (.int .u16 ((a + b + c) % 65536 &&& mask : Nat)) ∧ w.setCell ⟨u, 0, none⟩ (.int .u8 (addF p mask top a b c : Nat)) = w' := by
  have h2 := h.c2
  have h3 := h.c3
  have hc2 : c < 2 := by omega
  obtain ⟨x, hx⟩ : ∃ x, (a + b + c) % 65536 = x := ⟨_, rfl⟩
  have hx2 : x < 65536 := by omega
  have E := Lib.hid (show IntKind.u16.wrap ((a : Int) + b + c) = x by rw [IntKind.wrap_u16]; omega)
  have E2 := Lib.hid (u16_and_nat x top hx2 ht)
  have HX := Lib.hid hx
  have HC := Lib.hid hc
  clear hx hc
  have hq := setF_lt p 1
  go_enter Tryz.func294, Tryz.ntmps294
  go_wp2_with fail
  refine (carry_at u p cnt mask top c _ h hp HC.out).mono ?_
  rintro e w1 ⟨rfl, rfl⟩
  go_wp2_with fail
  refine (set_any u p cnt mask top 1 _ _ h hp (by omega)).mono ?_
  rintro e w1 ⟨rfl, rfl⟩
  have hA := h.set (setF p 1 (decide ((mask : Int) < a + b + c)))
  go_wp2_with fail
  refine (overflow_any u _ cnt mask top a b _ _ hA (hq _ (by omega)) ht ha hb).mono ?_
  rintro e w1 ⟨rfl, rfl⟩
  have hB := hA.set (overF (setF p 1 (decide ((mask : Int) < a + b + c))) top a b (bits .and .u16 (IntKind.u16.wrap ((a : Int) + b + c)) top != 0))
  have hr : overF (setF p 1 (decide ((mask : Int) < a + b + c))) top a b (bits .and .u16 (IntKind.u16.wrap ((a : Int) + b + c)) top != 0) < 256 := setF_lt _ _ _ (by omega)
  go_wp2_with fail
  rw [E.out]
  rw [E.out] at hr hB
  refine (sign_any u _ cnt mask top x _ hB hr hm ht hx2).mono ?_
  rintro e w1 ⟨rfl, rfl⟩
  go_wp2_with fail
  go_ret
  refine ⟨ret1 (by rw [HX.out]), ?_⟩
  rw [setCell_twice, setCell_twice]
  unfold addF
  rw [HX.out, E2.out, bne0, show decide ((mask : Int) < a + b + c) = decide (mask < a + b + c) from decide_eq_decide.2 (by omega)]





theorem addDigits2_any (g : Nat) (cor : Nat → Nat × Nat) (eg : ∀ args w, (callFunc g args).run Tryz.prog w = .ok (.enter g args) w)
    (hg : ∀ (s : Nat) (w : World), s < 32 → Calls Tryz.prog g #[.int .u16 s] w fun e w' => e = .returned (.tuple #[.int .u16 ((cor s).1 : Nat), .int .u16 ((cor s).2 : Nat)]) ∧ w = w')
    (u p mask top a b x : Nat) (w : World) (h : Uni w u p 2 mask top) (hp : p < 256) (hm : mask < 65536) (ht : top < 65536) (ha : a < 65536) (hb : b < 65536)
    (c0 a0 a1 a2 a3 b0 b1 b2 b3 s0 r0 c1 s1 r1 c2 : Nat) (hc : p % 2 = c0) (ha0 : a % 16 = a0) (ha1 : a / 16 % 16 = a1) (ha2 : a / 256 % 16 = a2) (ha3 : a / 4096 % 16 = a3)
    (hb0 : b % 16 = b0) (hb1 : b / 16 % 16 = b1) (hb2 : b / 256 % 16 = b2) (hb3 : b / 4096 % 16 = b3) (t0 : a0 + b0 + c0 = s0) (t1 : a1 + b1 + c1 = s1) (k0 : cor s0 = (r0, c1)) (k1 : cor s1 = (r1, c2)) (hc1 : c1 < 2) (hr0 : r0 < 16) (hr1 : r1 < 16) (hx : r0 + 16 * r1 + 256 * a2 + 4096 * a3 = x) :
    Calls Tryz.prog 293 #[.pointer (some ⟨u, 0, none⟩), .int .u16 a, .int .u16 b, .func (.func g) #[] #[]] w fun e w' => e = .returned (.int .u16 (x &&& mask : Nat)) ∧ Uni w' u (signF (overF (setF p 1 (c2 != 0)) top a b (s1 &&& 8 != 0)) mask top x) 2 mask top ∧ Below u w w' := by
  have HG := Lib.hid hg
  have HC := Lib.hid hc
  have HX := Lib.hid hx
  have g0 : a0 < 16 := ha0 ▸ Nat.mod_lt _ (by decide)
  have e0 : b0 < 16 := hb0 ▸ Nat.mod_lt _ (by decide)
  have A0 := Lib.hid ha0
  have B0 := Lib.hid hb0
  have g1 : a1 < 16 := ha1 ▸ Nat.mod_lt _ (by decide)
  have e1 : b1 < 16 := hb1 ▸ Nat.mod_lt _ (by decide)
  have A1 := Lib.hid ha1
  have B1 := Lib.hid hb1
  have g2 : a2 < 16 := ha2 ▸ Nat.mod_lt _ (by decide)
  have e2 : b2 < 16 := hb2 ▸ Nat.mod_lt _ (by decide)
  have A2 := Lib.hid ha2
  have B2 := Lib.hid hb2
  have g3 : a3 < 16 := ha3 ▸ Nat.mod_lt _ (by decide)
  have e3 : b3 < 16 := hb3 ▸ Nat.mod_lt _ (by decide)
  have A3 := Lib.hid ha3
  have B3 := Lib.hid hb3
  have g4 : c0 < 2 := hc ▸ Nat.mod_lt _ (by decide)
  have K0 := Lib.hid k0
  have K1 := Lib.hid k1
  clear hg hc ha0 hb0 ha1 hb1 ha2 hb2 ha3 hb3 k0 k1
  have hx2 : x < 65536 := by omega
  clear hx
  have q0 : s0 < 32 := by omega
  have S0 := Lib.hid (show (a0 : Int) + b0 + c0 = s0 by omega)
  clear t0
  have q1 : s1 < 32 := by omega
  have S1 := Lib.hid (show (a1 : Int) + b1 + c1 = s1 by omega)
  clear t1
  go_enter Tryz.func293, Tryz.ntmps293
  go_wp2_with fail
  refine (apart_at a a0 a1 a2 a3 _ ha A0.out A1.out A2.out A3.out).mono ?_
  rintro e w1 ⟨rfl, hb1⟩
  go_wp2_with fail
  refine (apart_at b b0 b1 b2 b3 _ hb B0.out B1.out B2.out B3.out).mono ?_
  rintro e w2 ⟨rfl, hb2⟩
  have hul : u < w.heap.size := Whole.lt h
  have hU : Uni w2 u p 2 mask top := (h.below hb1 hul).below hb2 (by have := hb1.size; omega)
  have hbl : Below u w w2 := (hb1.mono (by omega)).trans (hb2.mono (by have := hb1.size; omega))
  go_wp2_with fail
  refine (carry_at u p 2 mask top c0 _ ((hU.alloc _).alloc _) hp HC.out).mono ?_
  rintro e w3 ⟨rfl, rfl⟩
  have d1 := hU.c1
  have hul2 : u < w2.heap.size := Whole.lt hU
  clear h hb1 hb2
  go_wp2_with fail
  refine wp_loop_rounds 3 ?_
  rw [rounds_succ]
  go_wp2_with fail
  go_quiet (fail)
  go_wp2_with fail
  rw [S0.out]
  refine (cor_at HG.out s0 r0 c1 _ q0 K0.out).mono ?_
  rintro e w' ⟨rfl, rfl⟩
  go_wp2_with fail
  rw [rounds_succ]
  go_wp2_with fail
  go_quiet (fail)
  go_wp2_with fail
  rw [S1.out]
  refine (cor_at HG.out s1 r1 c2 _ q1 K1.out).mono ?_
  rintro e w' ⟨rfl, rfl⟩
  go_wp2_with fail
  rw [rounds_succ]
  go_wp2_with fail
  refine calls_gen (fun W => Uni W u p 2 mask top ∧ Whole W w2.heap.size 277 #[.int .u16 r0, .int .u16 r1, .int .u16 a2, .int .u16 a3] ∧ Below u w W) ⟨(Whole.away (Whole.drewN (Whole.away (Whole.drewN ((hU.alloc _).alloc _) _) (Nat.ne_of_lt hul2) _) _) (Nat.ne_of_lt hul2) _), Whole.as ((((((Whole.fresh w2 277 _).alloc _).drewN _).put 0 _).drewN _).put 1 _) (by simp), ((below_drewN ((below_drewN ((hbl.alloc (Nat.le_of_lt hul2) _).alloc (by simp; omega) _) _).setCell (Nat.le_of_lt hul2) _) _).setCell (Nat.le_of_lt hul2) _)⟩ ?_
  rintro W ⟨hUW, hL, hBW⟩
  clear hU d1 hbl
  have X := Lib.hid (bne0 c2)
  rw [X.out]
  refine (set_any u p 2 mask top 1 _ _ hUW hp (by omega)).mono ?_
  rintro e w3 ⟨rfl, rfl⟩
  have hA := hUW.set (setF p 1 (c2 != 0))
  have rA : setF p 1 (c2 != 0) < 256 := setF_lt _ _ _ (by omega)
  have X2 := Lib.hid (and8 s1 (by omega))
  go_wp2_with fail
  rw [X2.out]
  refine (overflow_any u _ 2 mask top a b _ _ hA rA ht ha hb).mono ?_
  rintro e w3 ⟨rfl, rfl⟩
  have hl0 := hL.cell 0
  have hl1 := hL.cell 1
  have hl2 := hL.cell 2
  have hl3 := hL.cell 3
  have hB := hA.set (overF (setF p 1 (c2 != 0)) top a b (s1 &&& 8 != 0))
  have rB : overF (setF p 1 (c2 != 0)) top a b (s1 &&& 8 != 0) < 256 := setF_lt _ _ _ (by omega)
  have bB := (hBW.setCell (p := ⟨u, 0, none⟩) (Nat.le_refl u) (.int .u8 (setF p 1 (c2 != 0) : Nat))).setCell (p := ⟨u, 0, none⟩) (Nat.le_refl u) (.int .u8 (overF (setF p 1 (c2 != 0)) top a b (s1 &&& 8 != 0) : Nat))
  go_wp2_with fail
  refine (together_at r0 r1 a2 a3 x _ (by omega) (by omega) (by omega) (by omega) HX.out).mono ?_
  rintro e w4 ⟨rfl, hb4⟩
  have hC := hB.below hb4 hB.lt
  have bC := bB.trans (hb4.mono (Nat.le_of_lt hB.lt))
  clear hA hB bB hb4 hl0 hl1 hl2 hl3 hL hUW hBW
  go_wp2_with fail
  refine (sign_any u _ 2 mask top x _ hC rB hm ht hx2).mono ?_
  rintro e w5 ⟨rfl, rfl⟩
  go_wp2_with fail
  go_ret
  exact ⟨rfl, hC.set _, bC.setCell (p := ⟨u, 0, none⟩) (Nat.le_refl u) _⟩

theorem addDigits4_any (g : Nat) (cor : Nat → Nat × Nat) (eg : ∀ args w, (callFunc g args).run Tryz.prog w = .ok (.enter g args) w)
    (hg : ∀ (s : Nat) (w : World), s < 32 → Calls Tryz.prog g #[.int .u16 s] w fun e w' => e = .returned (.tuple #[.int .u16 ((cor s).1 : Nat), .int .u16 ((cor s).2 : Nat)]) ∧ w = w')
    (u p mask top a b x : Nat) (w : World) (h : Uni w u p 4 mask top) (hp : p < 256) (hm : mask < 65536) (ht : top < 65536) (ha : a < 65536) (hb : b < 65536)
    (c0 a0 a1 a2 a3 b0 b1 b2 b3 s0 r0 c1 s1 r1 c2 s2 r2 c3 s3 r3 c4 : Nat) (hc : p % 2 = c0) (ha0 : a % 16 = a0) (ha1 : a / 16 % 16 = a1) (ha2 : a / 256 % 16 = a2) (ha3 : a / 4096 % 16 = a3)
    (hb0 : b % 16 = b0) (hb1 : b / 16 % 16 = b1) (hb2 : b / 256 % 16 = b2) (hb3 : b / 4096 % 16 = b3) (t0 : a0 + b0 + c0 = s0) (t1 : a1 + b1 + c1 = s1) (t2 : a2 + b2 + c2 = s2) (t3 : a3 + b3 + c3 = s3) (k0 : cor s0 = (r0, c1)) (k1 : cor s1 = (r1, c2)) (k2 : cor s2 = (r2, c3)) (k3 : cor s3 = (r3, c4)) (hc1 : c1 < 2) (hr0 : r0 < 16) (hc2 : c2 < 2) (hr1 : r1 < 16) (hc3 : c3 < 2) (hr2 : r2 < 16) (hr3 : r3 < 16) (hx : r0 + 16 * r1 + 256 * r2 + 4096 * r3 = x) :
    Calls Tryz.prog 293 #[.pointer (some ⟨u, 0, none⟩), .int .u16 a, .int .u16 b, .func (.func g) #[] #[]] w fun e w' => e = .returned (.int .u16 (x &&& mask : Nat)) ∧ Uni w' u (signF (overF (setF p 1 (c4 != 0)) top a b (s3 &&& 8 != 0)) mask top x) 4 mask top ∧ Below u w w' := by
  have HG := Lib.hid hg
  have HC := Lib.hid hc
  have HX := Lib.hid hx
  have g0 : a0 < 16 := ha0 ▸ Nat.mod_lt _ (by decide)
  have e0 : b0 < 16 := hb0 ▸ Nat.mod_lt _ (by decide)
  have A0 := Lib.hid ha0
  have B0 := Lib.hid hb0
  have g1 : a1 < 16 := ha1 ▸ Nat.mod_lt _ (by decide)
  have e1 : b1 < 16 := hb1 ▸ Nat.mod_lt _ (by decide)
  have A1 := Lib.hid ha1
  have B1 := Lib.hid hb1
  have g2 : a2 < 16 := ha2 ▸ Nat.mod_lt _ (by decide)
  have e2 : b2 < 16 := hb2 ▸ Nat.mod_lt _ (by decide)
  have A2 := Lib.hid ha2
  have B2 := Lib.hid hb2
  have g3 : a3 < 16 := ha3 ▸ Nat.mod_lt _ (by decide)
  have e3 : b3 < 16 := hb3 ▸ Nat.mod_lt _ (by decide)
  have A3 := Lib.hid ha3
  have B3 := Lib.hid hb3
  have g4 : c0 < 2 := hc ▸ Nat.mod_lt _ (by decide)
  have K0 := Lib.hid k0
  have K1 := Lib.hid k1
  have K2 := Lib.hid k2
  have K3 := Lib.hid k3
  clear hg hc ha0 hb0 ha1 hb1 ha2 hb2 ha3 hb3 k0 k1 k2 k3
  have hx2 : x < 65536 := by omega
  clear hx
  have q0 : s0 < 32 := by omega
  have S0 := Lib.hid (show (a0 : Int) + b0 + c0 = s0 by omega)
  clear t0
  have q1 : s1 < 32 := by omega
  have S1 := Lib.hid (show (a1 : Int) + b1 + c1 = s1 by omega)
  clear t1
  have q2 : s2 < 32 := by omega
  have S2 := Lib.hid (show (a2 : Int) + b2 + c2 = s2 by omega)
  clear t2
  have q3 : s3 < 32 := by omega
  have S3 := Lib.hid (show (a3 : Int) + b3 + c3 = s3 by omega)
  clear t3
  go_enter Tryz.func293, Tryz.ntmps293
  go_wp2_with fail
  refine (apart_at a a0 a1 a2 a3 _ ha A0.out A1.out A2.out A3.out).mono ?_
  rintro e w1 ⟨rfl, hb1⟩
  go_wp2_with fail
  refine (apart_at b b0 b1 b2 b3 _ hb B0.out B1.out B2.out B3.out).mono ?_
  rintro e w2 ⟨rfl, hb2⟩
  have hul : u < w.heap.size := Whole.lt h
  have hU : Uni w2 u p 4 mask top := (h.below hb1 hul).below hb2 (by have := hb1.size; omega)
  have hbl : Below u w w2 := (hb1.mono (by omega)).trans (hb2.mono (by have := hb1.size; omega))
  go_wp2_with fail
  refine (carry_at u p 4 mask top c0 _ ((hU.alloc _).alloc _) hp HC.out).mono ?_
  rintro e w3 ⟨rfl, rfl⟩
  have d1 := hU.c1
  have hul2 : u < w2.heap.size := Whole.lt hU
  clear h hb1 hb2
  go_wp2_with fail
  refine wp_loop_rounds 5 ?_
  rw [rounds_succ]
  go_wp2_with fail
  go_quiet (fail)
  go_wp2_with fail
  rw [S0.out]
  refine (cor_at HG.out s0 r0 c1 _ q0 K0.out).mono ?_
  rintro e w' ⟨rfl, rfl⟩
  go_wp2_with fail
  rw [rounds_succ]
  go_wp2_with fail
  go_quiet (fail)
  go_wp2_with fail
  rw [S1.out]
  refine (cor_at HG.out s1 r1 c2 _ q1 K1.out).mono ?_
  rintro e w' ⟨rfl, rfl⟩
  go_wp2_with fail
  rw [rounds_succ]
  go_wp2_with fail
  go_quiet (fail)
  go_wp2_with fail
  rw [S2.out]
  refine (cor_at HG.out s2 r2 c3 _ q2 K2.out).mono ?_
  rintro e w' ⟨rfl, rfl⟩
  go_wp2_with fail
  rw [rounds_succ]
  go_wp2_with fail
  go_quiet (fail)
  go_wp2_with fail
  rw [S3.out]
  refine (cor_at HG.out s3 r3 c4 _ q3 K3.out).mono ?_
  rintro e w' ⟨rfl, rfl⟩
  go_wp2_with fail
  rw [rounds_succ]
  go_wp2_with fail
  refine calls_gen (fun W => Uni W u p 4 mask top ∧ Whole W w2.heap.size 277 #[.int .u16 r0, .int .u16 r1, .int .u16 r2, .int .u16 r3] ∧ Below u w W) ⟨(Whole.away (Whole.drewN (Whole.away (Whole.drewN (Whole.away (Whole.drewN (Whole.away (Whole.drewN ((hU.alloc _).alloc _) _) (Nat.ne_of_lt hul2) _) _) (Nat.ne_of_lt hul2) _) _) (Nat.ne_of_lt hul2) _) _) (Nat.ne_of_lt hul2) _), Whole.as ((((((((((Whole.fresh w2 277 _).alloc _).drewN _).put 0 _).drewN _).put 1 _).drewN _).put 2 _).drewN _).put 3 _) (by simp), ((below_drewN ((below_drewN ((below_drewN ((below_drewN ((hbl.alloc (Nat.le_of_lt hul2) _).alloc (by simp; omega) _) _).setCell (Nat.le_of_lt hul2) _) _).setCell (Nat.le_of_lt hul2) _) _).setCell (Nat.le_of_lt hul2) _) _).setCell (Nat.le_of_lt hul2) _)⟩ ?_
  rintro W ⟨hUW, hL, hBW⟩
  clear hU d1 hbl
  have X := Lib.hid (bne0 c4)
  rw [X.out]
  refine (set_any u p 4 mask top 1 _ _ hUW hp (by omega)).mono ?_
  rintro e w3 ⟨rfl, rfl⟩
  have hA := hUW.set (setF p 1 (c4 != 0))
  have rA : setF p 1 (c4 != 0) < 256 := setF_lt _ _ _ (by omega)
  have X2 := Lib.hid (and8 s3 (by omega))
  go_wp2_with fail
  rw [X2.out]
  refine (overflow_any u _ 4 mask top a b _ _ hA rA ht ha hb).mono ?_
  rintro e w3 ⟨rfl, rfl⟩
  have hl0 := hL.cell 0
  have hl1 := hL.cell 1
  have hl2 := hL.cell 2
  have hl3 := hL.cell 3
  have hB := hA.set (overF (setF p 1 (c4 != 0)) top a b (s3 &&& 8 != 0))
  have rB : overF (setF p 1 (c4 != 0)) top a b (s3 &&& 8 != 0) < 256 := setF_lt _ _ _ (by omega)
  have bB := (hBW.setCell (p := ⟨u, 0, none⟩) (Nat.le_refl u) (.int .u8 (setF p 1 (c4 != 0) : Nat))).setCell (p := ⟨u, 0, none⟩) (Nat.le_refl u) (.int .u8 (overF (setF p 1 (c4 != 0)) top a b (s3 &&& 8 != 0) : Nat))
  go_wp2_with fail
  refine (together_at r0 r1 r2 r3 x _ (by omega) (by omega) (by omega) (by omega) HX.out).mono ?_
  rintro e w4 ⟨rfl, hb4⟩
  have hC := hB.below hb4 hB.lt
  have bC := bB.trans (hb4.mono (Nat.le_of_lt hB.lt))
  clear hA hB bB hb4 hl0 hl1 hl2 hl3 hL hUW hBW
  go_wp2_with fail
  refine (sign_any u _ 4 mask top x _ hC rB hm ht hx2).mono ?_
  rintro e w5 ⟨rfl, rfl⟩
  go_wp2_with fail
  go_ret
  exact ⟨rfl, hC.set _, bC.setCell (p := ⟨u, 0, none⟩) (Nat.le_refl u) _⟩
end Go.Proofs.YtnacdaodjgdnnaaGreat.Au
namespace Go.Proofs.YtnacdaodjgdnnaaGreat.Au
open Go.RowKit Go.Shelf
theorem then_exit {K : Act → World → Prop} {Q : Exit → Act → World → Prop} {i : Nat} {a : Act} {w : World} (h : Q (.exit i) a w) : Exit.then K Q (.exit i) a w := h
theorem block_hit {Q : Exit → Act → World → Prop} {i : Nat} {a : Act} {w : World} (h : Q .normal a w) : Exit.inBlock i Q (.exit i) a w := by
  simp only [Exit.inBlock, if_true]
  exact h
theorem block_miss {Q : Exit → Act → World → Prop} {i j : Nat} {a : Act} {w : World} (hj : (j == i) = false) (h : Q (.exit j) a w) : Exit.inBlock i Q (.exit j) a w := by
  have : ¬ j = i := by simpa using hj
  simp only [Exit.inBlock, this, if_false]
  exact h
theorem Uni.drewN {w : World} {u p cnt mask top : Nat} (h : Uni w u p cnt mask top) (n : Nat) : Uni (w.drewN n) u p cnt mask top := h
theorem low_bit (a : Nat) (ha : a < 65536) : (bits .and .u16 (a : Int) 1 != 0) = (a % 2 == 1) := by
  rw [show (1 : Int) = ((1 : Nat) : Int) from rfl, u16_and_nat a 1 ha (by omega), nat_mask1, bne0]
  rcases Nat.mod_two_eq_zero_or_one a with h | h <;> rw [h] <;> rfl
end Go.Proofs.YtnacdaodjgdnnaaGreat.Au
