/-
  alu's digits: apart, together, what corrects a digit, how many there are.
-/
import Derived.Test.YtnjbgnkbncjnlaaFlags
import Derived.LoopN
import Derived.BigQuiet
import Derived.Deep.QuietTactic
namespace Go.Proofs.Ytnjbgnkbncjnlaa
open Go.RowKit Go.Shelf
set_option maxRecDepth 100000
set_option maxHeartbeats 1000000

theorem ret1 {k : IntKind} {a b : Int} (h : a = b) : Ending.returned (.int k a) = .returned (.int k b) := by rw [h]
theorem ret2 {k l : IntKind} {a b c d : Int} (h : a = b) (h' : c = d) : Ending.returned (.tuple #[.int k a, .int l c]) = .returned (.tuple #[.int k b, .int l d]) := by rw [h, h']
theorem and15 (n : Nat) (h : n < 65536) : bits .and .u16 (n : Int) 15 = (n % 16 : Nat) := by
  rw [show (15 : Int) = ((15 : Nat) : Int) from rfl, u16_and_nat _ _ h (by omega), nat_mask4]
theorem count_any (wide : Bool) (w : World) : Calls Try.prog 31 #[.bool wide] w fun e w' => e = .returned (.int .i64 (if wide then 4 else 2)) ∧ w = w' := by
  cases wide
  · go_enter Try.func31, Try.ntmps31
    go_wp2
    go_ret
    exact ⟨rfl, rfl⟩
  · go_enter Try.func31, Try.ntmps31
    go_wp2
    go_ret
    exact ⟨rfl, rfl⟩
/-- A digit of a sum, and what is carried. -/
def corS (s : Nat) : Nat × Nat := if 9 < s then ((s + 6) % 16, 1) else (s, 0)
def corD (s : Nat) : Nat × Nat := if 15 < s then (s % 16, 1) else ((s + 10) % 16, 0)
theorem corS_any (s : Nat) (w : World) (hs : s < 32) : Calls Try.prog 38 #[.int .u16 s] w fun e w' => e = .returned (.tuple #[.int .u16 ((corS s).1 : Nat), .int .u16 ((corS s).2 : Nat)]) ∧ w = w' := by
  by_cases h : (9 : Int) < s
  · have H : Hid (bits BinOp.and IntKind.u16 (↑s + 6) 15 = ((s + 6) % 16 : Nat)) := Lib.hid (by
      rw [show (s : Int) + 6 = ((s + 6 : Nat) : Int) from by omega, and15 _ (by omega)])
    go_enter Try.func38, Try.ntmps38
    go_wp2
    go_ret2
    rw [show corS s = ((s + 6) % 16, 1) from if_pos (by omega)]
    exact ⟨ret2 H.out rfl, rfl⟩
  · go_enter Try.func38, Try.ntmps38
    go_wp2
    go_ret2
    rw [show corS s = (s, 0) from if_neg (by omega)]
    exact ⟨rfl, rfl⟩
theorem corD_any (s : Nat) (w : World) (hs : s < 32) : Calls Try.prog 40 #[.int .u16 s] w fun e w' => e = .returned (.tuple #[.int .u16 ((corD s).1 : Nat), .int .u16 ((corD s).2 : Nat)]) ∧ w = w' := by
  by_cases h : (15 : Int) < s
  · go_enter Try.func40, Try.ntmps40
    go_wp2
    go_ret2
    rw [show corD s = (s % 16, 1) from if_pos (by omega)]
    exact ⟨ret2 (and15 s (by omega)) rfl, rfl⟩
  · go_enter Try.func40, Try.ntmps40
    go_wp2
    go_ret2
    rw [show corD s = ((s + 10) % 16, 0) from if_neg (by omega)]
    refine ⟨ret2 ?_ rfl, rfl⟩
    rw [IntKind.wrap_u16, show ((s : Int) - 6) % 65536 = (((s + 65530) % 65536 : Nat) : Int) from by omega, and15 _ (by omega)]
    congr 1
    omega
theorem apart_any (x : Nat) (w : World) (hx : x < 65536) :
    Calls Try.prog 32 #[.int .u16 x] w fun e w' => e = .returned (.agg #[.int .u16 (x % 16 : Nat), .int .u16 (x / 16 % 16 : Nat), .int .u16 (x / 256 % 16 : Nat), .int .u16 (x / 4096 % 16 : Nat)]) ∧ Below w.heap.size w w' := by
  go_enter Try.func32, Try.ntmps32
  go_wp2
  refine wp_loop_rounds 5 ?_
  rw [rounds_succ]
  go_wp2
  rw [rounds_succ]
  go_wp2
  rw [rounds_succ]
  go_wp2
  rw [rounds_succ]
  go_wp2
  rw [rounds_succ]
  go_wp2
  refine bodyPost_ret (v := .agg #[.int .u16 (bits .and .u16 (x : Int) 15), .int .u16 (bits .and .u16 ((x : Int) / 16) 15), .int .u16 (bits .and .u16 ((x : Int) / 256) 15), .int .u16 (bits .and .u16 ((x : Int) / 4096) 15)]) (by simp [results, Try.results32, go_sem]) rfl ⟨?_, ?_⟩
  · rw [show (x : Int) / 16 = ((x / 16 : Nat) : Int) from by omega, show (x : Int) / 256 = ((x / 256 : Nat) : Int) from by omega, show (x : Int) / 4096 = ((x / 4096 : Nat) : Int) from by omega,
      and15 x hx, and15 (x / 16) (by omega), and15 (x / 256) (by omega), and15 (x / 4096) (by omega)]
  · exact ((Below.refl _ _).alloc (Nat.le_refl _) _).alloc (by simp) _
theorem orJ (i x t m : Nat) (hm : m = 2 ^ i) (hx : x < m) (h : x + m * t < 65536) : bits .or .u16 (x : Int) ((t : Int) * m) = (x + m * t : Nat) := by
  have e : (t : Int) * m = ((m * t : Nat) : Int) := by rw [Int.natCast_mul, Int.mul_comm]
  rw [e, u16_or_nat x (m * t) (by omega) (by omega), Nat.or_comm, nat_join i (m * t) x (by rw [hm]; exact Nat.mul_mod_right _ _) (by omega), Nat.add_comm]
theorem together_any (a b c d : Nat) (w : World) (ha : a < 16) (hb : b < 16) (hc : c < 16) (hd : d < 16) :
    Calls Try.prog 33 #[.agg #[.int .u16 a, .int .u16 b, .int .u16 c, .int .u16 d]] w fun e w' => e = .returned (.int .u16 (a + 16 * b + 256 * c + 4096 * d : Nat)) ∧ Below w.heap.size w w' := by
  go_enter Try.func33, Try.ntmps33
  go_wp2
  refine wp_loop_rounds 5 ?_
  rw [rounds_succ]
  go_wp2
  rw [rounds_succ]
  go_wp2
  rw [rounds_succ]
  go_wp2
  rw [rounds_succ]
  go_wp2
  rw [rounds_succ]
  go_wp2
  go_ret
  refine ⟨ret1 ?_, (Below.refl _ _).alloc (Nat.le_refl _) _⟩
  have e0 : bits .or .u16 0 (a : Int) = (a : Nat) := by
    rw [show (0 : Int) = ((0 : Nat) : Int) from rfl, u16_or_nat 0 a (by omega) (by omega), Nat.zero_or]
  have e1 := orJ 4 a b 16 rfl (by omega) (by omega)
  have e2 := orJ 8 (a + 16 * b) c 256 rfl (by omega) (by omega)
  have e3 := orJ 12 (a + 16 * b + 256 * c) d 4096 rfl (by omega) (by omega)
  exact (by rw [e0, show (16 : Int) = ((16 : Nat) : Int) from rfl, e1, show (256 : Int) = ((256 : Nat) : Int) from rfl, e2, show (4096 : Int) = ((4096 : Nat) : Int) from rfl, e3] :
    bits .or .u16 (bits .or .u16 (bits .or .u16 (bits .or .u16 0 (a : Int)) ((b : Int) * 16)) ((c : Int) * 256)) ((d : Int) * 4096) = _)
end Go.Proofs.Ytnjbgnkbncjnlaa
