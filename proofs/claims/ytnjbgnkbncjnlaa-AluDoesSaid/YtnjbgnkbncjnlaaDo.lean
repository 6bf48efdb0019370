/-
  alu.Do: from the unit's answer.
-/
import Derived.Test.YtnjbgnkbncjnlaaAnsSum
namespace Go.Proofs.Ytnjbgnkbncjnlaa
open Go.RowKit Go.Shelf
set_option maxRecDepth 100000
set_option maxHeartbeats 1000000
def msk (wide : Bool) : Nat := if wide then 65535 else 255
def tp (wide : Bool) : Nat := if wide then 32768 else 128
def cn (wide : Bool) : Nat := if wide then 4 else 2
theorem unitOf_any (p : Nat) (wide : Bool) (w : World) :
    Calls Try.prog 28 #[.int .u8 p, .bool wide] w fun e w' => e = .returned (.agg #[.int .u8 p, .int .i64 (cn wide : Nat), .int .u16 (msk wide : Nat), .int .u16 (tp wide : Nat)]) ∧ Below w.heap.size w w' := by
  cases wide
  · go_enter Try.func28, Try.ntmps28
    go_wp2_with fail
    refine (count_any false _).mono ?_
    rintro e w1 ⟨rfl, rfl⟩
    go_wp2_with fail
    exact bodyPost_ret (v := .agg #[.int .u8 p, .int .i64 2, .int .u16 255, .int .u16 128]) (by simp [results, Try.results28, go_sem]) rfl ⟨rfl, (Below.refl _ _).alloc (Nat.le_refl _) _⟩
  · go_enter Try.func28, Try.ntmps28
    go_wp2_with fail
    refine (count_any true _).mono ?_
    rintro e w1 ⟨rfl, rfl⟩
    go_wp2_with fail
    exact bodyPost_ret (v := .agg #[.int .u8 p, .int .i64 4, .int .u16 65535, .int .u16 32768]) (by simp [results, Try.results28, go_sem]) rfl ⟨rfl, (Below.refl _ _).alloc (Nat.le_refl _) _⟩
/-- What Do comes to, once the unit's answer is known. -/
theorem do_of (op a b x y p F X : Nat) (wide ok : Bool) (w : World) (ha : a < 65536) (hb : b < 65536) (hx : a &&& msk wide = x) (hy : b &&& msk wide = y)
    (hans : ∀ (u : Nat) (w : World), Uni w u p (cn wide) (msk wide) (tp wide) → Calls Try.prog 29 #[.pointer (some ⟨u, 0, none⟩), .int .u8 op, .int .u16 x, .int .u16 y] w (Ans u (cn wide) (msk wide) (tp wide) X F ok w)) :
    Calls Try.prog 10 #[.int .u8 op, .int .u16 a, .int .u16 b, .int .u8 p, .bool wide] w fun e w' => e = .returned (.tuple #[.int .u16 (if ok then X else 0 : Nat), .int .u8 (if ok then F else 0 : Nat), .bool ok]) ∧ Below w.heap.size w w' := by
  obtain ⟨m, hm⟩ : ∃ m, msk wide = m := ⟨_, rfl⟩
  obtain ⟨t, ht⟩ : ∃ t, tp wide = t := ⟨_, rfl⟩
  obtain ⟨n, hn⟩ : ∃ n, cn wide = n := ⟨_, rfl⟩
  have hm2 : m < 65536 := by rw [← hm]; unfold msk; cases wide <;> decide
  rw [hm] at hx hy
  have E1 := Lib.hid (show bits .and .u16 (a : Int) m = (x : Nat) by rw [← hx]; exact u16_and_nat a m ha hm2)
  have E2 := Lib.hid (show bits .and .u16 (b : Int) m = (y : Nat) by rw [← hy]; exact u16_and_nat b m hb hm2)
  have HU := Lib.hid (unitOf_any p wide)
  rw [hm, ht, hn] at hans HU
  have HA := Lib.hid hans
  clear hans hx hy hm ht hn
  cases ok
  all_goals
    go_enter Try.func10, Try.ntmps10
    go_wp2_with fail
    refine (HU.out _).mono ?_
    rintro e w1 ⟨rfl, hb1⟩
    go_wp2_with fail
    rw [E1.out, E2.out]
    refine (HA.out w1.heap.size _ (Whole.fresh w1 48 _)).mono ?_
    intro e w2 hr
    obtain ⟨rfl, hU, hB⟩ := hr
    have hall := (hb1.alloc hb1.size (.cells #[.int .u8 p, .int .i64 n, .int .u16 m, .int .u16 t] 48)).trans (hB.mono hb1.size)
    have h0 := hU.c0
    clear hB hb1 hU
  · go_wp2_with fail
    go_ret3
    exact ⟨rfl, hall⟩
  · go_wp2_with fail
    go_quiet (fail)
    go_wp2_with fail
    go_ret3
    exact ⟨rfl, below_drewN hall _⟩
end Go.Proofs.Ytnjbgnkbncjnlaa
