/-
  NewWriter; a body that is known to be written.
-/
import Derived.Test.YtacnmnodbmbplaaNewR
import Derived.BigQuiet
namespace Go.Proofs.Ytacnmnodbmbplaa
open Go.RowKit Go.Shelf
set_option maxRecDepth 100000
set_option maxHeartbeats 1000000

def St.new : St := ⟨0, fun _ => 0, fun _ => 0, 0, 0⟩
/-- A writer of its own, made since w. -/
structure Live (B : Nat) (w W : World) (b : Nat) (v : Value) (s : St) : Prop where
  wr : Wr W b v s
  lb : B ≤ b
  lv : ∀ x, v.ownBlock = some x → B ≤ x
  bel : Below B w W
  le : B ≤ w.heap.size
theorem Live.step {B : Nat} {w W W' : World} {b : Nat} {v v' : Value} {s s' : St} (h : Live B w W b v s) (h1 : Wr W' b v' s') (h2 : Only2 b v.ownBlock W W') (h3 : NewOwn v v' W) : Live B w W' b v' s' :=
  ⟨h1, h.lb, fun x hx => by
    rcases h3 with h3 | h3
    · exact h.lv x (by rw [← h3]; exact hx)
    · exact Nat.le_trans (Nat.le_trans h.le h.bel.size) (h3 x hx), Only2.below h.bel h2 h.lb h.lv (Nat.le_trans h.le h.bel.size), h.le⟩
theorem Live.below {B : Nat} {w W W' : World} {b : Nat} {v : Value} {s : St} (h : Live B w W b v s) (hb : Below W.heap.size W W') : Live B w W' b v s :=
  ⟨h.wr.below hb, h.lb, h.lv, h.bel.trans (hb.mono (Nat.le_trans h.le h.bel.size)), h.le⟩
theorem newWriter (B : Nat) (w W : World) (hB : Below B w W) (hl : B ≤ w.heap.size) : Calls Try.prog 8 #[] W fun e W' => ∃ b, e = .returned (.pointer (some ⟨b, 0, none⟩)) ∧ Live B w W' b (.slice none 0 0) St.new := by
  have hW := Whole.fresh W 67 #[.slice none 0 0, .int .i64 0, .int .i64 0, .int .i64 0, .int .i64 0, .int .i64 0, .int .i64 0, .int .i64 0, .int .i64 0, .int .i64 0, .int .i64 0, .int .i64 0, .int .i64 0, .int .i64 0, .int .i64 0, .int .i64 0, .int .i64 0, .int .i64 0, .int .i64 0]
  have hB2 := hB.alloc (Nat.le_trans hl hB.size) (.cells #[.slice none 0 0, .int .i64 0, .int .i64 0, .int .i64 0, .int .i64 0, .int .i64 0, .int .i64 0, .int .i64 0, .int .i64 0, .int .i64 0, .int .i64 0, .int .i64 0, .int .i64 0, .int .i64 0, .int .i64 0, .int .i64 0, .int .i64 0, .int .i64 0, .int .i64 0] 67)
  have hfin : Live B w _ W.heap.size (.slice none 0 0) St.new := ⟨⟨⟨⟨_, hW, rfl, rfl, fun i hi => by
    rcases (show i = 0 ∨ i = 1 ∨ i = 2 ∨ i = 3 ∨ i = 4 ∨ i = 5 ∨ i = 6 ∨ i = 7 ∨ i = 8 ∨ i = 9 ∨ i = 10 ∨ i = 11 ∨ i = 12 ∨ i = 13 ∨ i = 14 ∨ i = 15 by omega) with rfl | rfl | rfl | rfl | rfl | rfl | rfl | rfl | rfl | rfl | rfl | rfl | rfl | rfl | rfl | rfl <;> rfl, rfl, rfl⟩⟩, Owns.none _ _, by simp [Value.ownBlock], ⟨Nat.zero_le _, Nat.zero_le _, fun i hi => absurd hi (Nat.not_lt_zero _)⟩⟩, Nat.le_trans hl hB.size, fun x hx => by simp [Value.ownBlock] at hx, hB2, hl⟩
  clear hW hB2
  replace hfin := Lib.hid hfin
  go_enter Try.func8, Try.ntmps8
  go_wp2_with fail
  go_ret
  exact ⟨_, rfl, hfin.out⟩
def St.sm : St :=
  let s1 := St.new.when (St.new.putW 1 (byteAt 7))
  let s2 := s1.when (s1.openW 9)
  let s3 := s2.when (s2.putW 2 (byteAt 258))
  s3.when s3.closeW
theorem sm_n : St.sm.n = 8 := by decide +kernel
theorem sm_e : St.sm.doneE = 0 := by decide +kernel
theorem sm_f : headF 8 St.sm.f 13 = 7 ∧ headF 8 St.sm.f 14 = 9 ∧ headF 8 St.sm.f 15 = 2 ∧ headF 8 St.sm.f 19 = 2 ∧ headF 8 St.sm.f 20 = 1 := by decide +kernel
theorem small_any (W : World) : Calls Try.prog 26 #[] W fun e W' => ∃ G, e = .returned (.tuple #[.slice (some ⟨G, 0, none⟩) 21 21, .bool true]) ∧ Holds W' G 21 (headF 8 St.sm.f) ∧ W.heap.size ≤ G ∧ Below W.heap.size W W' := by
  have HN := Lib.hid (newWriter W.heap.size W W (Below.refl _ _) (Nat.le_refl _))
  go_enter Try.func26, Try.ntmps26
  go_wp2_with fail
  refine HN.out.mono ?_
  rintro e W0 ⟨b, rfl, hL0⟩
  clear HN
  go_wp2_with fail
  refine (mbyte (x := 7) _ hL0.wr (by decide)).mono ?_
  rintro e W1 ⟨rfl, v1, h1, h2, h3⟩
  have hL1 := hL0.step h1 h2 h3
  clear h1 h2 h3 hL0
  go_wp2_with fail
  refine (mopen (x := 9) _ hL1.wr (by decide)).mono ?_
  rintro e W2 ⟨rfl, v2, h1, h2, h3⟩
  have hL2 := hL1.step h1 h2 h3
  clear h1 h2 h3 hL1
  go_wp2_with fail
  refine (mword (x := 258) _ hL2.wr (by decide)).mono ?_
  rintro e W3 ⟨rfl, v3, h1, h2, h3⟩
  have hL3 := hL2.step h1 h2 h3
  clear h1 h2 h3 hL2
  go_wp2_with fail
  refine (mclose _ hL3.wr).mono ?_
  rintro e W4 ⟨rfl, v4, h1, h2, h3⟩
  have hL4 : Live W.heap.size W W4 b v4 St.sm := hL3.step h1 h2 h3
  clear h1 h2 h3 hL3
  have HD := wdone_ok W4 hL4.wr sm_e
  rw [sm_n] at HD
  replace HD := Lib.hid HD
  have hB4 := hL4.bel
  clear hL4
  go_wp2_with fail
  refine HD.out.mono ?_
  rintro e W5 ⟨G, rfl, hH, hG, hB5⟩
  have hB6 := hB4.trans (hB5.mono hB4.size)
  have hGl : W.heap.size ≤ G := Nat.le_trans hB4.size hG
  have k13 : W5.cell? ⟨G, 13, none⟩ = some (.int .u8 7) := by rw [hH.cell 13 (by decide), sm_f.1]; rfl
  have k14 : W5.cell? ⟨G, 14, none⟩ = some (.int .u8 9) := by rw [hH.cell 14 (by decide), sm_f.2.1]; rfl
  have k15 : W5.cell? ⟨G, 15, none⟩ = some (.int .u8 2) := by rw [hH.cell 15 (by decide), sm_f.2.2.1]; rfl
  have k19 : W5.cell? ⟨G, 19, none⟩ = some (.int .u8 2) := by rw [hH.cell 19 (by decide), sm_f.2.2.2.1]; rfl
  have k20 : W5.cell? ⟨G, 20, none⟩ = some (.int .u8 1) := by rw [hH.cell 20 (by decide), sm_f.2.2.2.2]; rfl
  clear HD hB4 hB5 hG
  have hH2 : Holds W5 G 21 (headF 8 St.sm.f) := hH
  replace hH2 := Lib.hid hH2
  clear hH
  go_upto_region 7 with (fail)
  go_quiet (fail)
  go_wp2_with fail
  go_ret2
  exact ⟨G, rfl, hH2.out.drewN _, hGl, below_drewN hB6 _⟩
end Go.Proofs.Ytacnmnodbmbplaa
