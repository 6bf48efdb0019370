/-
  A walker's operand: by the stack and an index; of modes without one; all in one.
-/
import Derived.Test.YtkbieadebfpjdaaOpA
import Derived.Test.YtkbieadebfpjdaaOpB
import Derived.Test.YtkbieadebfpjdaaOpC
namespace Go.Proofs.Ytkbieadebfpjdaa
open Go.RowKit Go.Shelf
set_option maxRecDepth 100000
set_option maxHeartbeats 1000000
set_option linter.unusedVariables false

theorem readAt_any {W0 w : World} {B b n m : Nat} {s : Ws} (h : Wk W0 B b s w) (hm : m ≤ 3) (hl : s.l.length + m ≤ 100) (hn : n < 100000) :
    Calls Try.prog 28 #[.pointer (some ⟨b, 0, none⟩), .int .u8 0, .int .u32 (n : Nat), .int .u32 (m : Nat)] w fun e w' => e = .returned (.int .u32 ((numM (stack1M n) m s).1 : Nat)) ∧ Wk W0 B b (numM (stack1M n) m s).2 w' ∧ Keeps b w w' ∧ (numM (stack1M n) m s).1 < 256 ^ m := by
  have hmf := makeF
  have hW := ((h.alloc (.cells #[.pointer (some ⟨b, 0, none⟩)] 62)).alloc (.cells #[.int .u8 0] 5)).alloc (.cells #[.int .u32 (n : Nat)] 25)
  have hX := ((Whole.fresh w 62 #[.pointer (some ⟨b, 0, none⟩)]).alloc (.cells #[.int .u8 0] 5)).alloc (.cells #[.int .u32 (n : Nat)] 25)
  have hZ := (Whole.fresh (w.alloc (.cells #[.pointer (some ⟨b, 0, none⟩)] 62)) 5 #[.int .u8 0]).alloc (.cells #[.int .u32 (n : Nat)] 25)
  have hY := Whole.fresh ((w.alloc (.cells #[.pointer (some ⟨b, 0, none⟩)] 62)).alloc (.cells #[.int .u8 0] 5)) 25 #[.int .u32 (n : Nat)]
  simp only [World.size_alloc] at hY hZ
  have hK := (((Keeps.refl b w).alloc (.cells #[.pointer (some ⟨b, 0, none⟩)] 62)).alloc (.cells #[.int .u8 0] 5)).alloc (.cells #[.int .u32 (n : Nat)] 25)
  have hne : w.heap.size ≠ b := by have := h.lt; omega
  have hne2 : w.heap.size + 1 ≠ b := by have := h.lt; omega
  have hne3 : w.heap.size + 1 + 1 ≠ b := by have := h.lt; omega
  have HN := number_any (k := 35) (F := stack1M n) (caps := #[.pointer (some ⟨w.heap.size, 0, none⟩), .pointer (some ⟨w.heap.size + 1, 0, none⟩), .pointer (some ⟨w.heap.size + 1 + 1, 0, none⟩)]) (Q := fun W => Whole W w.heap.size 62 #[.pointer (some ⟨b, 0, none⟩)] ∧ Whole W (w.heap.size + 1) 5 #[.int .u8 0] ∧ Whole W (w.heap.size + 1 + 1) 25 #[.int .u32 (n : Nat)]) hm
    (fun i s w hi hW q hl => stack1_any hW q.1 q.2.1 q.2.2 hl hn (by omega)) (fun w w' q k => ⟨k _ _ _ hne (by decide) q.1, k _ _ _ hne2 (by decide) q.2.1, k _ _ _ hne3 (by decide) q.2.2⟩) (fun i => (Good.read _ : Good (stack1M n i) 1)) (enters_of Try.func35 (by kernel_rfl) rfl) hW ⟨hX, hZ, hY⟩ hl
  replace HN := Lib.hid HN
  replace hK := Lib.hid hK
  clear h hX hY hZ hW hl hm
  go_enter Try.func28, Try.ntmps28
  go_wp2_with fail
  refine HN.out.mono ?_
  rintro e w' ⟨rfl, h1, h2, h3⟩
  clear HN
  go_wp2_with fail
  go_ret
  exact ⟨rfl, h1, hK.out.trans h2, h3⟩
theorem op_22 {W0 w : World} {B b u : Nat} {s : Ws} (h : Wk W0 B b s w) (hl : s.l.length ≤ 90) (hu : u < 256) :
    Calls Try.prog 17 #[.pointer (some ⟨b, 0, none⟩), .int .u8 22, .int .u8 u] w fun e w' => e = .returned (plV (operandM 22 u s).1.1 (operandM 22 u s).1.2) ∧ Wk W0 B b (operandM 22 u s).2 w' ∧ Keeps b w w' := by
  rw [show operandM 22 u s = acrossM ((dataM (numM (stack1M (stackM s).1) 2 (stackM s).2).1 (idleM (numM (stack1M (stackM s).1) 2 (stackM s).2).2).2).1 + (dataM (numM (stack1M (stackM s).1) 2 (stackM s).2).1 (idleM (numM (stack1M (stackM s).1) 2 (stackM s).2).2).2).2.r.Y) (dataM (numM (stack1M (stackM s).1) 2 (stackM s).2).1 (idleM (numM (stack1M (stackM s).1) 2 (stackM s).2).2).2).2 by (unfold operandM; (repeat rw [if_neg (by decide)]); rw [if_pos rfl]; simp only [bindM, getM])]
  have hmf := makeF
  have hy := h.byt
  have A0 := at_start h
  obtain ⟨X, hX⟩ : ∃ X, s.r.X = X := ⟨_, rfl⟩
  obtain ⟨Y, hY⟩ : ∃ Y, s.r.Y = Y := ⟨_, rfl⟩
  have hYl : Y < 65536 := hY ▸ hy.ok.Y
  rw [hX, hY] at A0
  clear h
  have H1 := fun W (hA : At W0 B b (w.heap.size + 1) w.heap.size X Y w s W) => hA.stack (by omega)
  have b1 := stack_b s hy
  have c1 := Good.stack.cost s
  have fx1 := Fix.stack s
  generalize stackM s = p1 at *
  obtain ⟨v1, s1⟩ := p1
  obtain ⟨b1, y1⟩ := b1
  dsimp only at *
  rw [hX, hY] at fx1
  have H2 := fun W (hA : At W0 B b (w.heap.size + 1) w.heap.size X Y w s1 W) => readAt_any (m := 2) (n := v1) hA.wk (by decide) (by omega) (by omega)
  simp only [show ((2 : Nat) : Int) = 2 from rfl] at H2
  have b2 := stack1_b v1 2 s1 y1
  have c2 : (numM (stack1M v1) 2 s1).2.l.length ≤ s1.l.length + 2 * 1 := (Good.num (F := stack1M v1) (c := 1) (fun i => Good.read _) 2).cost s1
  have fx2 : (numM (stack1M v1) 2 s1).2.r.X = s1.r.X ∧ (numM (stack1M v1) 2 s1).2.r.Y = s1.r.Y := Fix.num (F := stack1M v1) (fun i => Fix.read _) 2 s1
  generalize numM (stack1M v1) 2 s1 = p2 at *
  obtain ⟨v2, s2⟩ := p2
  obtain ⟨b2, y2⟩ := b2
  dsimp only at *
  have hfx2 := fx2
  rw [fx1.1, fx1.2] at fx2
  have b2 : v2 < 65536 := by simpa using b2
  have H3 := fun W (hA : At W0 B b (w.heap.size + 1) w.heap.size X Y w s2 W) => hA.idle (by omega)
  have y3 := idle_b y2
  have fx3 := Fix.idle s2
  generalize (idleM s2).2 = s3 at *
  rw [fx2.1, fx2.2] at fx3
  have H4 := fun W (hA : At W0 B b (w.heap.size + 1) w.heap.size X Y w s3 W) => hA.data v2 (by omega)
  have b4 := data_b v2 s3 y3
  have fx4 := Fix.data v2 s3
  generalize dataM v2 s3 = p4 at *
  obtain ⟨v4, s4⟩ := p4
  obtain ⟨b4, y4⟩ := b4
  dsimp only at *
  rw [fx3.1, fx3.2] at fx4
  rw [fx4.2]
  obtain ⟨z, hz⟩ : ∃ z, v4 + Y = z := ⟨_, rfl⟩
  obtain ⟨e0, e1, e2, e3, e4⟩ := u32_sum hz (by omega) hYl
  rw [hz]
  have HP := fun W (hA : At W0 B b (w.heap.size + 1) w.heap.size X Y w s4 W) => hA.across z (by omega)
  rw [show acrossM z s4 = ((z % 16777216, false), s4) from rfl]
  dsimp only
  generalize z % 16777216 = d at *
  unfold plV at HP ⊢
  replace e4 := Lib.hid e4
  clear hz
  replace H1 := Lib.hid H1
  replace H2 := Lib.hid H2
  replace H3 := Lib.hid H3
  replace H4 := Lib.hid H4
  replace HP := Lib.hid HP
  replace hfx2 := Lib.hid hfx2
  clear c1 b1 y1 fx1 c2 b2 y2 fx2 y3 fx3 b4 y4 fx4 hy hl hYl hX hY
  replace hu := Lib.hid hu
  replace A0 := Lib.hid A0
  go_enter Try.func17, Try.ntmps17
  go_upto_region 31 with (fail)
  generalize w.alloc (.cells #[.int .u32 0, .bool false] 27) = W1 at *
  obtain ⟨l1, l2⟩ := A0.out.loads
  go_wp2_with fail
  refine (H1.out _ A0.out).mono ?_
  rintro e V1 ⟨rfl, A1⟩
  clear l1 l2
  have HN := Lib.hid (H2.out _ A1)
  have A1' := Lib.hid A1
  clear A1 H1 H2
  go_wp2_with fail
  refine HN.out.mono ?_
  rintro e V2 ⟨rfl, h1, h2, _⟩
  have A2 := A1'.out.step h1 h2 hfx2.out
  obtain ⟨l1, l2⟩ := A2.loads
  clear HN A1' h1 h2
  go_wp2_with fail
  refine (H3.out _ A2).mono ?_
  rintro e V3 ⟨rfl, A3⟩
  clear l1 l2 A2
  go_upto_region 34 with (fail)
  obtain ⟨l1, l2⟩ := A3.loads
  first
    | (go_region_held3 (fun W => W.cell? ⟨b, 1, none⟩ = some (.int .u16 X) ∧ W.cell? ⟨b, 2, none⟩ = some (.int .u16 Y))
        (first | exact A3.loads | exact A3.drew.loads | exact A4.loads | exact A5.loads | exact A5.stored _ _ | go_keep)
        (first
          | (go_at_call 22; (with_reducible refine (H4.out _ ?_).mono ?_); (repeat' (first | (with_reducible exact A3) | (with_reducible refine At.drew ?_) | (with_reducible refine At.drewN ?_ _))); rintro e V4 ⟨rfl, A4⟩)
          | (go_at_call 21; (with_reducible refine (HP.out _ ?_).mono ?_); (repeat' (first | (with_reducible exact A4) | (with_reducible refine At.drew ?_) | (with_reducible refine At.drewN ?_ _))); rintro e V5 ⟨rfl, A5⟩; obtain ⟨⟨t0, t1⟩, f0, f1⟩ := A5.tgt)))
    | (go_wp2_with (first
          | (go_at_call 22; (with_reducible refine (H4.out _ ?_).mono ?_); (repeat' (first | (with_reducible exact A3) | (with_reducible refine At.drew ?_) | (with_reducible refine At.drewN ?_ _))); rintro e V4 ⟨rfl, A4⟩)
          | (go_at_call 21; (with_reducible refine (HP.out _ ?_).mono ?_); (repeat' (first | (with_reducible exact A4) | (with_reducible refine At.drew ?_) | (with_reducible refine At.drewN ?_ _))); rintro e V5 ⟨rfl, A5⟩; obtain ⟨⟨t0, t1⟩, f0, f1⟩ := A5.tgt)))
  all_goals
    (try go_wp2_with fail)
    exact bodyPost_ret (results_cell_row (fn := Try.f17) (p := 6) (ty := 27) rfl _ _ _ _ _ (0, 0) _ rfl (A5.fin d false).1 Try.underlying27 rfl (by kernel_rfl)) rfl ⟨rfl, (A5.fin d false).2⟩
/-- No operand in memory. -/
def Bare (m : Nat) : Prop := m < 5 ∨ 18 ≤ m ∧ m ≤ 20 ∨ 23 ≤ m
theorem op_no {W0 w : World} {B b u m : Nat} {s : Ws} (h : Wk W0 B b s w) (hm : Bare m) (hm2 : m < 256) :
    Calls Try.prog 17 #[.pointer (some ⟨b, 0, none⟩), .int .u8 m, .int .u8 u] w fun e w' => e = .returned (plV (operandM m u s).1.1 (operandM m u s).1.2) ∧ Wk W0 B b (operandM m u s).2 w' ∧ Keeps b w w' := by
  have t : ∀ k : Nat, 5 ≤ k → k ≤ 17 → ((m : Int) == (k : Int)) = false := fun k h1 h2 => by rw [beq_eq_false_iff_ne]; unfold Bare at hm; omega
  have t21 : ((m : Int) == 21) = false := by rw [beq_eq_false_iff_ne]; unfold Bare at hm; omega
  have t22 : ((m : Int) == 22) = false := by rw [beq_eq_false_iff_ne]; unfold Bare at hm; omega
  have t5 := t 5 (by decide) (by decide)
  have t6 := t 6 (by decide) (by decide)
  have t7 := t 7 (by decide) (by decide)
  have t8 := t 8 (by decide) (by decide)
  have t9 := t 9 (by decide) (by decide)
  have t10 := t 10 (by decide) (by decide)
  have t11 := t 11 (by decide) (by decide)
  have t12 := t 12 (by decide) (by decide)
  have t13 := t 13 (by decide) (by decide)
  have t14 := t 14 (by decide) (by decide)
  have t15 := t 15 (by decide) (by decide)
  have t16 := t 16 (by decide) (by decide)
  have t17 := t 17 (by decide) (by decide)
  have e : operandM m u s = ((0, false), s) := by
    unfold Bare at hm
    unfold operandM
    rw [if_neg (by omega), if_neg (by omega), if_neg (by omega), if_neg (by omega), if_neg (by omega), if_neg (by omega), if_neg (by omega), if_neg (by omega), if_neg (by omega), if_neg (by omega), if_neg (by omega), if_neg (by omega), if_neg (by omega), if_neg (by omega), if_neg (by omega)]
    rfl
  rw [e]
  have A0 := at_start h
  dsimp only
  unfold plV
  clear t hm hm2 e h
  go_enter Try.func17, Try.ntmps17
  go_upto_region 1 with (fail)
  generalize w.alloc (.cells #[.int .u32 0, .bool false] 27) = W1 at *
  obtain ⟨⟨t0, t1⟩, f0, f1⟩ := A0.tgt
  go_wp2_with fail
  exact bodyPost_ret (results_cell_row (fn := Try.f17) (p := 6) (ty := 27) rfl _ _ _ _ _ (0, 0) _ rfl (A0.fin 0 false).1 Try.underlying27 rfl (by kernel_rfl)) rfl ⟨rfl, (A0.fin 0 false).2⟩
theorem operand_any {W0 w : World} {B b u m : Nat} {s : Ws} (h : Wk W0 B b s w) (hl : s.l.length ≤ 90) (hm : m < 256) (hu : u < 256) :
    Calls Try.prog 17 #[.pointer (some ⟨b, 0, none⟩), .int .u8 m, .int .u8 u] w fun e w' => e = .returned (plV (operandM m u s).1.1 (operandM m u s).1.2) ∧ Wk W0 B b (operandM m u s).2 w' ∧ Keeps b w w' := by
  by_cases hb : Bare m
  · exact op_no h hb hm
  · rcases (show m = 5 ∨ m = 6 ∨ m = 7 ∨ m = 8 ∨ m = 9 ∨ m = 10 ∨ m = 11 ∨ m = 12 ∨ m = 13 ∨ m = 14 ∨ m = 15 ∨ m = 16 ∨ m = 17 ∨ m = 21 ∨ m = 22 by unfold Bare at hb; omega) with rfl | rfl | rfl | rfl | rfl | rfl | rfl | rfl | rfl | rfl | rfl | rfl | rfl | rfl | rfl
    · exact op_5 h hl hu
    · exact op_6 h hl hu
    · exact op_7 h hl hu
    · exact op_8 h hl hu
    · exact op_9 h hl hu
    · exact op_10 h hl hu
    · exact op_11 h hl hu
    · exact op_12 h hl hu
    · exact op_13 h hl hu
    · exact op_14 h hl hu
    · exact op_15 h hl hu
    · exact op_16 h hl hu
    · exact op_17 h hl hu
    · exact op_21 h hl hu
    · exact op_22 h hl hu
end Go.Proofs.Ytkbieadebfpjdaa
