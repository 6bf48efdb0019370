/-
  A walker's operand, mode by mode.
-/
import Derived.Test.YtkbieadebfpjdaaByt
namespace Go.Proofs.Ytkbieadebfpjdaa
open Go.RowKit Go.Shelf
set_option maxRecDepth 100000
set_option maxHeartbeats 1000000
set_option linter.unusedVariables false

theorem op_14 {W0 w : World} {B b u : Nat} {s : Ws} (h : Wk W0 B b s w) (hl : s.l.length ≤ 90) (hu : u < 256) :
    Calls Try.prog 17 #[.pointer (some ⟨b, 0, none⟩), .int .u8 14, .int .u8 u] w fun e w' => e = .returned (plV (operandM 14 u s).1.1 (operandM 14 u s).1.2) ∧ Wk W0 B b (operandM 14 u s).2 w' ∧ Keeps b w w' := by
  rw [show operandM 14 u s = acrossM (indexedM (dataM (fetchM 2 s).1 (fetchM 2 s).2).1 (dataM (fetchM 2 s).1 (fetchM 2 s).2).2.r.X u (dataM (fetchM 2 s).1 (fetchM 2 s).2).2).1 (indexedM (dataM (fetchM 2 s).1 (fetchM 2 s).2).1 (dataM (fetchM 2 s).1 (fetchM 2 s).2).2.r.X u (dataM (fetchM 2 s).1 (fetchM 2 s).2).2).2 by (unfold operandM; (repeat rw [if_neg (by decide)]); rw [if_pos rfl]; simp only [bindM, getM])]
  have hy := h.byt
  have A0 := at_start h
  obtain ⟨X, hX⟩ : ∃ X, s.r.X = X := ⟨_, rfl⟩
  obtain ⟨Y, hY⟩ : ∃ Y, s.r.Y = Y := ⟨_, rfl⟩
  have hXl : X < 65536 := hX ▸ hy.ok.X
  have hYl : Y < 65536 := hY ▸ hy.ok.Y
  rw [hX, hY] at A0
  clear h
  have H1 := fun W (hA : At W0 B b (w.heap.size + 1) w.heap.size X Y w s W) => hA.fetch 2 2 rfl (by decide) (by omega)
  have b1 := fetch_b 2 s hy
  have c1 := (Good.fetch 2).cost s
  have fx1 := Fix.fetch 2 s
  generalize fetchM 2 s = p1 at *
  obtain ⟨v1, s1⟩ := p1
  obtain ⟨b1, y1⟩ := b1
  dsimp only at *
  rw [hX, hY] at fx1
  have b1 : v1 < 65536 := by simpa using b1
  have H2 := fun W (hA : At W0 B b (w.heap.size + 1) w.heap.size X Y w s1 W) => hA.data v1 (by omega)
  have b2 := data_b v1 s1 y1
  have c2 := (Good.data v1).cost s1
  have fx2 := Fix.data v1 s1
  generalize dataM v1 s1 = p2 at *
  obtain ⟨v2, s2⟩ := p2
  obtain ⟨b2, y2⟩ := b2
  dsimp only at *
  rw [fx1.1, fx1.2] at fx2
  rw [fx2.1] 
  have H3 := fun W (hA : At W0 B b (w.heap.size + 1) w.heap.size X Y w s2 W) => hA.indexed v2 X u (by omega) (by omega) hXl hu
  have b3 := indexed_b u (by omega) hXl s2 y2
  have c3 := (Good.indexed v2 X u).cost s2
  have fx3 := Fix.indexed v2 X u s2
  generalize indexedM v2 X u s2 = p3 at *
  obtain ⟨v3, s3⟩ := p3
  obtain ⟨b3, y3⟩ := b3
  dsimp only at *
  rw [fx2.1, fx2.2] at fx3
  have HP := fun W (hA : At W0 B b (w.heap.size + 1) w.heap.size X Y w s3 W) => hA.across v3 (by omega)
  rw [show acrossM v3 s3 = ((v3 % 16777216, false), s3) from rfl]
  dsimp only
  generalize v3 % 16777216 = d at *
  unfold plV at HP ⊢
  replace H1 := Lib.hid H1
  replace H2 := Lib.hid H2
  replace H3 := Lib.hid H3
  replace HP := Lib.hid HP
  clear c1 b1 y1 fx1 c2 b2 y2 fx2 c3 b3 y3 fx3 hy hl hXl hYl hX hY
  replace hu := Lib.hid hu
  replace A0 := Lib.hid A0
  go_enter Try.func17, Try.ntmps17
  go_upto_region 21 with (fail)
  generalize w.alloc (.cells #[.int .u32 0, .bool false] 27) = W1 at *
  obtain ⟨l1, l2⟩ := A0.out.loads
  first
    | (go_region_held3 (fun W => W.cell? ⟨b, 1, none⟩ = some (.int .u16 X) ∧ W.cell? ⟨b, 2, none⟩ = some (.int .u16 Y))
        (first | exact A0.out.loads | exact A0.out.drew.loads | exact A1.loads | exact A2.loads | exact A3.loads | exact A4.loads | exact A4.stored _ _ | go_keep)
        (first
          | (go_at_call 25; (with_reducible refine (H1.out _ ?_).mono ?_); (repeat' (first | (with_reducible exact A0.out) | (with_reducible refine At.drew ?_) | (with_reducible refine At.drewN ?_ _))); rintro e V1 ⟨rfl, A1⟩)
          | (go_at_call 22; (with_reducible refine (H2.out _ ?_).mono ?_); (repeat' (first | (with_reducible exact A1) | (with_reducible refine At.drew ?_) | (with_reducible refine At.drewN ?_ _))); rintro e V2 ⟨rfl, A2⟩)
          | (go_at_call 24; (with_reducible refine (H3.out _ ?_).mono ?_); (repeat' (first | (with_reducible exact A2) | (with_reducible refine At.drew ?_) | (with_reducible refine At.drewN ?_ _))); rintro e V3 ⟨rfl, A3⟩)
          | (go_at_call 21; (with_reducible refine (HP.out _ ?_).mono ?_); (repeat' (first | (with_reducible exact A3) | (with_reducible refine At.drew ?_) | (with_reducible refine At.drewN ?_ _))); rintro e V4 ⟨rfl, A4⟩; obtain ⟨⟨t0, t1⟩, f0, f1⟩ := A4.tgt)))
    | (go_wp2_with (first
          | (go_at_call 25; (with_reducible refine (H1.out _ ?_).mono ?_); (repeat' (first | (with_reducible exact A0.out) | (with_reducible refine At.drew ?_) | (with_reducible refine At.drewN ?_ _))); rintro e V1 ⟨rfl, A1⟩)
          | (go_at_call 22; (with_reducible refine (H2.out _ ?_).mono ?_); (repeat' (first | (with_reducible exact A1) | (with_reducible refine At.drew ?_) | (with_reducible refine At.drewN ?_ _))); rintro e V2 ⟨rfl, A2⟩)
          | (go_at_call 24; (with_reducible refine (H3.out _ ?_).mono ?_); (repeat' (first | (with_reducible exact A2) | (with_reducible refine At.drew ?_) | (with_reducible refine At.drewN ?_ _))); rintro e V3 ⟨rfl, A3⟩)
          | (go_at_call 21; (with_reducible refine (HP.out _ ?_).mono ?_); (repeat' (first | (with_reducible exact A3) | (with_reducible refine At.drew ?_) | (with_reducible refine At.drewN ?_ _))); rintro e V4 ⟨rfl, A4⟩; obtain ⟨⟨t0, t1⟩, f0, f1⟩ := A4.tgt)))
  all_goals
    (try go_wp2_with fail)
    exact bodyPost_ret (results_cell_row (fn := Try.f17) (p := 6) (ty := 27) rfl _ _ _ _ _ (0, 0) _ rfl (A4.fin d false).1 Try.underlying27 rfl (by kernel_rfl)) rfl ⟨rfl, (A4.fin d false).2⟩
theorem op_15 {W0 w : World} {B b u : Nat} {s : Ws} (h : Wk W0 B b s w) (hl : s.l.length ≤ 90) (hu : u < 256) :
    Calls Try.prog 17 #[.pointer (some ⟨b, 0, none⟩), .int .u8 15, .int .u8 u] w fun e w' => e = .returned (plV (operandM 15 u s).1.1 (operandM 15 u s).1.2) ∧ Wk W0 B b (operandM 15 u s).2 w' ∧ Keeps b w w' := by
  rw [show operandM 15 u s = acrossM (indexedM (dataM (fetchM 2 s).1 (fetchM 2 s).2).1 (dataM (fetchM 2 s).1 (fetchM 2 s).2).2.r.Y u (dataM (fetchM 2 s).1 (fetchM 2 s).2).2).1 (indexedM (dataM (fetchM 2 s).1 (fetchM 2 s).2).1 (dataM (fetchM 2 s).1 (fetchM 2 s).2).2.r.Y u (dataM (fetchM 2 s).1 (fetchM 2 s).2).2).2 by (unfold operandM; (repeat rw [if_neg (by decide)]); rw [if_pos rfl]; simp only [bindM, getM])]
  have hy := h.byt
  have A0 := at_start h
  obtain ⟨X, hX⟩ : ∃ X, s.r.X = X := ⟨_, rfl⟩
  obtain ⟨Y, hY⟩ : ∃ Y, s.r.Y = Y := ⟨_, rfl⟩
  have hXl : X < 65536 := hX ▸ hy.ok.X
  have hYl : Y < 65536 := hY ▸ hy.ok.Y
  rw [hX, hY] at A0
  clear h
  have H1 := fun W (hA : At W0 B b (w.heap.size + 1) w.heap.size X Y w s W) => hA.fetch 2 2 rfl (by decide) (by omega)
  have b1 := fetch_b 2 s hy
  have c1 := (Good.fetch 2).cost s
  have fx1 := Fix.fetch 2 s
  generalize fetchM 2 s = p1 at *
  obtain ⟨v1, s1⟩ := p1
  obtain ⟨b1, y1⟩ := b1
  dsimp only at *
  rw [hX, hY] at fx1
  have b1 : v1 < 65536 := by simpa using b1
  have H2 := fun W (hA : At W0 B b (w.heap.size + 1) w.heap.size X Y w s1 W) => hA.data v1 (by omega)
  have b2 := data_b v1 s1 y1
  have c2 := (Good.data v1).cost s1
  have fx2 := Fix.data v1 s1
  generalize dataM v1 s1 = p2 at *
  obtain ⟨v2, s2⟩ := p2
  obtain ⟨b2, y2⟩ := b2
  dsimp only at *
  rw [fx1.1, fx1.2] at fx2
  rw [fx2.2] 
  have H3 := fun W (hA : At W0 B b (w.heap.size + 1) w.heap.size X Y w s2 W) => hA.indexed v2 Y u (by omega) (by omega) hYl hu
  have b3 := indexed_b u (by omega) hYl s2 y2
  have c3 := (Good.indexed v2 Y u).cost s2
  have fx3 := Fix.indexed v2 Y u s2
  generalize indexedM v2 Y u s2 = p3 at *
  obtain ⟨v3, s3⟩ := p3
  obtain ⟨b3, y3⟩ := b3
  dsimp only at *
  rw [fx2.1, fx2.2] at fx3
  have HP := fun W (hA : At W0 B b (w.heap.size + 1) w.heap.size X Y w s3 W) => hA.across v3 (by omega)
  rw [show acrossM v3 s3 = ((v3 % 16777216, false), s3) from rfl]
  dsimp only
  generalize v3 % 16777216 = d at *
  unfold plV at HP ⊢
  replace H1 := Lib.hid H1
  replace H2 := Lib.hid H2
  replace H3 := Lib.hid H3
  replace HP := Lib.hid HP
  clear c1 b1 y1 fx1 c2 b2 y2 fx2 c3 b3 y3 fx3 hy hl hXl hYl hX hY
  replace hu := Lib.hid hu
  replace A0 := Lib.hid A0
  go_enter Try.func17, Try.ntmps17
  go_upto_region 23 with (fail)
  generalize w.alloc (.cells #[.int .u32 0, .bool false] 27) = W1 at *
  obtain ⟨l1, l2⟩ := A0.out.loads
  first
    | (go_region_held3 (fun W => W.cell? ⟨b, 1, none⟩ = some (.int .u16 X) ∧ W.cell? ⟨b, 2, none⟩ = some (.int .u16 Y))
        (first | exact A0.out.loads | exact A0.out.drew.loads | exact A1.loads | exact A2.loads | exact A3.loads | exact A4.loads | exact A4.stored _ _ | go_keep)
        (first
          | (go_at_call 25; (with_reducible refine (H1.out _ ?_).mono ?_); (repeat' (first | (with_reducible exact A0.out) | (with_reducible refine At.drew ?_) | (with_reducible refine At.drewN ?_ _))); rintro e V1 ⟨rfl, A1⟩)
          | (go_at_call 22; (with_reducible refine (H2.out _ ?_).mono ?_); (repeat' (first | (with_reducible exact A1) | (with_reducible refine At.drew ?_) | (with_reducible refine At.drewN ?_ _))); rintro e V2 ⟨rfl, A2⟩)
          | (go_at_call 24; (with_reducible refine (H3.out _ ?_).mono ?_); (repeat' (first | (with_reducible exact A2) | (with_reducible refine At.drew ?_) | (with_reducible refine At.drewN ?_ _))); rintro e V3 ⟨rfl, A3⟩)
          | (go_at_call 21; (with_reducible refine (HP.out _ ?_).mono ?_); (repeat' (first | (with_reducible exact A3) | (with_reducible refine At.drew ?_) | (with_reducible refine At.drewN ?_ _))); rintro e V4 ⟨rfl, A4⟩; obtain ⟨⟨t0, t1⟩, f0, f1⟩ := A4.tgt)))
    | (go_wp2_with (first
          | (go_at_call 25; (with_reducible refine (H1.out _ ?_).mono ?_); (repeat' (first | (with_reducible exact A0.out) | (with_reducible refine At.drew ?_) | (with_reducible refine At.drewN ?_ _))); rintro e V1 ⟨rfl, A1⟩)
          | (go_at_call 22; (with_reducible refine (H2.out _ ?_).mono ?_); (repeat' (first | (with_reducible exact A1) | (with_reducible refine At.drew ?_) | (with_reducible refine At.drewN ?_ _))); rintro e V2 ⟨rfl, A2⟩)
          | (go_at_call 24; (with_reducible refine (H3.out _ ?_).mono ?_); (repeat' (first | (with_reducible exact A2) | (with_reducible refine At.drew ?_) | (with_reducible refine At.drewN ?_ _))); rintro e V3 ⟨rfl, A3⟩)
          | (go_at_call 21; (with_reducible refine (HP.out _ ?_).mono ?_); (repeat' (first | (with_reducible exact A3) | (with_reducible refine At.drew ?_) | (with_reducible refine At.drewN ?_ _))); rintro e V4 ⟨rfl, A4⟩; obtain ⟨⟨t0, t1⟩, f0, f1⟩ := A4.tgt)))
  all_goals
    (try go_wp2_with fail)
    exact bodyPost_ret (results_cell_row (fn := Try.f17) (p := 6) (ty := 27) rfl _ _ _ _ _ (0, 0) _ rfl (A4.fin d false).1 Try.underlying27 rfl (by kernel_rfl)) rfl ⟨rfl, (A4.fin d false).2⟩
theorem op_16 {W0 w : World} {B b u : Nat} {s : Ws} (h : Wk W0 B b s w) (hl : s.l.length ≤ 90) (hu : u < 256) :
    Calls Try.prog 17 #[.pointer (some ⟨b, 0, none⟩), .int .u8 16, .int .u8 u] w fun e w' => e = .returned (plV (operandM 16 u s).1.1 (operandM 16 u s).1.2) ∧ Wk W0 B b (operandM 16 u s).2 w' ∧ Keeps b w w' := by
  rw [show operandM 16 u s = acrossM (fetchM 3 s).1 (fetchM 3 s).2 from rfl]
  have hy := h.byt
  have A0 := at_start h
  obtain ⟨X, hX⟩ : ∃ X, s.r.X = X := ⟨_, rfl⟩
  obtain ⟨Y, hY⟩ : ∃ Y, s.r.Y = Y := ⟨_, rfl⟩
  have hXl : X < 65536 := hX ▸ hy.ok.X
  have hYl : Y < 65536 := hY ▸ hy.ok.Y
  rw [hX, hY] at A0
  clear h
  have H1 := fun W (hA : At W0 B b (w.heap.size + 1) w.heap.size X Y w s W) => hA.fetch 3 3 rfl (by decide) (by omega)
  have b1 := fetch_b 3 s hy
  have c1 := (Good.fetch 3).cost s
  have fx1 := Fix.fetch 3 s
  generalize fetchM 3 s = p1 at *
  obtain ⟨v1, s1⟩ := p1
  obtain ⟨b1, y1⟩ := b1
  dsimp only at *
  rw [hX, hY] at fx1
  have b1 : v1 < 16777216 := by simpa using b1
  have HP := fun W (hA : At W0 B b (w.heap.size + 1) w.heap.size X Y w s1 W) => hA.across v1 (by omega)
  rw [show acrossM v1 s1 = ((v1 % 16777216, false), s1) from rfl]
  dsimp only
  generalize v1 % 16777216 = d at *
  unfold plV at HP ⊢
  replace H1 := Lib.hid H1
  replace HP := Lib.hid HP
  clear c1 b1 y1 fx1 hy hl hXl hYl hX hY
  replace hu := Lib.hid hu
  replace A0 := Lib.hid A0
  go_enter Try.func17, Try.ntmps17
  go_upto_region 25 with (fail)
  generalize w.alloc (.cells #[.int .u32 0, .bool false] 27) = W1 at *
  obtain ⟨l1, l2⟩ := A0.out.loads
  go_wp2_with fail
  refine (H1.out _ A0.out).mono ?_
  rintro e V1 ⟨rfl, A1⟩
  clear l1 l2
  obtain ⟨l1, l2⟩ := A1.loads
  go_wp2_with fail
  refine (HP.out _ A1).mono ?_
  rintro e V2 ⟨rfl, A2⟩
  clear l1 l2
  obtain ⟨⟨t0, t1⟩, f0, f1⟩ := A2.tgt
  go_wp2_with fail
  exact bodyPost_ret (results_cell_row (fn := Try.f17) (p := 6) (ty := 27) rfl _ _ _ _ _ (0, 0) _ rfl (A2.fin d false).1 Try.underlying27 rfl (by kernel_rfl)) rfl ⟨rfl, (A2.fin d false).2⟩
theorem op_17 {W0 w : World} {B b u : Nat} {s : Ws} (h : Wk W0 B b s w) (hl : s.l.length ≤ 90) (hu : u < 256) :
    Calls Try.prog 17 #[.pointer (some ⟨b, 0, none⟩), .int .u8 17, .int .u8 u] w fun e w' => e = .returned (plV (operandM 17 u s).1.1 (operandM 17 u s).1.2) ∧ Wk W0 B b (operandM 17 u s).2 w' ∧ Keeps b w w' := by
  rw [show operandM 17 u s = acrossM ((fetchM 3 s).1 + (fetchM 3 s).2.r.X) (fetchM 3 s).2 by (unfold operandM; (repeat rw [if_neg (by decide)]); rw [if_pos rfl]; simp only [bindM, getM])]
  have hy := h.byt
  have A0 := at_start h
  obtain ⟨X, hX⟩ : ∃ X, s.r.X = X := ⟨_, rfl⟩
  obtain ⟨Y, hY⟩ : ∃ Y, s.r.Y = Y := ⟨_, rfl⟩
  have hXl : X < 65536 := hX ▸ hy.ok.X
  have hYl : Y < 65536 := hY ▸ hy.ok.Y
  rw [hX, hY] at A0
  clear h
  have H1 := fun W (hA : At W0 B b (w.heap.size + 1) w.heap.size X Y w s W) => hA.fetch 3 3 rfl (by decide) (by omega)
  have b1 := fetch_b 3 s hy
  have c1 := (Good.fetch 3).cost s
  have fx1 := Fix.fetch 3 s
  generalize fetchM 3 s = p1 at *
  obtain ⟨v1, s1⟩ := p1
  obtain ⟨b1, y1⟩ := b1
  dsimp only at *
  rw [hX, hY] at fx1
  have b1 : v1 < 16777216 := by simpa using b1
  rw [fx1.1]
  obtain ⟨z, hz⟩ : ∃ z, v1 + X = z := ⟨_, rfl⟩
  obtain ⟨e0, e1, e2, e3, e4⟩ := u32_sum hz (by omega) hXl
  rw [hz]
  have HP := fun W (hA : At W0 B b (w.heap.size + 1) w.heap.size X Y w s1 W) => hA.across z (by omega)
  rw [show acrossM z s1 = ((z % 16777216, false), s1) from rfl]
  dsimp only
  generalize z % 16777216 = d at *
  unfold plV at HP ⊢
  replace e4 := Lib.hid e4
  clear hz
  replace H1 := Lib.hid H1
  replace HP := Lib.hid HP
  clear c1 b1 y1 fx1 hy hl hXl hYl hX hY
  replace hu := Lib.hid hu
  replace A0 := Lib.hid A0
  go_enter Try.func17, Try.ntmps17
  go_upto_region 27 with (fail)
  generalize w.alloc (.cells #[.int .u32 0, .bool false] 27) = W1 at *
  obtain ⟨l1, l2⟩ := A0.out.loads
  first
    | (go_region_held3 (fun W => W.cell? ⟨b, 1, none⟩ = some (.int .u16 X) ∧ W.cell? ⟨b, 2, none⟩ = some (.int .u16 Y))
        (first | exact A0.out.loads | exact A0.out.drew.loads | exact A1.loads | exact A2.loads | exact A2.stored _ _ | go_keep)
        (first
          | (go_at_call 25; (with_reducible refine (H1.out _ ?_).mono ?_); (repeat' (first | (with_reducible exact A0.out) | (with_reducible refine At.drew ?_) | (with_reducible refine At.drewN ?_ _))); rintro e V1 ⟨rfl, A1⟩)
          | (go_at_call 21; (with_reducible refine (HP.out _ ?_).mono ?_); (repeat' (first | (with_reducible exact A1) | (with_reducible refine At.drew ?_) | (with_reducible refine At.drewN ?_ _))); rintro e V2 ⟨rfl, A2⟩; obtain ⟨⟨t0, t1⟩, f0, f1⟩ := A2.tgt)))
    | (go_wp2_with (first
          | (go_at_call 25; (with_reducible refine (H1.out _ ?_).mono ?_); (repeat' (first | (with_reducible exact A0.out) | (with_reducible refine At.drew ?_) | (with_reducible refine At.drewN ?_ _))); rintro e V1 ⟨rfl, A1⟩)
          | (go_at_call 21; (with_reducible refine (HP.out _ ?_).mono ?_); (repeat' (first | (with_reducible exact A1) | (with_reducible refine At.drew ?_) | (with_reducible refine At.drewN ?_ _))); rintro e V2 ⟨rfl, A2⟩; obtain ⟨⟨t0, t1⟩, f0, f1⟩ := A2.tgt)))
  all_goals
    (try go_wp2_with fail)
    exact bodyPost_ret (results_cell_row (fn := Try.f17) (p := 6) (ty := 27) rfl _ _ _ _ _ (0, 0) _ rfl (A2.fin d false).1 Try.underlying27 rfl (by kernel_rfl)) rfl ⟨rfl, (A2.fin d false).2⟩
theorem op_21 {W0 w : World} {B b u : Nat} {s : Ws} (h : Wk W0 B b s w) (hl : s.l.length ≤ 90) (hu : u < 256) :
    Calls Try.prog 17 #[.pointer (some ⟨b, 0, none⟩), .int .u8 21, .int .u8 u] w fun e w' => e = .returned (plV (operandM 21 u s).1.1 (operandM 21 u s).1.2) ∧ Wk W0 B b (operandM 21 u s).2 w' ∧ Keeps b w w' := by
  rw [show operandM 21 u s = pureM ((stackM s).1 % 65536, true) (stackM s).2 from rfl]
  have hy := h.byt
  have A0 := at_start h
  obtain ⟨X, hX⟩ : ∃ X, s.r.X = X := ⟨_, rfl⟩
  obtain ⟨Y, hY⟩ : ∃ Y, s.r.Y = Y := ⟨_, rfl⟩
  have hXl : X < 65536 := hX ▸ hy.ok.X
  have hYl : Y < 65536 := hY ▸ hy.ok.Y
  rw [hX, hY] at A0
  clear h
  have H1 := fun W (hA : At W0 B b (w.heap.size + 1) w.heap.size X Y w s W) => hA.stack (by omega)
  have b1 := stack_b s hy
  have c1 := Good.stack.cost s
  have fx1 := Fix.stack s
  generalize stackM s = p1 at *
  obtain ⟨v1, s1⟩ := p1
  obtain ⟨b1, y1⟩ := b1
  dsimp only at *
  rw [hX, hY] at fx1
  rw [show pureM (v1 % 65536, true) s1 = ((v1 % 65536, true), s1) from rfl]
  dsimp only
  obtain ⟨d, hd⟩ : ∃ d, v1 % 65536 = d := ⟨_, rfl⟩
  rw [hd]
  have hd2 : 0 * 65536 + v1 % 65536 = d := by rw [Nat.zero_mul, Nat.zero_add, hd]
  have HA := Lib.hid (fun W => address_v (b := 0) (n := v1) (v := d) (x := ((0 : Nat) : Int)) (z := (v1 : Nat)) W rfl rfl (by omega) (by omega) hd2)
  have HP := fun W (hA : At W0 B b (w.heap.size + 1) w.heap.size X Y w s1 W) => hA.within d
  unfold plV at HP ⊢
  clear hd hd2
  replace H1 := Lib.hid H1
  replace HP := Lib.hid HP
  clear c1 b1 y1 fx1 hy hl hXl hYl hX hY
  replace hu := Lib.hid hu
  replace A0 := Lib.hid A0
  go_enter Try.func17, Try.ntmps17
  go_upto_region 29 with (fail)
  generalize w.alloc (.cells #[.int .u32 0, .bool false] 27) = W1 at *
  obtain ⟨l1, l2⟩ := A0.out.loads
  go_wp2_with fail
  refine (H1.out _ A0.out).mono ?_
  rintro e V1 ⟨rfl, A1⟩
  clear l1 l2
  obtain ⟨l1, l2⟩ := A1.loads
  go_wp2_with fail
  refine (HA.out _).mono ?_
  rintro e w' ⟨rfl, rfl⟩
  go_wp2_with fail
  refine (HP.out _ A1).mono ?_
  rintro e V2 ⟨rfl, A2⟩
  clear l1 l2
  obtain ⟨⟨t0, t1⟩, f0, f1⟩ := A2.tgt
  go_wp2_with fail
  exact bodyPost_ret (results_cell_row (fn := Try.f17) (p := 6) (ty := 27) rfl _ _ _ _ _ (0, 0) _ rfl (A2.fin d true).1 Try.underlying27 rfl (by kernel_rfl)) rfl ⟨rfl, (A2.fin d true).2⟩
end Go.Proofs.Ytkbieadebfpjdaa
