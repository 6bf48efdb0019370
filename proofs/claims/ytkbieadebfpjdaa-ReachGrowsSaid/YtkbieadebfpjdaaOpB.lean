/-
  A walker's operand, mode by mode.
-/
import Derived.Test.YtkbieadebfpjdaaByt
namespace Go.Proofs.Ytkbieadebfpjdaa
open Go.RowKit Go.Shelf
set_option maxRecDepth 100000
set_option maxHeartbeats 1000000
set_option linter.unusedVariables false

theorem op_10 {W0 w : World} {B b u : Nat} {s : Ws} (h : Wk W0 B b s w) (hl : s.l.length ≤ 90) (hu : u < 256) :
    Calls Try.prog 17 #[.pointer (some ⟨b, 0, none⟩), .int .u8 10, .int .u8 u] w fun e w' => e = .returned (plV (operandM 10 u s).1.1 (operandM 10 u s).1.2) ∧ Wk W0 B b (operandM 10 u s).2 w' ∧ Keeps b w w' := by
  rw [show operandM 10 u s = acrossM (dataM (directM (offsetByM s.r.X s).1 2 (offsetByM s.r.X s).2).1 (directM (offsetByM s.r.X s).1 2 (offsetByM s.r.X s).2).2).1 (dataM (directM (offsetByM s.r.X s).1 2 (offsetByM s.r.X s).2).1 (directM (offsetByM s.r.X s).1 2 (offsetByM s.r.X s).2).2).2 from rfl]
  have hy := h.byt
  have A0 := at_start h
  obtain ⟨X, hX⟩ : ∃ X, s.r.X = X := ⟨_, rfl⟩
  obtain ⟨Y, hY⟩ : ∃ Y, s.r.Y = Y := ⟨_, rfl⟩
  have hXl : X < 65536 := hX ▸ hy.ok.X
  have hYl : Y < 65536 := hY ▸ hy.ok.Y
  rw [hX, hY] at A0
  rw [show s.r.X = X from hX]
  clear h
  have H1 := fun W (hA : At W0 B b (w.heap.size + 1) w.heap.size X Y w s W) => hA.offsetBy (by omega) X hXl
  have b1 := offsetBy_b hXl s hy
  have c1 := (Good.offsetBy X).cost s
  have fx1 := Fix.offsetBy X s
  generalize offsetByM X s = p1 at *
  obtain ⟨v1, s1⟩ := p1
  obtain ⟨b1, y1⟩ := b1
  dsimp only at *
  rw [hX, hY] at fx1
  have H2 := fun W (hA : At W0 B b (w.heap.size + 1) w.heap.size X Y w s1 W) => hA.direct v1 2 2 rfl (by omega) (by decide) (by omega)
  have b2 := direct_b v1 2 s1 y1
  have c2 := (Good.direct v1 2).cost s1
  have fx2 := Fix.direct v1 2 s1
  generalize directM v1 2 s1 = p2 at *
  obtain ⟨v2, s2⟩ := p2
  obtain ⟨b2, y2⟩ := b2
  dsimp only at *
  rw [fx1.1, fx1.2] at fx2
  have b2 : v2 < 65536 := by simpa using b2
  have H3 := fun W (hA : At W0 B b (w.heap.size + 1) w.heap.size X Y w s2 W) => hA.data v2 (by omega)
  have b3 := data_b v2 s2 y2
  have c3 := (Good.data v2).cost s2
  have fx3 := Fix.data v2 s2
  generalize dataM v2 s2 = p3 at *
  obtain ⟨v3, s3⟩ := p3
  obtain ⟨b3, y3⟩ := b3
  dsimp only at *
  rw [fx2.1, fx2.2] at fx3
  have HP := fun W (hA : At W0 B b (w.heap.size + 1) w.heap.size X Y w s3 W) => hA.across v3 (by omega)
  rw [show acrossM v3 s3 = ((v3 % 16777216, false), s3) from rfl]
  dsimp only
  generalize v3 % 16777216 = d at *
  unfold plV at HP ⊢
  replace H1 := Lib.hid H1
  replace H2 := Lib.hid H2
  replace H3 := Lib.hid H3
  replace HP := Lib.hid HP
  clear c1 b1 y1 fx1 c2 b2 y2 fx2 c3 b3 y3 fx3 hy hl hXl hYl hX hY
  replace hu := Lib.hid hu
  replace A0 := Lib.hid A0
  go_enter Try.func17, Try.ntmps17
  go_upto_region 13 with (fail)
  generalize w.alloc (.cells #[.int .u32 0, .bool false] 27) = W1 at *
  obtain ⟨l1, l2⟩ := A0.out.loads
  first
    | (go_region_held3 (fun W => W.cell? ⟨b, 1, none⟩ = some (.int .u16 X) ∧ W.cell? ⟨b, 2, none⟩ = some (.int .u16 Y))
        (first | exact A0.out.loads | exact A0.out.drew.loads | exact A1.loads | exact A2.loads | exact A3.loads | exact A4.loads | exact A4.stored _ _ | go_keep)
        (first
          | (go_at_call 20; (with_reducible refine (H1.out _ ?_).mono ?_); (repeat' (first | (with_reducible exact A0.out) | (with_reducible refine At.drew ?_) | (with_reducible refine At.drewN ?_ _))); rintro e V1 ⟨rfl, A1⟩)
          | (go_at_call 23; (with_reducible refine (H2.out _ ?_).mono ?_); (repeat' (first | (with_reducible exact A1) | (with_reducible refine At.drew ?_) | (with_reducible refine At.drewN ?_ _))); rintro e V2 ⟨rfl, A2⟩)
          | (go_at_call 22; (with_reducible refine (H3.out _ ?_).mono ?_); (repeat' (first | (with_reducible exact A2) | (with_reducible refine At.drew ?_) | (with_reducible refine At.drewN ?_ _))); rintro e V3 ⟨rfl, A3⟩)
          | (go_at_call 21; (with_reducible refine (HP.out _ ?_).mono ?_); (repeat' (first | (with_reducible exact A3) | (with_reducible refine At.drew ?_) | (with_reducible refine At.drewN ?_ _))); rintro e V4 ⟨rfl, A4⟩; obtain ⟨⟨t0, t1⟩, f0, f1⟩ := A4.tgt)))
    | (go_wp2_with (first
          | (go_at_call 20; (with_reducible refine (H1.out _ ?_).mono ?_); (repeat' (first | (with_reducible exact A0.out) | (with_reducible refine At.drew ?_) | (with_reducible refine At.drewN ?_ _))); rintro e V1 ⟨rfl, A1⟩)
          | (go_at_call 23; (with_reducible refine (H2.out _ ?_).mono ?_); (repeat' (first | (with_reducible exact A1) | (with_reducible refine At.drew ?_) | (with_reducible refine At.drewN ?_ _))); rintro e V2 ⟨rfl, A2⟩)
          | (go_at_call 22; (with_reducible refine (H3.out _ ?_).mono ?_); (repeat' (first | (with_reducible exact A2) | (with_reducible refine At.drew ?_) | (with_reducible refine At.drewN ?_ _))); rintro e V3 ⟨rfl, A3⟩)
          | (go_at_call 21; (with_reducible refine (HP.out _ ?_).mono ?_); (repeat' (first | (with_reducible exact A3) | (with_reducible refine At.drew ?_) | (with_reducible refine At.drewN ?_ _))); rintro e V4 ⟨rfl, A4⟩; obtain ⟨⟨t0, t1⟩, f0, f1⟩ := A4.tgt)))
  all_goals
    (try go_wp2_with fail)
    exact bodyPost_ret (results_cell_row (fn := Try.f17) (p := 6) (ty := 27) rfl _ _ _ _ _ (0, 0) _ rfl (A4.fin d false).1 Try.underlying27 rfl (by kernel_rfl)) rfl ⟨rfl, (A4.fin d false).2⟩
theorem op_11 {W0 w : World} {B b u : Nat} {s : Ws} (h : Wk W0 B b s w) (hl : s.l.length ≤ 90) (hu : u < 256) :
    Calls Try.prog 17 #[.pointer (some ⟨b, 0, none⟩), .int .u8 11, .int .u8 u] w fun e w' => e = .returned (plV (operandM 11 u s).1.1 (operandM 11 u s).1.2) ∧ Wk W0 B b (operandM 11 u s).2 w' ∧ Keeps b w w' := by
  rw [show operandM 11 u s = acrossM (indexedM (dataM (directM (offsetM s).1 2 (offsetM s).2).1 (directM (offsetM s).1 2 (offsetM s).2).2).1 (dataM (directM (offsetM s).1 2 (offsetM s).2).1 (directM (offsetM s).1 2 (offsetM s).2).2).2.r.Y u (dataM (directM (offsetM s).1 2 (offsetM s).2).1 (directM (offsetM s).1 2 (offsetM s).2).2).2).1 (indexedM (dataM (directM (offsetM s).1 2 (offsetM s).2).1 (directM (offsetM s).1 2 (offsetM s).2).2).1 (dataM (directM (offsetM s).1 2 (offsetM s).2).1 (directM (offsetM s).1 2 (offsetM s).2).2).2.r.Y u (dataM (directM (offsetM s).1 2 (offsetM s).2).1 (directM (offsetM s).1 2 (offsetM s).2).2).2).2 from rfl]
  have hy := h.byt
  have A0 := at_start h
  obtain ⟨X, hX⟩ : ∃ X, s.r.X = X := ⟨_, rfl⟩
  obtain ⟨Y, hY⟩ : ∃ Y, s.r.Y = Y := ⟨_, rfl⟩
  have hXl : X < 65536 := hX ▸ hy.ok.X
  have hYl : Y < 65536 := hY ▸ hy.ok.Y
  rw [hX, hY] at A0
  clear h
  have H1 := fun W (hA : At W0 B b (w.heap.size + 1) w.heap.size X Y w s W) => hA.offset (by omega)
  have b1 := offset_b s hy
  have c1 := Good.offset.cost s
  have fx1 := Fix.offset s
  generalize offsetM s = p1 at *
  obtain ⟨v1, s1⟩ := p1
  obtain ⟨b1, y1⟩ := b1
  dsimp only at *
  rw [hX, hY] at fx1
  have H2 := fun W (hA : At W0 B b (w.heap.size + 1) w.heap.size X Y w s1 W) => hA.direct v1 2 2 rfl (by omega) (by decide) (by omega)
  have b2 := direct_b v1 2 s1 y1
  have c2 := (Good.direct v1 2).cost s1
  have fx2 := Fix.direct v1 2 s1
  generalize directM v1 2 s1 = p2 at *
  obtain ⟨v2, s2⟩ := p2
  obtain ⟨b2, y2⟩ := b2
  dsimp only at *
  rw [fx1.1, fx1.2] at fx2
  have b2 : v2 < 65536 := by simpa using b2
  have H3 := fun W (hA : At W0 B b (w.heap.size + 1) w.heap.size X Y w s2 W) => hA.data v2 (by omega)
  have b3 := data_b v2 s2 y2
  have c3 := (Good.data v2).cost s2
  have fx3 := Fix.data v2 s2
  generalize dataM v2 s2 = p3 at *
  obtain ⟨v3, s3⟩ := p3
  obtain ⟨b3, y3⟩ := b3
  dsimp only at *
  rw [fx2.1, fx2.2] at fx3
  rw [fx3.2] 
  have H4 := fun W (hA : At W0 B b (w.heap.size + 1) w.heap.size X Y w s3 W) => hA.indexed v3 Y u (by omega) (by omega) hYl hu
  have b4 := indexed_b u (by omega) hYl s3 y3
  have c4 := (Good.indexed v3 Y u).cost s3
  have fx4 := Fix.indexed v3 Y u s3
  generalize indexedM v3 Y u s3 = p4 at *
  obtain ⟨v4, s4⟩ := p4
  obtain ⟨b4, y4⟩ := b4
  dsimp only at *
  rw [fx3.1, fx3.2] at fx4
  have HP := fun W (hA : At W0 B b (w.heap.size + 1) w.heap.size X Y w s4 W) => hA.across v4 (by omega)
  rw [show acrossM v4 s4 = ((v4 % 16777216, false), s4) from rfl]
  dsimp only
  generalize v4 % 16777216 = d at *
  unfold plV at HP ⊢
  replace H1 := Lib.hid H1
  replace H2 := Lib.hid H2
  replace H3 := Lib.hid H3
  replace H4 := Lib.hid H4
  replace HP := Lib.hid HP
  clear c1 b1 y1 fx1 c2 b2 y2 fx2 c3 b3 y3 fx3 c4 b4 y4 fx4 hy hl hXl hYl hX hY
  replace hu := Lib.hid hu
  replace A0 := Lib.hid A0
  go_enter Try.func17, Try.ntmps17
  go_upto_region 15 with (fail)
  generalize w.alloc (.cells #[.int .u32 0, .bool false] 27) = W1 at *
  obtain ⟨l1, l2⟩ := A0.out.loads
  first
    | (go_region_held3 (fun W => W.cell? ⟨b, 1, none⟩ = some (.int .u16 X) ∧ W.cell? ⟨b, 2, none⟩ = some (.int .u16 Y))
        (first | exact A0.out.loads | exact A0.out.drew.loads | exact A1.loads | exact A2.loads | exact A3.loads | exact A4.loads | exact A5.loads | exact A5.stored _ _ | go_keep)
        (first
          | (go_at_call 19; (with_reducible refine (H1.out _ ?_).mono ?_); (repeat' (first | (with_reducible exact A0.out) | (with_reducible refine At.drew ?_) | (with_reducible refine At.drewN ?_ _))); rintro e V1 ⟨rfl, A1⟩)
          | (go_at_call 23; (with_reducible refine (H2.out _ ?_).mono ?_); (repeat' (first | (with_reducible exact A1) | (with_reducible refine At.drew ?_) | (with_reducible refine At.drewN ?_ _))); rintro e V2 ⟨rfl, A2⟩)
          | (go_at_call 22; (with_reducible refine (H3.out _ ?_).mono ?_); (repeat' (first | (with_reducible exact A2) | (with_reducible refine At.drew ?_) | (with_reducible refine At.drewN ?_ _))); rintro e V3 ⟨rfl, A3⟩)
          | (go_at_call 24; (with_reducible refine (H4.out _ ?_).mono ?_); (repeat' (first | (with_reducible exact A3) | (with_reducible refine At.drew ?_) | (with_reducible refine At.drewN ?_ _))); rintro e V4 ⟨rfl, A4⟩)
          | (go_at_call 21; (with_reducible refine (HP.out _ ?_).mono ?_); (repeat' (first | (with_reducible exact A4) | (with_reducible refine At.drew ?_) | (with_reducible refine At.drewN ?_ _))); rintro e V5 ⟨rfl, A5⟩; obtain ⟨⟨t0, t1⟩, f0, f1⟩ := A5.tgt)))
    | (go_wp2_with (first
          | (go_at_call 19; (with_reducible refine (H1.out _ ?_).mono ?_); (repeat' (first | (with_reducible exact A0.out) | (with_reducible refine At.drew ?_) | (with_reducible refine At.drewN ?_ _))); rintro e V1 ⟨rfl, A1⟩)
          | (go_at_call 23; (with_reducible refine (H2.out _ ?_).mono ?_); (repeat' (first | (with_reducible exact A1) | (with_reducible refine At.drew ?_) | (with_reducible refine At.drewN ?_ _))); rintro e V2 ⟨rfl, A2⟩)
          | (go_at_call 22; (with_reducible refine (H3.out _ ?_).mono ?_); (repeat' (first | (with_reducible exact A2) | (with_reducible refine At.drew ?_) | (with_reducible refine At.drewN ?_ _))); rintro e V3 ⟨rfl, A3⟩)
          | (go_at_call 24; (with_reducible refine (H4.out _ ?_).mono ?_); (repeat' (first | (with_reducible exact A3) | (with_reducible refine At.drew ?_) | (with_reducible refine At.drewN ?_ _))); rintro e V4 ⟨rfl, A4⟩)
          | (go_at_call 21; (with_reducible refine (HP.out _ ?_).mono ?_); (repeat' (first | (with_reducible exact A4) | (with_reducible refine At.drew ?_) | (with_reducible refine At.drewN ?_ _))); rintro e V5 ⟨rfl, A5⟩; obtain ⟨⟨t0, t1⟩, f0, f1⟩ := A5.tgt)))
  all_goals
    (try go_wp2_with fail)
    exact bodyPost_ret (results_cell_row (fn := Try.f17) (p := 6) (ty := 27) rfl _ _ _ _ _ (0, 0) _ rfl (A5.fin d false).1 Try.underlying27 rfl (by kernel_rfl)) rfl ⟨rfl, (A5.fin d false).2⟩
theorem op_12 {W0 w : World} {B b u : Nat} {s : Ws} (h : Wk W0 B b s w) (hl : s.l.length ≤ 90) (hu : u < 256) :
    Calls Try.prog 17 #[.pointer (some ⟨b, 0, none⟩), .int .u8 12, .int .u8 u] w fun e w' => e = .returned (plV (operandM 12 u s).1.1 (operandM 12 u s).1.2) ∧ Wk W0 B b (operandM 12 u s).2 w' ∧ Keeps b w w' := by
  rw [show operandM 12 u s = acrossM ((directM (offsetM s).1 3 (offsetM s).2).1 + (directM (offsetM s).1 3 (offsetM s).2).2.r.Y) (directM (offsetM s).1 3 (offsetM s).2).2 from rfl]
  have hy := h.byt
  have A0 := at_start h
  obtain ⟨X, hX⟩ : ∃ X, s.r.X = X := ⟨_, rfl⟩
  obtain ⟨Y, hY⟩ : ∃ Y, s.r.Y = Y := ⟨_, rfl⟩
  have hXl : X < 65536 := hX ▸ hy.ok.X
  have hYl : Y < 65536 := hY ▸ hy.ok.Y
  rw [hX, hY] at A0
  clear h
  have H1 := fun W (hA : At W0 B b (w.heap.size + 1) w.heap.size X Y w s W) => hA.offset (by omega)
  have b1 := offset_b s hy
  have c1 := Good.offset.cost s
  have fx1 := Fix.offset s
  generalize offsetM s = p1 at *
  obtain ⟨v1, s1⟩ := p1
  obtain ⟨b1, y1⟩ := b1
  dsimp only at *
  rw [hX, hY] at fx1
  have H2 := fun W (hA : At W0 B b (w.heap.size + 1) w.heap.size X Y w s1 W) => hA.direct v1 3 3 rfl (by omega) (by decide) (by omega)
  have b2 := direct_b v1 3 s1 y1
  have c2 := (Good.direct v1 3).cost s1
  have fx2 := Fix.direct v1 3 s1
  generalize directM v1 3 s1 = p2 at *
  obtain ⟨v2, s2⟩ := p2
  obtain ⟨b2, y2⟩ := b2
  dsimp only at *
  rw [fx1.1, fx1.2] at fx2
  have b2 : v2 < 16777216 := by simpa using b2
  rw [fx2.2]
  obtain ⟨z, hz⟩ : ∃ z, v2 + Y = z := ⟨_, rfl⟩
  obtain ⟨e0, e1, e2, e3, e4⟩ := u32_sum hz (by omega) hYl
  rw [hz]
  have HP := fun W (hA : At W0 B b (w.heap.size + 1) w.heap.size X Y w s2 W) => hA.across z (by omega)
  rw [show acrossM z s2 = ((z % 16777216, false), s2) from rfl]
  dsimp only
  generalize z % 16777216 = d at *
  unfold plV at HP ⊢
  replace e4 := Lib.hid e4
  clear hz
  replace H1 := Lib.hid H1
  replace H2 := Lib.hid H2
  replace HP := Lib.hid HP
  clear c1 b1 y1 fx1 c2 b2 y2 fx2 hy hl hXl hYl hX hY
  replace hu := Lib.hid hu
  replace A0 := Lib.hid A0
  go_enter Try.func17, Try.ntmps17
  go_upto_region 17 with (fail)
  generalize w.alloc (.cells #[.int .u32 0, .bool false] 27) = W1 at *
  obtain ⟨l1, l2⟩ := A0.out.loads
  first
    | (go_region_held3 (fun W => W.cell? ⟨b, 1, none⟩ = some (.int .u16 X) ∧ W.cell? ⟨b, 2, none⟩ = some (.int .u16 Y))
        (first | exact A0.out.loads | exact A0.out.drew.loads | exact A1.loads | exact A2.loads | exact A3.loads | exact A3.stored _ _ | go_keep)
        (first
          | (go_at_call 19; (with_reducible refine (H1.out _ ?_).mono ?_); (repeat' (first | (with_reducible exact A0.out) | (with_reducible refine At.drew ?_) | (with_reducible refine At.drewN ?_ _))); rintro e V1 ⟨rfl, A1⟩)
          | (go_at_call 23; (with_reducible refine (H2.out _ ?_).mono ?_); (repeat' (first | (with_reducible exact A1) | (with_reducible refine At.drew ?_) | (with_reducible refine At.drewN ?_ _))); rintro e V2 ⟨rfl, A2⟩)
          | (go_at_call 21; (with_reducible refine (HP.out _ ?_).mono ?_); (repeat' (first | (with_reducible exact A2) | (with_reducible refine At.drew ?_) | (with_reducible refine At.drewN ?_ _))); rintro e V3 ⟨rfl, A3⟩; obtain ⟨⟨t0, t1⟩, f0, f1⟩ := A3.tgt)))
    | (go_wp2_with (first
          | (go_at_call 19; (with_reducible refine (H1.out _ ?_).mono ?_); (repeat' (first | (with_reducible exact A0.out) | (with_reducible refine At.drew ?_) | (with_reducible refine At.drewN ?_ _))); rintro e V1 ⟨rfl, A1⟩)
          | (go_at_call 23; (with_reducible refine (H2.out _ ?_).mono ?_); (repeat' (first | (with_reducible exact A1) | (with_reducible refine At.drew ?_) | (with_reducible refine At.drewN ?_ _))); rintro e V2 ⟨rfl, A2⟩)
          | (go_at_call 21; (with_reducible refine (HP.out _ ?_).mono ?_); (repeat' (first | (with_reducible exact A2) | (with_reducible refine At.drew ?_) | (with_reducible refine At.drewN ?_ _))); rintro e V3 ⟨rfl, A3⟩; obtain ⟨⟨t0, t1⟩, f0, f1⟩ := A3.tgt)))
  all_goals
    (try go_wp2_with fail)
    exact bodyPost_ret (results_cell_row (fn := Try.f17) (p := 6) (ty := 27) rfl _ _ _ _ _ (0, 0) _ rfl (A3.fin d false).1 Try.underlying27 rfl (by kernel_rfl)) rfl ⟨rfl, (A3.fin d false).2⟩
theorem op_13 {W0 w : World} {B b u : Nat} {s : Ws} (h : Wk W0 B b s w) (hl : s.l.length ≤ 90) (hu : u < 256) :
    Calls Try.prog 17 #[.pointer (some ⟨b, 0, none⟩), .int .u8 13, .int .u8 u] w fun e w' => e = .returned (plV (operandM 13 u s).1.1 (operandM 13 u s).1.2) ∧ Wk W0 B b (operandM 13 u s).2 w' ∧ Keeps b w w' := by
  rw [show operandM 13 u s = acrossM (dataM (fetchM 2 s).1 (fetchM 2 s).2).1 (dataM (fetchM 2 s).1 (fetchM 2 s).2).2 from rfl]
  have hy := h.byt
  have A0 := at_start h
  obtain ⟨X, hX⟩ : ∃ X, s.r.X = X := ⟨_, rfl⟩
  obtain ⟨Y, hY⟩ : ∃ Y, s.r.Y = Y := ⟨_, rfl⟩
  have hXl : X < 65536 := hX ▸ hy.ok.X
  have hYl : Y < 65536 := hY ▸ hy.ok.Y
  rw [hX, hY] at A0
  clear h
  have H1 := fun W (hA : At W0 B b (w.heap.size + 1) w.heap.size X Y w s W) => hA.fetch 2 2 rfl (by decide) (by omega)
  have b1 := fetch_b 2 s hy
  have c1 := (Good.fetch 2).cost s
  have fx1 := Fix.fetch 2 s
  generalize fetchM 2 s = p1 at *
  obtain ⟨v1, s1⟩ := p1
  obtain ⟨b1, y1⟩ := b1
  dsimp only at *
  rw [hX, hY] at fx1
  have b1 : v1 < 65536 := by simpa using b1
  have H2 := fun W (hA : At W0 B b (w.heap.size + 1) w.heap.size X Y w s1 W) => hA.data v1 (by omega)
  have b2 := data_b v1 s1 y1
  have c2 := (Good.data v1).cost s1
  have fx2 := Fix.data v1 s1
  generalize dataM v1 s1 = p2 at *
  obtain ⟨v2, s2⟩ := p2
  obtain ⟨b2, y2⟩ := b2
  dsimp only at *
  rw [fx1.1, fx1.2] at fx2
  have HP := fun W (hA : At W0 B b (w.heap.size + 1) w.heap.size X Y w s2 W) => hA.across v2 (by omega)
  rw [show acrossM v2 s2 = ((v2 % 16777216, false), s2) from rfl]
  dsimp only
  generalize v2 % 16777216 = d at *
  unfold plV at HP ⊢
  replace H1 := Lib.hid H1
  replace H2 := Lib.hid H2
  replace HP := Lib.hid HP
  clear c1 b1 y1 fx1 c2 b2 y2 fx2 hy hl hXl hYl hX hY
  replace hu := Lib.hid hu
  replace A0 := Lib.hid A0
  go_enter Try.func17, Try.ntmps17
  go_upto_region 19 with (fail)
  generalize w.alloc (.cells #[.int .u32 0, .bool false] 27) = W1 at *
  obtain ⟨l1, l2⟩ := A0.out.loads
  first
    | (go_region_held3 (fun W => W.cell? ⟨b, 1, none⟩ = some (.int .u16 X) ∧ W.cell? ⟨b, 2, none⟩ = some (.int .u16 Y))
        (first | exact A0.out.loads | exact A0.out.drew.loads | exact A1.loads | exact A2.loads | exact A3.loads | exact A3.stored _ _ | go_keep)
        (first
          | (go_at_call 25; (with_reducible refine (H1.out _ ?_).mono ?_); (repeat' (first | (with_reducible exact A0.out) | (with_reducible refine At.drew ?_) | (with_reducible refine At.drewN ?_ _))); rintro e V1 ⟨rfl, A1⟩)
          | (go_at_call 22; (with_reducible refine (H2.out _ ?_).mono ?_); (repeat' (first | (with_reducible exact A1) | (with_reducible refine At.drew ?_) | (with_reducible refine At.drewN ?_ _))); rintro e V2 ⟨rfl, A2⟩)
          | (go_at_call 21; (with_reducible refine (HP.out _ ?_).mono ?_); (repeat' (first | (with_reducible exact A2) | (with_reducible refine At.drew ?_) | (with_reducible refine At.drewN ?_ _))); rintro e V3 ⟨rfl, A3⟩; obtain ⟨⟨t0, t1⟩, f0, f1⟩ := A3.tgt)))
    | (go_wp2_with (first
          | (go_at_call 25; (with_reducible refine (H1.out _ ?_).mono ?_); (repeat' (first | (with_reducible exact A0.out) | (with_reducible refine At.drew ?_) | (with_reducible refine At.drewN ?_ _))); rintro e V1 ⟨rfl, A1⟩)
          | (go_at_call 22; (with_reducible refine (H2.out _ ?_).mono ?_); (repeat' (first | (with_reducible exact A1) | (with_reducible refine At.drew ?_) | (with_reducible refine At.drewN ?_ _))); rintro e V2 ⟨rfl, A2⟩)
          | (go_at_call 21; (with_reducible refine (HP.out _ ?_).mono ?_); (repeat' (first | (with_reducible exact A2) | (with_reducible refine At.drew ?_) | (with_reducible refine At.drewN ?_ _))); rintro e V3 ⟨rfl, A3⟩; obtain ⟨⟨t0, t1⟩, f0, f1⟩ := A3.tgt)))
  all_goals
    (try go_wp2_with fail)
    exact bodyPost_ret (results_cell_row (fn := Try.f17) (p := 6) (ty := 27) rfl _ _ _ _ _ (0, 0) _ rfl (A3.fin d false).1 Try.underlying27 rfl (by kernel_rfl)) rfl ⟨rfl, (A3.fin d false).2⟩
end Go.Proofs.Ytkbieadebfpjdaa
