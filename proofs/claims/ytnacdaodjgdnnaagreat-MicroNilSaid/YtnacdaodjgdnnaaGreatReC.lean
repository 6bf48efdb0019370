/-
  A walker's operand, mode by mode.
-/
import Derived.Test.YtnacdaodjgdnnaaGreatReB
import Derived.RegionTactic
namespace Go.Proofs.YtnacdaodjgdnnaaGreat
open Go.RowKit Go.Shelf
set_option maxRecDepth 100000
set_option maxHeartbeats 1000000
set_option linter.unusedVariables false

theorem op_5 {W0 w : World} {B b u : Nat} {s : Ws} (h : Wk W0 B b s w) (hl : s.l.length ≤ 90) (hu : u < 256) :
    Calls Tryz.prog 266 #[.pointer (some ⟨b, 0, none⟩), .int .u8 5, .int .u8 u] w fun e w' => e = .returned (plV (operandM 5 u s).1.1 (operandM 5 u s).1.2) ∧ Wk W0 B b (operandM 5 u s).2 w' ∧ Keeps b w w' := by
  rw [show operandM 5 u s = pageM (offsetM s).1 (offsetM s).2 from rfl]
  have hy := h.byt
  have A0 := at_start h
  obtain ⟨X, hX⟩ : ∃ X, s.r.X = X := ⟨_, rfl⟩
  obtain ⟨Y, hY⟩ : ∃ Y, s.r.Y = Y := ⟨_, rfl⟩
  have hXl : X < 65536 := hX ▸ hy.ok.X
  have hYl : Y < 65536 := hY ▸ hy.ok.Y
  rw [hX, hY] at A0
  clear h
  have H1 := fun W (hA : At W0 B b (w.heap.size + 1) w.heap.size X Y w s W) => hA.offset (by omega)
  have b1 := offset_b s hy
  have c1 := Good.offset.cost s
  have fx1 := Fix.offset s
  generalize offsetM s = p1 at *
  obtain ⟨v1, s1⟩ := p1
  obtain ⟨b1, y1⟩ := b1
  dsimp only at *
  rw [hX, hY] at fx1
  have HP := fun W (hA : At W0 B b (w.heap.size + 1) w.heap.size X Y w s1 W) => hA.page v1 (by omega)
  rw [show pageM v1 s1 = ((directF s1.r.D v1 s1.r.E, true), s1) from rfl] at HP ⊢
  dsimp only at HP ⊢
  generalize directF s1.r.D v1 s1.r.E = d at *
  unfold plV at HP ⊢
  replace H1 := Lib.hid H1
  replace HP := Lib.hid HP
  clear c1 b1 y1 fx1 hy hl hXl hYl hX hY
  replace hu := Lib.hid hu
  replace A0 := Lib.hid A0
  go_enter Tryz.func266, Tryz.ntmps266
  go_upto_region 3 with (fail)
  generalize w.alloc (.cells #[.int .u32 0, .bool false] 194) = W1 at *
  obtain ⟨l1, l2⟩ := A0.out.loads
  first
    | (go_region_held3 (fun W => W.cell? ⟨b, 1, none⟩ = some (.int .u16 X) ∧ W.cell? ⟨b, 2, none⟩ = some (.int .u16 Y))
        (first | exact A0.out.loads | exact A0.out.drew.loads | exact A1.loads | exact A2.loads | exact A2.stored _ _ | go_keep)
        (first
          | (go_at_call 281; (with_reducible refine (H1.out _ ?_).mono ?_); (repeat' (first | (with_reducible exact A0.out) | (with_reducible refine At.drew ?_) | (with_reducible refine At.drewN ?_ _))); rintro e V1 ⟨rfl, A1⟩)
          | (go_at_call 280; (with_reducible refine (HP.out _ ?_).mono ?_); (repeat' (first | (with_reducible exact A1) | (with_reducible refine At.drew ?_) | (with_reducible refine At.drewN ?_ _))); rintro e V2 ⟨rfl, A2⟩; obtain ⟨⟨t0, t1⟩, f0, f1⟩ := A2.tgt)))
    | (go_wp2_with (first
          | (go_at_call 281; (with_reducible refine (H1.out _ ?_).mono ?_); (repeat' (first | (with_reducible exact A0.out) | (with_reducible refine At.drew ?_) | (with_reducible refine At.drewN ?_ _))); rintro e V1 ⟨rfl, A1⟩)
          | (go_at_call 280; (with_reducible refine (HP.out _ ?_).mono ?_); (repeat' (first | (with_reducible exact A1) | (with_reducible refine At.drew ?_) | (with_reducible refine At.drewN ?_ _))); rintro e V2 ⟨rfl, A2⟩; obtain ⟨⟨t0, t1⟩, f0, f1⟩ := A2.tgt)))
  all_goals
    (try go_wp2_with fail)
    exact bodyPost_ret (results_cell_row (fn := Tryz.f266) (p := 6) (ty := 194) rfl _ _ _ _ _ (0, 0) _ rfl (A2.fin d true).1 Tryz.underlying194 rfl (by kernel_rfl)) rfl ⟨rfl, (A2.fin d true).2⟩
theorem op_6 {W0 w : World} {B b u : Nat} {s : Ws} (h : Wk W0 B b s w) (hl : s.l.length ≤ 90) (hu : u < 256) :
    Calls Tryz.prog 266 #[.pointer (some ⟨b, 0, none⟩), .int .u8 6, .int .u8 u] w fun e w' => e = .returned (plV (operandM 6 u s).1.1 (operandM 6 u s).1.2) ∧ Wk W0 B b (operandM 6 u s).2 w' ∧ Keeps b w w' := by
  rw [show operandM 6 u s = pageM (offsetByM s.r.X s).1 (offsetByM s.r.X s).2 from rfl]
  have hy := h.byt
  have A0 := at_start h
  obtain ⟨X, hX⟩ : ∃ X, s.r.X = X := ⟨_, rfl⟩
  obtain ⟨Y, hY⟩ : ∃ Y, s.r.Y = Y := ⟨_, rfl⟩
  have hXl : X < 65536 := hX ▸ hy.ok.X
  have hYl : Y < 65536 := hY ▸ hy.ok.Y
  rw [hX, hY] at A0
  rw [show s.r.X = X from hX]
  clear h
  have H1 := fun W (hA : At W0 B b (w.heap.size + 1) w.heap.size X Y w s W) => hA.offsetBy (by omega) X hXl
  have b1 := offsetBy_b hXl s hy
  have c1 := (Good.offsetBy X).cost s
  have fx1 := Fix.offsetBy X s
  generalize offsetByM X s = p1 at *
  obtain ⟨v1, s1⟩ := p1
  obtain ⟨b1, y1⟩ := b1
  dsimp only at *
  rw [hX, hY] at fx1
  have HP := fun W (hA : At W0 B b (w.heap.size + 1) w.heap.size X Y w s1 W) => hA.page v1 (by omega)
  rw [show pageM v1 s1 = ((directF s1.r.D v1 s1.r.E, true), s1) from rfl] at HP ⊢
  dsimp only at HP ⊢
  generalize directF s1.r.D v1 s1.r.E = d at *
  unfold plV at HP ⊢
  replace H1 := Lib.hid H1
  replace HP := Lib.hid HP
  clear c1 b1 y1 fx1 hy hl hXl hYl hX hY
  replace hu := Lib.hid hu
  replace A0 := Lib.hid A0
  go_enter Tryz.func266, Tryz.ntmps266
  go_upto_region 5 with (fail)
  generalize w.alloc (.cells #[.int .u32 0, .bool false] 194) = W1 at *
  obtain ⟨l1, l2⟩ := A0.out.loads
  first
    | (go_region_held3 (fun W => W.cell? ⟨b, 1, none⟩ = some (.int .u16 X) ∧ W.cell? ⟨b, 2, none⟩ = some (.int .u16 Y))
        (first | exact A0.out.loads | exact A0.out.drew.loads | exact A1.loads | exact A2.loads | exact A2.stored _ _ | go_keep)
        (first
          | (go_at_call 282; (with_reducible refine (H1.out _ ?_).mono ?_); (repeat' (first | (with_reducible exact A0.out) | (with_reducible refine At.drew ?_) | (with_reducible refine At.drewN ?_ _))); rintro e V1 ⟨rfl, A1⟩)
          | (go_at_call 280; (with_reducible refine (HP.out _ ?_).mono ?_); (repeat' (first | (with_reducible exact A1) | (with_reducible refine At.drew ?_) | (with_reducible refine At.drewN ?_ _))); rintro e V2 ⟨rfl, A2⟩; obtain ⟨⟨t0, t1⟩, f0, f1⟩ := A2.tgt)))
    | (go_wp2_with (first
          | (go_at_call 282; (with_reducible refine (H1.out _ ?_).mono ?_); (repeat' (first | (with_reducible exact A0.out) | (with_reducible refine At.drew ?_) | (with_reducible refine At.drewN ?_ _))); rintro e V1 ⟨rfl, A1⟩)
          | (go_at_call 280; (with_reducible refine (HP.out _ ?_).mono ?_); (repeat' (first | (with_reducible exact A1) | (with_reducible refine At.drew ?_) | (with_reducible refine At.drewN ?_ _))); rintro e V2 ⟨rfl, A2⟩; obtain ⟨⟨t0, t1⟩, f0, f1⟩ := A2.tgt)))
  all_goals
    (try go_wp2_with fail)
    exact bodyPost_ret (results_cell_row (fn := Tryz.f266) (p := 6) (ty := 194) rfl _ _ _ _ _ (0, 0) _ rfl (A2.fin d true).1 Tryz.underlying194 rfl (by kernel_rfl)) rfl ⟨rfl, (A2.fin d true).2⟩
theorem op_7 {W0 w : World} {B b u : Nat} {s : Ws} (h : Wk W0 B b s w) (hl : s.l.length ≤ 90) (hu : u < 256) :
    Calls Tryz.prog 266 #[.pointer (some ⟨b, 0, none⟩), .int .u8 7, .int .u8 u] w fun e w' => e = .returned (plV (operandM 7 u s).1.1 (operandM 7 u s).1.2) ∧ Wk W0 B b (operandM 7 u s).2 w' ∧ Keeps b w w' := by
  rw [show operandM 7 u s = pageM (offsetByM s.r.Y s).1 (offsetByM s.r.Y s).2 from rfl]
  have hy := h.byt
  have A0 := at_start h
  obtain ⟨X, hX⟩ : ∃ X, s.r.X = X := ⟨_, rfl⟩
  obtain ⟨Y, hY⟩ : ∃ Y, s.r.Y = Y := ⟨_, rfl⟩
  have hXl : X < 65536 := hX ▸ hy.ok.X
  have hYl : Y < 65536 := hY ▸ hy.ok.Y
  rw [hX, hY] at A0
  rw [show s.r.Y = Y from hY]
  clear h
  have H1 := fun W (hA : At W0 B b (w.heap.size + 1) w.heap.size X Y w s W) => hA.offsetBy (by omega) Y hYl
  have b1 := offsetBy_b hYl s hy
  have c1 := (Good.offsetBy Y).cost s
  have fx1 := Fix.offsetBy Y s
  generalize offsetByM Y s = p1 at *
  obtain ⟨v1, s1⟩ := p1
  obtain ⟨b1, y1⟩ := b1
  dsimp only at *
  rw [hX, hY] at fx1
  have HP := fun W (hA : At W0 B b (w.heap.size + 1) w.heap.size X Y w s1 W) => hA.page v1 (by omega)
  rw [show pageM v1 s1 = ((directF s1.r.D v1 s1.r.E, true), s1) from rfl] at HP ⊢
  dsimp only at HP ⊢
  generalize directF s1.r.D v1 s1.r.E = d at *
  unfold plV at HP ⊢
  replace H1 := Lib.hid H1
  replace HP := Lib.hid HP
  clear c1 b1 y1 fx1 hy hl hXl hYl hX hY
  replace hu := Lib.hid hu
  replace A0 := Lib.hid A0
  go_enter Tryz.func266, Tryz.ntmps266
  go_upto_region 7 with (fail)
  generalize w.alloc (.cells #[.int .u32 0, .bool false] 194) = W1 at *
  obtain ⟨l1, l2⟩ := A0.out.loads
  first
    | (go_region_held3 (fun W => W.cell? ⟨b, 1, none⟩ = some (.int .u16 X) ∧ W.cell? ⟨b, 2, none⟩ = some (.int .u16 Y))
        (first | exact A0.out.loads | exact A0.out.drew.loads | exact A1.loads | exact A2.loads | exact A2.stored _ _ | go_keep)
        (first
          | (go_at_call 282; (with_reducible refine (H1.out _ ?_).mono ?_); (repeat' (first | (with_reducible exact A0.out) | (with_reducible refine At.drew ?_) | (with_reducible refine At.drewN ?_ _))); rintro e V1 ⟨rfl, A1⟩)
          | (go_at_call 280; (with_reducible refine (HP.out _ ?_).mono ?_); (repeat' (first | (with_reducible exact A1) | (with_reducible refine At.drew ?_) | (with_reducible refine At.drewN ?_ _))); rintro e V2 ⟨rfl, A2⟩; obtain ⟨⟨t0, t1⟩, f0, f1⟩ := A2.tgt)))
    | (go_wp2_with (first
          | (go_at_call 282; (with_reducible refine (H1.out _ ?_).mono ?_); (repeat' (first | (with_reducible exact A0.out) | (with_reducible refine At.drew ?_) | (with_reducible refine At.drewN ?_ _))); rintro e V1 ⟨rfl, A1⟩)
          | (go_at_call 280; (with_reducible refine (HP.out _ ?_).mono ?_); (repeat' (first | (with_reducible exact A1) | (with_reducible refine At.drew ?_) | (with_reducible refine At.drewN ?_ _))); rintro e V2 ⟨rfl, A2⟩; obtain ⟨⟨t0, t1⟩, f0, f1⟩ := A2.tgt)))
  all_goals
    (try go_wp2_with fail)
    exact bodyPost_ret (results_cell_row (fn := Tryz.f266) (p := 6) (ty := 194) rfl _ _ _ _ _ (0, 0) _ rfl (A2.fin d true).1 Tryz.underlying194 rfl (by kernel_rfl)) rfl ⟨rfl, (A2.fin d true).2⟩
theorem op_8 {W0 w : World} {B b u : Nat} {s : Ws} (h : Wk W0 B b s w) (hl : s.l.length ≤ 90) (hu : u < 256) :
    Calls Tryz.prog 266 #[.pointer (some ⟨b, 0, none⟩), .int .u8 8, .int .u8 u] w fun e w' => e = .returned (plV (operandM 8 u s).1.1 (operandM 8 u s).1.2) ∧ Wk W0 B b (operandM 8 u s).2 w' ∧ Keeps b w w' := by
  rw [show operandM 8 u s = acrossM (dataM (directM (offsetM s).1 2 (offsetM s).2).1 (directM (offsetM s).1 2 (offsetM s).2).2).1 (dataM (directM (offsetM s).1 2 (offsetM s).2).1 (directM (offsetM s).1 2 (offsetM s).2).2).2 from rfl]
  have hy := h.byt
  have A0 := at_start h
  obtain ⟨X, hX⟩ : ∃ X, s.r.X = X := ⟨_, rfl⟩
  obtain ⟨Y, hY⟩ : ∃ Y, s.r.Y = Y := ⟨_, rfl⟩
  have hXl : X < 65536 := hX ▸ hy.ok.X
  have hYl : Y < 65536 := hY ▸ hy.ok.Y
  rw [hX, hY] at A0
  clear h
  have H1 := fun W (hA : At W0 B b (w.heap.size + 1) w.heap.size X Y w s W) => hA.offset (by omega)
  have b1 := offset_b s hy
  have c1 := Good.offset.cost s
  have fx1 := Fix.offset s
  generalize offsetM s = p1 at *
  obtain ⟨v1, s1⟩ := p1
  obtain ⟨b1, y1⟩ := b1
  dsimp only at *
  rw [hX, hY] at fx1
  have H2 := fun W (hA : At W0 B b (w.heap.size + 1) w.heap.size X Y w s1 W) => hA.direct v1 2 2 rfl (by omega) (by decide) (by omega)
  have b2 := direct_b v1 2 s1 y1
  have c2 := (Good.direct v1 2).cost s1
  have fx2 := Fix.direct v1 2 s1
  generalize directM v1 2 s1 = p2 at *
  obtain ⟨v2, s2⟩ := p2
  obtain ⟨b2, y2⟩ := b2
  dsimp only at *
  rw [fx1.1, fx1.2] at fx2
  have b2 : v2 < 65536 := by simpa using b2
  have H3 := fun W (hA : At W0 B b (w.heap.size + 1) w.heap.size X Y w s2 W) => hA.data v2 (by omega)
  have b3 := data_b v2 s2 y2
  have c3 := (Good.data v2).cost s2
  have fx3 := Fix.data v2 s2
  generalize dataM v2 s2 = p3 at *
  obtain ⟨v3, s3⟩ := p3
  obtain ⟨b3, y3⟩ := b3
  dsimp only at *
  rw [fx2.1, fx2.2] at fx3
  have HP := fun W (hA : At W0 B b (w.heap.size + 1) w.heap.size X Y w s3 W) => hA.across v3 (by omega)
  rw [show acrossM v3 s3 = ((v3 % 16777216, false), s3) from rfl]
  dsimp only
  generalize v3 % 16777216 = d at *
  unfold plV at HP ⊢
  replace H1 := Lib.hid H1
  replace H2 := Lib.hid H2
  replace H3 := Lib.hid H3
  replace HP := Lib.hid HP
  clear c1 b1 y1 fx1 c2 b2 y2 fx2 c3 b3 y3 fx3 hy hl hXl hYl hX hY
  replace hu := Lib.hid hu
  replace A0 := Lib.hid A0
  go_enter Tryz.func266, Tryz.ntmps266
  go_upto_region 9 with (fail)
  generalize w.alloc (.cells #[.int .u32 0, .bool false] 194) = W1 at *
  obtain ⟨l1, l2⟩ := A0.out.loads
  first
    | (go_region_held3 (fun W => W.cell? ⟨b, 1, none⟩ = some (.int .u16 X) ∧ W.cell? ⟨b, 2, none⟩ = some (.int .u16 Y))
        (first | exact A0.out.loads | exact A0.out.drew.loads | exact A1.loads | exact A2.loads | exact A3.loads | exact A4.loads | exact A4.stored _ _ | go_keep)
        (first
          | (go_at_call 281; (with_reducible refine (H1.out _ ?_).mono ?_); (repeat' (first | (with_reducible exact A0.out) | (with_reducible refine At.drew ?_) | (with_reducible refine At.drewN ?_ _))); rintro e V1 ⟨rfl, A1⟩)
          | (go_at_call 285; (with_reducible refine (H2.out _ ?_).mono ?_); (repeat' (first | (with_reducible exact A1) | (with_reducible refine At.drew ?_) | (with_reducible refine At.drewN ?_ _))); rintro e V2 ⟨rfl, A2⟩)
          | (go_at_call 284; (with_reducible refine (H3.out _ ?_).mono ?_); (repeat' (first | (with_reducible exact A2) | (with_reducible refine At.drew ?_) | (with_reducible refine At.drewN ?_ _))); rintro e V3 ⟨rfl, A3⟩)
          | (go_at_call 283; (with_reducible refine (HP.out _ ?_).mono ?_); (repeat' (first | (with_reducible exact A3) | (with_reducible refine At.drew ?_) | (with_reducible refine At.drewN ?_ _))); rintro e V4 ⟨rfl, A4⟩; obtain ⟨⟨t0, t1⟩, f0, f1⟩ := A4.tgt)))
    | (go_wp2_with (first
          | (go_at_call 281; (with_reducible refine (H1.out _ ?_).mono ?_); (repeat' (first | (with_reducible exact A0.out) | (with_reducible refine At.drew ?_) | (with_reducible refine At.drewN ?_ _))); rintro e V1 ⟨rfl, A1⟩)
          | (go_at_call 285; (with_reducible refine (H2.out _ ?_).mono ?_); (repeat' (first | (with_reducible exact A1) | (with_reducible refine At.drew ?_) | (with_reducible refine At.drewN ?_ _))); rintro e V2 ⟨rfl, A2⟩)
          | (go_at_call 284; (with_reducible refine (H3.out _ ?_).mono ?_); (repeat' (first | (with_reducible exact A2) | (with_reducible refine At.drew ?_) | (with_reducible refine At.drewN ?_ _))); rintro e V3 ⟨rfl, A3⟩)
          | (go_at_call 283; (with_reducible refine (HP.out _ ?_).mono ?_); (repeat' (first | (with_reducible exact A3) | (with_reducible refine At.drew ?_) | (with_reducible refine At.drewN ?_ _))); rintro e V4 ⟨rfl, A4⟩; obtain ⟨⟨t0, t1⟩, f0, f1⟩ := A4.tgt)))
  all_goals
    (try go_wp2_with fail)
    exact bodyPost_ret (results_cell_row (fn := Tryz.f266) (p := 6) (ty := 194) rfl _ _ _ _ _ (0, 0) _ rfl (A4.fin d false).1 Tryz.underlying194 rfl (by kernel_rfl)) rfl ⟨rfl, (A4.fin d false).2⟩
theorem op_9 {W0 w : World} {B b u : Nat} {s : Ws} (h : Wk W0 B b s w) (hl : s.l.length ≤ 90) (hu : u < 256) :
    Calls Tryz.prog 266 #[.pointer (some ⟨b, 0, none⟩), .int .u8 9, .int .u8 u] w fun e w' => e = .returned (plV (operandM 9 u s).1.1 (operandM 9 u s).1.2) ∧ Wk W0 B b (operandM 9 u s).2 w' ∧ Keeps b w w' := by
  rw [show operandM 9 u s = acrossM (directM (offsetM s).1 3 (offsetM s).2).1 (directM (offsetM s).1 3 (offsetM s).2).2 from rfl]
  have hy := h.byt
  have A0 := at_start h
  obtain ⟨X, hX⟩ : ∃ X, s.r.X = X := ⟨_, rfl⟩
  obtain ⟨Y, hY⟩ : ∃ Y, s.r.Y = Y := ⟨_, rfl⟩
  have hXl : X < 65536 := hX ▸ hy.ok.X
  have hYl : Y < 65536 := hY ▸ hy.ok.Y
  rw [hX, hY] at A0
  clear h
  have H1 := fun W (hA : At W0 B b (w.heap.size + 1) w.heap.size X Y w s W) => hA.offset (by omega)
  have b1 := offset_b s hy
  have c1 := Good.offset.cost s
  have fx1 := Fix.offset s
  generalize offsetM s = p1 at *
  obtain ⟨v1, s1⟩ := p1
  obtain ⟨b1, y1⟩ := b1
  dsimp only at *
  rw [hX, hY] at fx1
  have H2 := fun W (hA : At W0 B b (w.heap.size + 1) w.heap.size X Y w s1 W) => hA.direct v1 3 3 rfl (by omega) (by decide) (by omega)
  have b2 := direct_b v1 3 s1 y1
  have c2 := (Good.direct v1 3).cost s1
  have fx2 := Fix.direct v1 3 s1
  generalize directM v1 3 s1 = p2 at *
  obtain ⟨v2, s2⟩ := p2
  obtain ⟨b2, y2⟩ := b2
  dsimp only at *
  rw [fx1.1, fx1.2] at fx2
  have b2 : v2 < 16777216 := by simpa using b2
  have HP := fun W (hA : At W0 B b (w.heap.size + 1) w.heap.size X Y w s2 W) => hA.across v2 (by omega)
  rw [show acrossM v2 s2 = ((v2 % 16777216, false), s2) from rfl]
  dsimp only
  generalize v2 % 16777216 = d at *
  unfold plV at HP ⊢
  replace H1 := Lib.hid H1
  replace H2 := Lib.hid H2
  replace HP := Lib.hid HP
  clear c1 b1 y1 fx1 c2 b2 y2 fx2 hy hl hXl hYl hX hY
  replace hu := Lib.hid hu
  replace A0 := Lib.hid A0
  go_enter Tryz.func266, Tryz.ntmps266
  go_upto_region 11 with (fail)
  generalize w.alloc (.cells #[.int .u32 0, .bool false] 194) = W1 at *
  obtain ⟨l1, l2⟩ := A0.out.loads
  first
    | (go_region_held3 (fun W => W.cell? ⟨b, 1, none⟩ = some (.int .u16 X) ∧ W.cell? ⟨b, 2, none⟩ = some (.int .u16 Y))
        (first | exact A0.out.loads | exact A0.out.drew.loads | exact A1.loads | exact A2.loads | exact A3.loads | exact A3.stored _ _ | go_keep)
        (first
          | (go_at_call 281; (with_reducible refine (H1.out _ ?_).mono ?_); (repeat' (first | (with_reducible exact A0.out) | (with_reducible refine At.drew ?_) | (with_reducible refine At.drewN ?_ _))); rintro e V1 ⟨rfl, A1⟩)
          | (go_at_call 285; (with_reducible refine (H2.out _ ?_).mono ?_); (repeat' (first | (with_reducible exact A1) | (with_reducible refine At.drew ?_) | (with_reducible refine At.drewN ?_ _))); rintro e V2 ⟨rfl, A2⟩)
          | (go_at_call 283; (with_reducible refine (HP.out _ ?_).mono ?_); (repeat' (first | (with_reducible exact A2) | (with_reducible refine At.drew ?_) | (with_reducible refine At.drewN ?_ _))); rintro e V3 ⟨rfl, A3⟩; obtain ⟨⟨t0, t1⟩, f0, f1⟩ := A3.tgt)))
    | (go_wp2_with (first
          | (go_at_call 281; (with_reducible refine (H1.out _ ?_).mono ?_); (repeat' (first | (with_reducible exact A0.out) | (with_reducible refine At.drew ?_) | (with_reducible refine At.drewN ?_ _))); rintro e V1 ⟨rfl, A1⟩)
          | (go_at_call 285; (with_reducible refine (H2.out _ ?_).mono ?_); (repeat' (first | (with_reducible exact A1) | (with_reducible refine At.drew ?_) | (with_reducible refine At.drewN ?_ _))); rintro e V2 ⟨rfl, A2⟩)
          | (go_at_call 283; (with_reducible refine (HP.out _ ?_).mono ?_); (repeat' (first | (with_reducible exact A2) | (with_reducible refine At.drew ?_) | (with_reducible refine At.drewN ?_ _))); rintro e V3 ⟨rfl, A3⟩; obtain ⟨⟨t0, t1⟩, f0, f1⟩ := A3.tgt)))
  all_goals
    (try go_wp2_with fail)
    exact bodyPost_ret (results_cell_row (fn := Tryz.f266) (p := 6) (ty := 194) rfl _ _ _ _ _ (0, 0) _ rfl (A3.fin d false).1 Tryz.underlying194 rfl (by kernel_rfl)) rfl ⟨rfl, (A3.fin d false).2⟩
end Go.Proofs.YtnacdaodjgdnnaaGreat
namespace Go.Proofs.YtnacdaodjgdnnaaGreat
open Go.RowKit Go.Shelf
set_option maxRecDepth 100000
set_option maxHeartbeats 1000000
set_option linter.unusedVariables false

theorem op_10 {W0 w : World} {B b u : Nat} {s : Ws} (h : Wk W0 B b s w) (hl : s.l.length ≤ 90) (hu : u < 256) :
    Calls Tryz.prog 266 #[.pointer (some ⟨b, 0, none⟩), .int .u8 10, .int .u8 u] w fun e w' => e = .returned (plV (operandM 10 u s).1.1 (operandM 10 u s).1.2) ∧ Wk W0 B b (operandM 10 u s).2 w' ∧ Keeps b w w' := by
  rw [show operandM 10 u s = acrossM (dataM (directM (offsetByM s.r.X s).1 2 (offsetByM s.r.X s).2).1 (directM (offsetByM s.r.X s).1 2 (offsetByM s.r.X s).2).2).1 (dataM (directM (offsetByM s.r.X s).1 2 (offsetByM s.r.X s).2).1 (directM (offsetByM s.r.X s).1 2 (offsetByM s.r.X s).2).2).2 from rfl]
  have hy := h.byt
  have A0 := at_start h
  obtain ⟨X, hX⟩ : ∃ X, s.r.X = X := ⟨_, rfl⟩
  obtain ⟨Y, hY⟩ : ∃ Y, s.r.Y = Y := ⟨_, rfl⟩
  have hXl : X < 65536 := hX ▸ hy.ok.X
  have hYl : Y < 65536 := hY ▸ hy.ok.Y
  rw [hX, hY] at A0
  rw [show s.r.X = X from hX]
  clear h
  have H1 := fun W (hA : At W0 B b (w.heap.size + 1) w.heap.size X Y w s W) => hA.offsetBy (by omega) X hXl
  have b1 := offsetBy_b hXl s hy
  have c1 := (Good.offsetBy X).cost s
  have fx1 := Fix.offsetBy X s
  generalize offsetByM X s = p1 at *
  obtain ⟨v1, s1⟩ := p1
  obtain ⟨b1, y1⟩ := b1
  dsimp only at *
  rw [hX, hY] at fx1
  have H2 := fun W (hA : At W0 B b (w.heap.size + 1) w.heap.size X Y w s1 W) => hA.direct v1 2 2 rfl (by omega) (by decide) (by omega)
  have b2 := direct_b v1 2 s1 y1
  have c2 := (Good.direct v1 2).cost s1
  have fx2 := Fix.direct v1 2 s1
  generalize directM v1 2 s1 = p2 at *
  obtain ⟨v2, s2⟩ := p2
  obtain ⟨b2, y2⟩ := b2
  dsimp only at *
  rw [fx1.1, fx1.2] at fx2
  have b2 : v2 < 65536 := by simpa using b2
  have H3 := fun W (hA : At W0 B b (w.heap.size + 1) w.heap.size X Y w s2 W) => hA.data v2 (by omega)
  have b3 := data_b v2 s2 y2
  have c3 := (Good.data v2).cost s2
  have fx3 := Fix.data v2 s2
  generalize dataM v2 s2 = p3 at *
  obtain ⟨v3, s3⟩ := p3
  obtain ⟨b3, y3⟩ := b3
  dsimp only at *
  rw [fx2.1, fx2.2] at fx3
  have HP := fun W (hA : At W0 B b (w.heap.size + 1) w.heap.size X Y w s3 W) => hA.across v3 (by omega)
  rw [show acrossM v3 s3 = ((v3 % 16777216, false), s3) from rfl]
  dsimp only
  generalize v3 % 16777216 = d at *
  unfold plV at HP ⊢
  replace H1 := Lib.hid H1
  replace H2 := Lib.hid H2
  replace H3 := Lib.hid H3
  replace HP := Lib.hid HP
  clear c1 b1 y1 fx1 c2 b2 y2 fx2 c3 b3 y3 fx3 hy hl hXl hYl hX hY
  replace hu := Lib.hid hu
  replace A0 := Lib.hid A0
  go_enter Tryz.func266, Tryz.ntmps266
  go_upto_region 13 with (fail)
  generalize w.alloc (.cells #[.int .u32 0, .bool false] 194) = W1 at *
  obtain ⟨l1, l2⟩ := A0.out.loads
  first
    | (go_region_held3 (fun W => W.cell? ⟨b, 1, none⟩ = some (.int .u16 X) ∧ W.cell? ⟨b, 2, none⟩ = some (.int .u16 Y))
        (first | exact A0.out.loads | exact A0.out.drew.loads | exact A1.loads | exact A2.loads | exact A3.loads | exact A4.loads | exact A4.stored _ _ | go_keep)
        (first
          | (go_at_call 282; (with_reducible refine (H1.out _ ?_).mono ?_); (repeat' (first | (with_reducible exact A0.out) | (with_reducible refine At.drew ?_) | (with_reducible refine At.drewN ?_ _))); rintro e V1 ⟨rfl, A1⟩)
          | (go_at_call 285; (with_reducible refine (H2.out _ ?_).mono ?_); (repeat' (first | (with_reducible exact A1) | (with_reducible refine At.drew ?_) | (with_reducible refine At.drewN ?_ _))); rintro e V2 ⟨rfl, A2⟩)
          | (go_at_call 284; (with_reducible refine (H3.out _ ?_).mono ?_); (repeat' (first | (with_reducible exact A2) | (with_reducible refine At.drew ?_) | (with_reducible refine At.drewN ?_ _))); rintro e V3 ⟨rfl, A3⟩)
          | (go_at_call 283; (with_reducible refine (HP.out _ ?_).mono ?_); (repeat' (first | (with_reducible exact A3) | (with_reducible refine At.drew ?_) | (with_reducible refine At.drewN ?_ _))); rintro e V4 ⟨rfl, A4⟩; obtain ⟨⟨t0, t1⟩, f0, f1⟩ := A4.tgt)))
    | (go_wp2_with (first
          | (go_at_call 282; (with_reducible refine (H1.out _ ?_).mono ?_); (repeat' (first | (with_reducible exact A0.out) | (with_reducible refine At.drew ?_) | (with_reducible refine At.drewN ?_ _))); rintro e V1 ⟨rfl, A1⟩)
          | (go_at_call 285; (with_reducible refine (H2.out _ ?_).mono ?_); (repeat' (first | (with_reducible exact A1) | (with_reducible refine At.drew ?_) | (with_reducible refine At.drewN ?_ _))); rintro e V2 ⟨rfl, A2⟩)
          | (go_at_call 284; (with_reducible refine (H3.out _ ?_).mono ?_); (repeat' (first | (with_reducible exact A2) | (with_reducible refine At.drew ?_) | (with_reducible refine At.drewN ?_ _))); rintro e V3 ⟨rfl, A3⟩)
          | (go_at_call 283; (with_reducible refine (HP.out _ ?_).mono ?_); (repeat' (first | (with_reducible exact A3) | (with_reducible refine At.drew ?_) | (with_reducible refine At.drewN ?_ _))); rintro e V4 ⟨rfl, A4⟩; obtain ⟨⟨t0, t1⟩, f0, f1⟩ := A4.tgt)))
  all_goals
    (try go_wp2_with fail)
    exact bodyPost_ret (results_cell_row (fn := Tryz.f266) (p := 6) (ty := 194) rfl _ _ _ _ _ (0, 0) _ rfl (A4.fin d false).1 Tryz.underlying194 rfl (by kernel_rfl)) rfl ⟨rfl, (A4.fin d false).2⟩
theorem op_11 {W0 w : World} {B b u : Nat} {s : Ws} (h : Wk W0 B b s w) (hl : s.l.length ≤ 90) (hu : u < 256) :
    Calls Tryz.prog 266 #[.pointer (some ⟨b, 0, none⟩), .int .u8 11, .int .u8 u] w fun e w' => e = .returned (plV (operandM 11 u s).1.1 (operandM 11 u s).1.2) ∧ Wk W0 B b (operandM 11 u s).2 w' ∧ Keeps b w w' := by
  rw [show operandM 11 u s = acrossM (indexedM (dataM (directM (offsetM s).1 2 (offsetM s).2).1 (directM (offsetM s).1 2 (offsetM s).2).2).1 (dataM (directM (offsetM s).1 2 (offsetM s).2).1 (directM (offsetM s).1 2 (offsetM s).2).2).2.r.Y u (dataM (directM (offsetM s).1 2 (offsetM s).2).1 (directM (offsetM s).1 2 (offsetM s).2).2).2).1 (indexedM (dataM (directM (offsetM s).1 2 (offsetM s).2).1 (directM (offsetM s).1 2 (offsetM s).2).2).1 (dataM (directM (offsetM s).1 2 (offsetM s).2).1 (directM (offsetM s).1 2 (offsetM s).2).2).2.r.Y u (dataM (directM (offsetM s).1 2 (offsetM s).2).1 (directM (offsetM s).1 2 (offsetM s).2).2).2).2 from rfl]
  have hy := h.byt
  have A0 := at_start h
  obtain ⟨X, hX⟩ : ∃ X, s.r.X = X := ⟨_, rfl⟩
  obtain ⟨Y, hY⟩ : ∃ Y, s.r.Y = Y := ⟨_, rfl⟩
  have hXl : X < 65536 := hX ▸ hy.ok.X
  have hYl : Y < 65536 := hY ▸ hy.ok.Y
  rw [hX, hY] at A0
  clear h
  have H1 := fun W (hA : At W0 B b (w.heap.size + 1) w.heap.size X Y w s W) => hA.offset (by omega)
  have b1 := offset_b s hy
  have c1 := Good.offset.cost s
  have fx1 := Fix.offset s
  generalize offsetM s = p1 at *
  obtain ⟨v1, s1⟩ := p1
  obtain ⟨b1, y1⟩ := b1
  dsimp only at *
  rw [hX, hY] at fx1
  have H2 := fun W (hA : At W0 B b (w.heap.size + 1) w.heap.size X Y w s1 W) => hA.direct v1 2 2 rfl (by omega) (by decide) (by omega)
  have b2 := direct_b v1 2 s1 y1
  have c2 := (Good.direct v1 2).cost s1
  have fx2 := Fix.direct v1 2 s1
  generalize directM v1 2 s1 = p2 at *
  obtain ⟨v2, s2⟩ := p2
  obtain ⟨b2, y2⟩ := b2
  dsimp only at *
  rw [fx1.1, fx1.2] at fx2
  have b2 : v2 < 65536 := by simpa using b2
  have H3 := fun W (hA : At W0 B b (w.heap.size + 1) w.heap.size X Y w s2 W) => hA.data v2 (by omega)
  have b3 := data_b v2 s2 y2
  have c3 := (Good.data v2).cost s2
  have fx3 := Fix.data v2 s2
  generalize dataM v2 s2 = p3 at *
  obtain ⟨v3, s3⟩ := p3
  obtain ⟨b3, y3⟩ := b3
  dsimp only at *
  rw [fx2.1, fx2.2] at fx3
  rw [fx3.2] 
  have H4 := fun W (hA : At W0 B b (w.heap.size + 1) w.heap.size X Y w s3 W) => hA.indexed v3 Y u (by omega) (by omega) hYl hu
  have b4 := indexed_b u (by omega) hYl s3 y3
  have c4 := (Good.indexed v3 Y u).cost s3
  have fx4 := Fix.indexed v3 Y u s3
  generalize indexedM v3 Y u s3 = p4 at *
  obtain ⟨v4, s4⟩ := p4
  obtain ⟨b4, y4⟩ := b4
  dsimp only at *
  rw [fx3.1, fx3.2] at fx4
  have HP := fun W (hA : At W0 B b (w.heap.size + 1) w.heap.size X Y w s4 W) => hA.across v4 (by omega)
  rw [show acrossM v4 s4 = ((v4 % 16777216, false), s4) from rfl]
  dsimp only
  generalize v4 % 16777216 = d at *
  unfold plV at HP ⊢
  replace H1 := Lib.hid H1
  replace H2 := Lib.hid H2
  replace H3 := Lib.hid H3
  replace H4 := Lib.hid H4
  replace HP := Lib.hid HP
  clear c1 b1 y1 fx1 c2 b2 y2 fx2 c3 b3 y3 fx3 c4 b4 y4 fx4 hy hl hXl hYl hX hY
  replace hu := Lib.hid hu
  replace A0 := Lib.hid A0
  go_enter Tryz.func266, Tryz.ntmps266
  go_upto_region 15 with (fail)
  generalize w.alloc (.cells #[.int .u32 0, .bool false] 194) = W1 at *
  obtain ⟨l1, l2⟩ := A0.out.loads
  first
    | (go_region_held3 (fun W => W.cell? ⟨b, 1, none⟩ = some (.int .u16 X) ∧ W.cell? ⟨b, 2, none⟩ = some (.int .u16 Y))
        (first | exact A0.out.loads | exact A0.out.drew.loads | exact A1.loads | exact A2.loads | exact A3.loads | exact A4.loads | exact A5.loads | exact A5.stored _ _ | go_keep)
        (first
          | (go_at_call 281; (with_reducible refine (H1.out _ ?_).mono ?_); (repeat' (first | (with_reducible exact A0.out) | (with_reducible refine At.drew ?_) | (with_reducible refine At.drewN ?_ _))); rintro e V1 ⟨rfl, A1⟩)
          | (go_at_call 285; (with_reducible refine (H2.out _ ?_).mono ?_); (repeat' (first | (with_reducible exact A1) | (with_reducible refine At.drew ?_) | (with_reducible refine At.drewN ?_ _))); rintro e V2 ⟨rfl, A2⟩)
          | (go_at_call 284; (with_reducible refine (H3.out _ ?_).mono ?_); (repeat' (first | (with_reducible exact A2) | (with_reducible refine At.drew ?_) | (with_reducible refine At.drewN ?_ _))); rintro e V3 ⟨rfl, A3⟩)
          | (go_at_call 286; (with_reducible refine (H4.out _ ?_).mono ?_); (repeat' (first | (with_reducible exact A3) | (with_reducible refine At.drew ?_) | (with_reducible refine At.drewN ?_ _))); rintro e V4 ⟨rfl, A4⟩)
          | (go_at_call 283; (with_reducible refine (HP.out _ ?_).mono ?_); (repeat' (first | (with_reducible exact A4) | (with_reducible refine At.drew ?_) | (with_reducible refine At.drewN ?_ _))); rintro e V5 ⟨rfl, A5⟩; obtain ⟨⟨t0, t1⟩, f0, f1⟩ := A5.tgt)))
    | (go_wp2_with (first
          | (go_at_call 281; (with_reducible refine (H1.out _ ?_).mono ?_); (repeat' (first | (with_reducible exact A0.out) | (with_reducible refine At.drew ?_) | (with_reducible refine At.drewN ?_ _))); rintro e V1 ⟨rfl, A1⟩)
          | (go_at_call 285; (with_reducible refine (H2.out _ ?_).mono ?_); (repeat' (first | (with_reducible exact A1) | (with_reducible refine At.drew ?_) | (with_reducible refine At.drewN ?_ _))); rintro e V2 ⟨rfl, A2⟩)
          | (go_at_call 284; (with_reducible refine (H3.out _ ?_).mono ?_); (repeat' (first | (with_reducible exact A2) | (with_reducible refine At.drew ?_) | (with_reducible refine At.drewN ?_ _))); rintro e V3 ⟨rfl, A3⟩)
          | (go_at_call 286; (with_reducible refine (H4.out _ ?_).mono ?_); (repeat' (first | (with_reducible exact A3) | (with_reducible refine At.drew ?_) | (with_reducible refine At.drewN ?_ _))); rintro e V4 ⟨rfl, A4⟩)
          | (go_at_call 283; (with_reducible refine (HP.out _ ?_).mono ?_); (repeat' (first | (with_reducible exact A4) | (with_reducible refine At.drew ?_) | (with_reducible refine At.drewN ?_ _))); rintro e V5 ⟨rfl, A5⟩; obtain ⟨⟨t0, t1⟩, f0, f1⟩ := A5.tgt)))
  all_goals
    (try go_wp2_with fail)
    exact bodyPost_ret (results_cell_row (fn := Tryz.f266) (p := 6) (ty := 194) rfl _ _ _ _ _ (0, 0) _ rfl (A5.fin d false).1 Tryz.underlying194 rfl (by kernel_rfl)) rfl ⟨rfl, (A5.fin d false).2⟩
theorem op_12 {W0 w : World} {B b u : Nat} {s : Ws} (h : Wk W0 B b s w) (hl : s.l.length ≤ 90) (hu : u < 256) :
    Calls Tryz.prog 266 #[.pointer (some ⟨b, 0, none⟩), .int .u8 12, .int .u8 u] w fun e w' => e = .returned (plV (operandM 12 u s).1.1 (operandM 12 u s).1.2) ∧ Wk W0 B b (operandM 12 u s).2 w' ∧ Keeps b w w' := by
  rw [show operandM 12 u s = acrossM ((directM (offsetM s).1 3 (offsetM s).2).1 + (directM (offsetM s).1 3 (offsetM s).2).2.r.Y) (directM (offsetM s).1 3 (offsetM s).2).2 from rfl]
  have hy := h.byt
  have A0 := at_start h
  obtain ⟨X, hX⟩ : ∃ X, s.r.X = X := ⟨_, rfl⟩
  obtain ⟨Y, hY⟩ : ∃ Y, s.r.Y = Y := ⟨_, rfl⟩
  have hXl : X < 65536 := hX ▸ hy.ok.X
  have hYl : Y < 65536 := hY ▸ hy.ok.Y
  rw [hX, hY] at A0
  clear h
  have H1 := fun W (hA : At W0 B b (w.heap.size + 1) w.heap.size X Y w s W) => hA.offset (by omega)
  have b1 := offset_b s hy
  have c1 := Good.offset.cost s
  have fx1 := Fix.offset s
  generalize offsetM s = p1 at *
  obtain ⟨v1, s1⟩ := p1
  obtain ⟨b1, y1⟩ := b1
  dsimp only at *
  rw [hX, hY] at fx1
  have H2 := fun W (hA : At W0 B b (w.heap.size + 1) w.heap.size X Y w s1 W) => hA.direct v1 3 3 rfl (by omega) (by decide) (by omega)
  have b2 := direct_b v1 3 s1 y1
  have c2 := (Good.direct v1 3).cost s1
  have fx2 := Fix.direct v1 3 s1
  generalize directM v1 3 s1 = p2 at *
  obtain ⟨v2, s2⟩ := p2
  obtain ⟨b2, y2⟩ := b2
  dsimp only at *
  rw [fx1.1, fx1.2] at fx2
  have b2 : v2 < 16777216 := by simpa using b2
  rw [fx2.2]
  obtain ⟨z, hz⟩ : ∃ z, v2 + Y = z := ⟨_, rfl⟩
  obtain ⟨e0, e1, e2, e3, e4⟩ := u32_sum hz (by omega) hYl
  rw [hz]
  have HP := fun W (hA : At W0 B b (w.heap.size + 1) w.heap.size X Y w s2 W) => hA.across z (by omega)
  rw [show acrossM z s2 = ((z % 16777216, false), s2) from rfl]
  dsimp only
  generalize z % 16777216 = d at *
  unfold plV at HP ⊢
  replace e4 := Lib.hid e4
  clear hz
  replace H1 := Lib.hid H1
  replace H2 := Lib.hid H2
  replace HP := Lib.hid HP
  clear c1 b1 y1 fx1 c2 b2 y2 fx2 hy hl hXl hYl hX hY
  replace hu := Lib.hid hu
  replace A0 := Lib.hid A0
  go_enter Tryz.func266, Tryz.ntmps266
  go_upto_region 17 with (fail)
  generalize w.alloc (.cells #[.int .u32 0, .bool false] 194) = W1 at *
  obtain ⟨l1, l2⟩ := A0.out.loads
  first
    | (go_region_held3 (fun W => W.cell? ⟨b, 1, none⟩ = some (.int .u16 X) ∧ W.cell? ⟨b, 2, none⟩ = some (.int .u16 Y))
        (first | exact A0.out.loads | exact A0.out.drew.loads | exact A1.loads | exact A2.loads | exact A3.loads | exact A3.stored _ _ | go_keep)
        (first
          | (go_at_call 281; (with_reducible refine (H1.out _ ?_).mono ?_); (repeat' (first | (with_reducible exact A0.out) | (with_reducible refine At.drew ?_) | (with_reducible refine At.drewN ?_ _))); rintro e V1 ⟨rfl, A1⟩)
          | (go_at_call 285; (with_reducible refine (H2.out _ ?_).mono ?_); (repeat' (first | (with_reducible exact A1) | (with_reducible refine At.drew ?_) | (with_reducible refine At.drewN ?_ _))); rintro e V2 ⟨rfl, A2⟩)
          | (go_at_call 283; (with_reducible refine (HP.out _ ?_).mono ?_); (repeat' (first | (with_reducible exact A2) | (with_reducible refine At.drew ?_) | (with_reducible refine At.drewN ?_ _))); rintro e V3 ⟨rfl, A3⟩; obtain ⟨⟨t0, t1⟩, f0, f1⟩ := A3.tgt)))
    | (go_wp2_with (first
          | (go_at_call 281; (with_reducible refine (H1.out _ ?_).mono ?_); (repeat' (first | (with_reducible exact A0.out) | (with_reducible refine At.drew ?_) | (with_reducible refine At.drewN ?_ _))); rintro e V1 ⟨rfl, A1⟩)
          | (go_at_call 285; (with_reducible refine (H2.out _ ?_).mono ?_); (repeat' (first | (with_reducible exact A1) | (with_reducible refine At.drew ?_) | (with_reducible refine At.drewN ?_ _))); rintro e V2 ⟨rfl, A2⟩)
          | (go_at_call 283; (with_reducible refine (HP.out _ ?_).mono ?_); (repeat' (first | (with_reducible exact A2) | (with_reducible refine At.drew ?_) | (with_reducible refine At.drewN ?_ _))); rintro e V3 ⟨rfl, A3⟩; obtain ⟨⟨t0, t1⟩, f0, f1⟩ := A3.tgt)))
  all_goals
    (try go_wp2_with fail)
    exact bodyPost_ret (results_cell_row (fn := Tryz.f266) (p := 6) (ty := 194) rfl _ _ _ _ _ (0, 0) _ rfl (A3.fin d false).1 Tryz.underlying194 rfl (by kernel_rfl)) rfl ⟨rfl, (A3.fin d false).2⟩
theorem op_13 {W0 w : World} {B b u : Nat} {s : Ws} (h : Wk W0 B b s w) (hl : s.l.length ≤ 90) (hu : u < 256) :
    Calls Tryz.prog 266 #[.pointer (some ⟨b, 0, none⟩), .int .u8 13, .int .u8 u] w fun e w' => e = .returned (plV (operandM 13 u s).1.1 (operandM 13 u s).1.2) ∧ Wk W0 B b (operandM 13 u s).2 w' ∧ Keeps b w w' := by
  rw [show operandM 13 u s = acrossM (dataM (fetchM 2 s).1 (fetchM 2 s).2).1 (dataM (fetchM 2 s).1 (fetchM 2 s).2).2 from rfl]
  have hy := h.byt
  have A0 := at_start h
  obtain ⟨X, hX⟩ : ∃ X, s.r.X = X := ⟨_, rfl⟩
  obtain ⟨Y, hY⟩ : ∃ Y, s.r.Y = Y := ⟨_, rfl⟩
  have hXl : X < 65536 := hX ▸ hy.ok.X
  have hYl : Y < 65536 := hY ▸ hy.ok.Y
  rw [hX, hY] at A0
  clear h
  have H1 := fun W (hA : At W0 B b (w.heap.size + 1) w.heap.size X Y w s W) => hA.fetch 2 2 rfl (by decide) (by omega)
  have b1 := fetch_b 2 s hy
  have c1 := (Good.fetch 2).cost s
  have fx1 := Fix.fetch 2 s
  generalize fetchM 2 s = p1 at *
  obtain ⟨v1, s1⟩ := p1
  obtain ⟨b1, y1⟩ := b1
  dsimp only at *
  rw [hX, hY] at fx1
  have b1 : v1 < 65536 := by simpa using b1
  have H2 := fun W (hA : At W0 B b (w.heap.size + 1) w.heap.size X Y w s1 W) => hA.data v1 (by omega)
  have b2 := data_b v1 s1 y1
  have c2 := (Good.data v1).cost s1
  have fx2 := Fix.data v1 s1
  generalize dataM v1 s1 = p2 at *
  obtain ⟨v2, s2⟩ := p2
  obtain ⟨b2, y2⟩ := b2
  dsimp only at *
  rw [fx1.1, fx1.2] at fx2
  have HP := fun W (hA : At W0 B b (w.heap.size + 1) w.heap.size X Y w s2 W) => hA.across v2 (by omega)
  rw [show acrossM v2 s2 = ((v2 % 16777216, false), s2) from rfl]
  dsimp only
  generalize v2 % 16777216 = d at *
  unfold plV at HP ⊢
  replace H1 := Lib.hid H1
  replace H2 := Lib.hid H2
  replace HP := Lib.hid HP
  clear c1 b1 y1 fx1 c2 b2 y2 fx2 hy hl hXl hYl hX hY
  replace hu := Lib.hid hu
  replace A0 := Lib.hid A0
  go_enter Tryz.func266, Tryz.ntmps266
  go_upto_region 19 with (fail)
  generalize w.alloc (.cells #[.int .u32 0, .bool false] 194) = W1 at *
  obtain ⟨l1, l2⟩ := A0.out.loads
  first
    | (go_region_held3 (fun W => W.cell? ⟨b, 1, none⟩ = some (.int .u16 X) ∧ W.cell? ⟨b, 2, none⟩ = some (.int .u16 Y))
        (first | exact A0.out.loads | exact A0.out.drew.loads | exact A1.loads | exact A2.loads | exact A3.loads | exact A3.stored _ _ | go_keep)
        (first
          | (go_at_call 59; (with_reducible refine (H1.out _ ?_).mono ?_); (repeat' (first | (with_reducible exact A0.out) | (with_reducible refine At.drew ?_) | (with_reducible refine At.drewN ?_ _))); rintro e V1 ⟨rfl, A1⟩)
          | (go_at_call 284; (with_reducible refine (H2.out _ ?_).mono ?_); (repeat' (first | (with_reducible exact A1) | (with_reducible refine At.drew ?_) | (with_reducible refine At.drewN ?_ _))); rintro e V2 ⟨rfl, A2⟩)
          | (go_at_call 283; (with_reducible refine (HP.out _ ?_).mono ?_); (repeat' (first | (with_reducible exact A2) | (with_reducible refine At.drew ?_) | (with_reducible refine At.drewN ?_ _))); rintro e V3 ⟨rfl, A3⟩; obtain ⟨⟨t0, t1⟩, f0, f1⟩ := A3.tgt)))
    | (go_wp2_with (first
          | (go_at_call 59; (with_reducible refine (H1.out _ ?_).mono ?_); (repeat' (first | (with_reducible exact A0.out) | (with_reducible refine At.drew ?_) | (with_reducible refine At.drewN ?_ _))); rintro e V1 ⟨rfl, A1⟩)
          | (go_at_call 284; (with_reducible refine (H2.out _ ?_).mono ?_); (repeat' (first | (with_reducible exact A1) | (with_reducible refine At.drew ?_) | (with_reducible refine At.drewN ?_ _))); rintro e V2 ⟨rfl, A2⟩)
          | (go_at_call 283; (with_reducible refine (HP.out _ ?_).mono ?_); (repeat' (first | (with_reducible exact A2) | (with_reducible refine At.drew ?_) | (with_reducible refine At.drewN ?_ _))); rintro e V3 ⟨rfl, A3⟩; obtain ⟨⟨t0, t1⟩, f0, f1⟩ := A3.tgt)))
  all_goals
    (try go_wp2_with fail)
    exact bodyPost_ret (results_cell_row (fn := Tryz.f266) (p := 6) (ty := 194) rfl _ _ _ _ _ (0, 0) _ rfl (A3.fin d false).1 Tryz.underlying194 rfl (by kernel_rfl)) rfl ⟨rfl, (A3.fin d false).2⟩
end Go.Proofs.YtnacdaodjgdnnaaGreat
namespace Go.Proofs.YtnacdaodjgdnnaaGreat
open Go.RowKit Go.Shelf
set_option maxRecDepth 100000
set_option maxHeartbeats 1000000
set_option linter.unusedVariables false

theorem op_14 {W0 w : World} {B b u : Nat} {s : Ws} (h : Wk W0 B b s w) (hl : s.l.length ≤ 90) (hu : u < 256) :
    Calls Tryz.prog 266 #[.pointer (some ⟨b, 0, none⟩), .int .u8 14, .int .u8 u] w fun e w' => e = .returned (plV (operandM 14 u s).1.1 (operandM 14 u s).1.2) ∧ Wk W0 B b (operandM 14 u s).2 w' ∧ Keeps b w w' := by
  rw [show operandM 14 u s = acrossM (indexedM (dataM (fetchM 2 s).1 (fetchM 2 s).2).1 (dataM (fetchM 2 s).1 (fetchM 2 s).2).2.r.X u (dataM (fetchM 2 s).1 (fetchM 2 s).2).2).1 (indexedM (dataM (fetchM 2 s).1 (fetchM 2 s).2).1 (dataM (fetchM 2 s).1 (fetchM 2 s).2).2.r.X u (dataM (fetchM 2 s).1 (fetchM 2 s).2).2).2 by (unfold operandM; (repeat rw [if_neg (by decide)]); rw [if_pos rfl]; simp only [bindM, getM])]
  have hy := h.byt
  have A0 := at_start h
  obtain ⟨X, hX⟩ : ∃ X, s.r.X = X := ⟨_, rfl⟩
  obtain ⟨Y, hY⟩ : ∃ Y, s.r.Y = Y := ⟨_, rfl⟩
  have hXl : X < 65536 := hX ▸ hy.ok.X
  have hYl : Y < 65536 := hY ▸ hy.ok.Y
  rw [hX, hY] at A0
  clear h
  have H1 := fun W (hA : At W0 B b (w.heap.size + 1) w.heap.size X Y w s W) => hA.fetch 2 2 rfl (by decide) (by omega)
  have b1 := fetch_b 2 s hy
  have c1 := (Good.fetch 2).cost s
  have fx1 := Fix.fetch 2 s
  generalize fetchM 2 s = p1 at *
  obtain ⟨v1, s1⟩ := p1
  obtain ⟨b1, y1⟩ := b1
  dsimp only at *
  rw [hX, hY] at fx1
  have b1 : v1 < 65536 := by simpa using b1
  have H2 := fun W (hA : At W0 B b (w.heap.size + 1) w.heap.size X Y w s1 W) => hA.data v1 (by omega)
  have b2 := data_b v1 s1 y1
  have c2 := (Good.data v1).cost s1
  have fx2 := Fix.data v1 s1
  generalize dataM v1 s1 = p2 at *
  obtain ⟨v2, s2⟩ := p2
  obtain ⟨b2, y2⟩ := b2
  dsimp only at *
  rw [fx1.1, fx1.2] at fx2
  rw [fx2.1] 
  have H3 := fun W (hA : At W0 B b (w.heap.size + 1) w.heap.size X Y w s2 W) => hA.indexed v2 X u (by omega) (by omega) hXl hu
  have b3 := indexed_b u (by omega) hXl s2 y2
  have c3 := (Good.indexed v2 X u).cost s2
  have fx3 := Fix.indexed v2 X u s2
  generalize indexedM v2 X u s2 = p3 at *
  obtain ⟨v3, s3⟩ := p3
  obtain ⟨b3, y3⟩ := b3
  dsimp only at *
  rw [fx2.1, fx2.2] at fx3
  have HP := fun W (hA : At W0 B b (w.heap.size + 1) w.heap.size X Y w s3 W) => hA.across v3 (by omega)
  rw [show acrossM v3 s3 = ((v3 % 16777216, false), s3) from rfl]
  dsimp only
  generalize v3 % 16777216 = d at *
  unfold plV at HP ⊢
  replace H1 := Lib.hid H1
  replace H2 := Lib.hid H2
  replace H3 := Lib.hid H3
  replace HP := Lib.hid HP
  clear c1 b1 y1 fx1 c2 b2 y2 fx2 c3 b3 y3 fx3 hy hl hXl hYl hX hY
  replace hu := Lib.hid hu
  replace A0 := Lib.hid A0
  go_enter Tryz.func266, Tryz.ntmps266
  go_upto_region 21 with (fail)
  generalize w.alloc (.cells #[.int .u32 0, .bool false] 194) = W1 at *
  obtain ⟨l1, l2⟩ := A0.out.loads
  first
    | (go_region_held3 (fun W => W.cell? ⟨b, 1, none⟩ = some (.int .u16 X) ∧ W.cell? ⟨b, 2, none⟩ = some (.int .u16 Y))
        (first | exact A0.out.loads | exact A0.out.drew.loads | exact A1.loads | exact A2.loads | exact A3.loads | exact A4.loads | exact A4.stored _ _ | go_keep)
        (first
          | (go_at_call 59; (with_reducible refine (H1.out _ ?_).mono ?_); (repeat' (first | (with_reducible exact A0.out) | (with_reducible refine At.drew ?_) | (with_reducible refine At.drewN ?_ _))); rintro e V1 ⟨rfl, A1⟩)
          | (go_at_call 284; (with_reducible refine (H2.out _ ?_).mono ?_); (repeat' (first | (with_reducible exact A1) | (with_reducible refine At.drew ?_) | (with_reducible refine At.drewN ?_ _))); rintro e V2 ⟨rfl, A2⟩)
          | (go_at_call 286; (with_reducible refine (H3.out _ ?_).mono ?_); (repeat' (first | (with_reducible exact A2) | (with_reducible refine At.drew ?_) | (with_reducible refine At.drewN ?_ _))); rintro e V3 ⟨rfl, A3⟩)
          | (go_at_call 283; (with_reducible refine (HP.out _ ?_).mono ?_); (repeat' (first | (with_reducible exact A3) | (with_reducible refine At.drew ?_) | (with_reducible refine At.drewN ?_ _))); rintro e V4 ⟨rfl, A4⟩; obtain ⟨⟨t0, t1⟩, f0, f1⟩ := A4.tgt)))
    | (go_wp2_with (first
          | (go_at_call 59; (with_reducible refine (H1.out _ ?_).mono ?_); (repeat' (first | (with_reducible exact A0.out) | (with_reducible refine At.drew ?_) | (with_reducible refine At.drewN ?_ _))); rintro e V1 ⟨rfl, A1⟩)
          | (go_at_call 284; (with_reducible refine (H2.out _ ?_).mono ?_); (repeat' (first | (with_reducible exact A1) | (with_reducible refine At.drew ?_) | (with_reducible refine At.drewN ?_ _))); rintro e V2 ⟨rfl, A2⟩)
          | (go_at_call 286; (with_reducible refine (H3.out _ ?_).mono ?_); (repeat' (first | (with_reducible exact A2) | (with_reducible refine At.drew ?_) | (with_reducible refine At.drewN ?_ _))); rintro e V3 ⟨rfl, A3⟩)
          | (go_at_call 283; (with_reducible refine (HP.out _ ?_).mono ?_); (repeat' (first | (with_reducible exact A3) | (with_reducible refine At.drew ?_) | (with_reducible refine At.drewN ?_ _))); rintro e V4 ⟨rfl, A4⟩; obtain ⟨⟨t0, t1⟩, f0, f1⟩ := A4.tgt)))
  all_goals
    (try go_wp2_with fail)
    exact bodyPost_ret (results_cell_row (fn := Tryz.f266) (p := 6) (ty := 194) rfl _ _ _ _ _ (0, 0) _ rfl (A4.fin d false).1 Tryz.underlying194 rfl (by kernel_rfl)) rfl ⟨rfl, (A4.fin d false).2⟩
theorem op_15 {W0 w : World} {B b u : Nat} {s : Ws} (h : Wk W0 B b s w) (hl : s.l.length ≤ 90) (hu : u < 256) :
    Calls Tryz.prog 266 #[.pointer (some ⟨b, 0, none⟩), .int .u8 15, .int .u8 u] w fun e w' => e = .returned (plV (operandM 15 u s).1.1 (operandM 15 u s).1.2) ∧ Wk W0 B b (operandM 15 u s).2 w' ∧ Keeps b w w' := by
  rw [show operandM 15 u s = acrossM (indexedM (dataM (fetchM 2 s).1 (fetchM 2 s).2).1 (dataM (fetchM 2 s).1 (fetchM 2 s).2).2.r.Y u (dataM (fetchM 2 s).1 (fetchM 2 s).2).2).1 (indexedM (dataM (fetchM 2 s).1 (fetchM 2 s).2).1 (dataM (fetchM 2 s).1 (fetchM 2 s).2).2.r.Y u (dataM (fetchM 2 s).1 (fetchM 2 s).2).2).2 by (unfold operandM; (repeat rw [if_neg (by decide)]); rw [if_pos rfl]; simp only [bindM, getM])]
  have hy := h.byt
  have A0 := at_start h
  obtain ⟨X, hX⟩ : ∃ X, s.r.X = X := ⟨_, rfl⟩
  obtain ⟨Y, hY⟩ : ∃ Y, s.r.Y = Y := ⟨_, rfl⟩
  have hXl : X < 65536 := hX ▸ hy.ok.X
  have hYl : Y < 65536 := hY ▸ hy.ok.Y
  rw [hX, hY] at A0
  clear h
  have H1 := fun W (hA : At W0 B b (w.heap.size + 1) w.heap.size X Y w s W) => hA.fetch 2 2 rfl (by decide) (by omega)
  have b1 := fetch_b 2 s hy
  have c1 := (Good.fetch 2).cost s
  have fx1 := Fix.fetch 2 s
  generalize fetchM 2 s = p1 at *
  obtain ⟨v1, s1⟩ := p1
  obtain ⟨b1, y1⟩ := b1
  dsimp only at *
  rw [hX, hY] at fx1
  have b1 : v1 < 65536 := by simpa using b1
  have H2 := fun W (hA : At W0 B b (w.heap.size + 1) w.heap.size X Y w s1 W) => hA.data v1 (by omega)
  have b2 := data_b v1 s1 y1
  have c2 := (Good.data v1).cost s1
  have fx2 := Fix.data v1 s1
  generalize dataM v1 s1 = p2 at *
  obtain ⟨v2, s2⟩ := p2
  obtain ⟨b2, y2⟩ := b2
  dsimp only at *
  rw [fx1.1, fx1.2] at fx2
  rw [fx2.2] 
  have H3 := fun W (hA : At W0 B b (w.heap.size + 1) w.heap.size X Y w s2 W) => hA.indexed v2 Y u (by omega) (by omega) hYl hu
  have b3 := indexed_b u (by omega) hYl s2 y2
  have c3 := (Good.indexed v2 Y u).cost s2
  have fx3 := Fix.indexed v2 Y u s2
  generalize indexedM v2 Y u s2 = p3 at *
  obtain ⟨v3, s3⟩ := p3
  obtain ⟨b3, y3⟩ := b3
  dsimp only at *
  rw [fx2.1, fx2.2] at fx3
  have HP := fun W (hA : At W0 B b (w.heap.size + 1) w.heap.size X Y w s3 W) => hA.across v3 (by omega)
  rw [show acrossM v3 s3 = ((v3 % 16777216, false), s3) from rfl]
  dsimp only
  generalize v3 % 16777216 = d at *
  unfold plV at HP ⊢
  replace H1 := Lib.hid H1
  replace H2 := Lib.hid H2
  replace H3 := Lib.hid H3
  replace HP := Lib.hid HP
  clear c1 b1 y1 fx1 c2 b2 y2 fx2 c3 b3 y3 fx3 hy hl hXl hYl hX hY
  replace hu := Lib.hid hu
  replace A0 := Lib.hid A0
  go_enter Tryz.func266, Tryz.ntmps266
  go_upto_region 23 with (fail)
  generalize w.alloc (.cells #[.int .u32 0, .bool false] 194) = W1 at *
  obtain ⟨l1, l2⟩ := A0.out.loads
  first
    | (go_region_held3 (fun W => W.cell? ⟨b, 1, none⟩ = some (.int .u16 X) ∧ W.cell? ⟨b, 2, none⟩ = some (.int .u16 Y))
        (first | exact A0.out.loads | exact A0.out.drew.loads | exact A1.loads | exact A2.loads | exact A3.loads | exact A4.loads | exact A4.stored _ _ | go_keep)
        (first
          | (go_at_call 59; (with_reducible refine (H1.out _ ?_).mono ?_); (repeat' (first | (with_reducible exact A0.out) | (with_reducible refine At.drew ?_) | (with_reducible refine At.drewN ?_ _))); rintro e V1 ⟨rfl, A1⟩)
          | (go_at_call 284; (with_reducible refine (H2.out _ ?_).mono ?_); (repeat' (first | (with_reducible exact A1) | (with_reducible refine At.drew ?_) | (with_reducible refine At.drewN ?_ _))); rintro e V2 ⟨rfl, A2⟩)
          | (go_at_call 286; (with_reducible refine (H3.out _ ?_).mono ?_); (repeat' (first | (with_reducible exact A2) | (with_reducible refine At.drew ?_) | (with_reducible refine At.drewN ?_ _))); rintro e V3 ⟨rfl, A3⟩)
          | (go_at_call 283; (with_reducible refine (HP.out _ ?_).mono ?_); (repeat' (first | (with_reducible exact A3) | (with_reducible refine At.drew ?_) | (with_reducible refine At.drewN ?_ _))); rintro e V4 ⟨rfl, A4⟩; obtain ⟨⟨t0, t1⟩, f0, f1⟩ := A4.tgt)))
    | (go_wp2_with (first
          | (go_at_call 59; (with_reducible refine (H1.out _ ?_).mono ?_); (repeat' (first | (with_reducible exact A0.out) | (with_reducible refine At.drew ?_) | (with_reducible refine At.drewN ?_ _))); rintro e V1 ⟨rfl, A1⟩)
          | (go_at_call 284; (with_reducible refine (H2.out _ ?_).mono ?_); (repeat' (first | (with_reducible exact A1) | (with_reducible refine At.drew ?_) | (with_reducible refine At.drewN ?_ _))); rintro e V2 ⟨rfl, A2⟩)
          | (go_at_call 286; (with_reducible refine (H3.out _ ?_).mono ?_); (repeat' (first | (with_reducible exact A2) | (with_reducible refine At.drew ?_) | (with_reducible refine At.drewN ?_ _))); rintro e V3 ⟨rfl, A3⟩)
          | (go_at_call 283; (with_reducible refine (HP.out _ ?_).mono ?_); (repeat' (first | (with_reducible exact A3) | (with_reducible refine At.drew ?_) | (with_reducible refine At.drewN ?_ _))); rintro e V4 ⟨rfl, A4⟩; obtain ⟨⟨t0, t1⟩, f0, f1⟩ := A4.tgt)))
  all_goals
    (try go_wp2_with fail)
    exact bodyPost_ret (results_cell_row (fn := Tryz.f266) (p := 6) (ty := 194) rfl _ _ _ _ _ (0, 0) _ rfl (A4.fin d false).1 Tryz.underlying194 rfl (by kernel_rfl)) rfl ⟨rfl, (A4.fin d false).2⟩
theorem op_16 {W0 w : World} {B b u : Nat} {s : Ws} (h : Wk W0 B b s w) (hl : s.l.length ≤ 90) (hu : u < 256) :
    Calls Tryz.prog 266 #[.pointer (some ⟨b, 0, none⟩), .int .u8 16, .int .u8 u] w fun e w' => e = .returned (plV (operandM 16 u s).1.1 (operandM 16 u s).1.2) ∧ Wk W0 B b (operandM 16 u s).2 w' ∧ Keeps b w w' := by
  rw [show operandM 16 u s = acrossM (fetchM 3 s).1 (fetchM 3 s).2 from rfl]
  have hy := h.byt
  have A0 := at_start h
  obtain ⟨X, hX⟩ : ∃ X, s.r.X = X := ⟨_, rfl⟩
  obtain ⟨Y, hY⟩ : ∃ Y, s.r.Y = Y := ⟨_, rfl⟩
  have hXl : X < 65536 := hX ▸ hy.ok.X
  have hYl : Y < 65536 := hY ▸ hy.ok.Y
  rw [hX, hY] at A0
  clear h
  have H1 := fun W (hA : At W0 B b (w.heap.size + 1) w.heap.size X Y w s W) => hA.fetch 3 3 rfl (by decide) (by omega)
  have b1 := fetch_b 3 s hy
  have c1 := (Good.fetch 3).cost s
  have fx1 := Fix.fetch 3 s
  generalize fetchM 3 s = p1 at *
  obtain ⟨v1, s1⟩ := p1
  obtain ⟨b1, y1⟩ := b1
  dsimp only at *
  rw [hX, hY] at fx1
  have b1 : v1 < 16777216 := by simpa using b1
  have HP := fun W (hA : At W0 B b (w.heap.size + 1) w.heap.size X Y w s1 W) => hA.across v1 (by omega)
  rw [show acrossM v1 s1 = ((v1 % 16777216, false), s1) from rfl]
  dsimp only
  generalize v1 % 16777216 = d at *
  unfold plV at HP ⊢
  replace H1 := Lib.hid H1
  replace HP := Lib.hid HP
  clear c1 b1 y1 fx1 hy hl hXl hYl hX hY
  replace hu := Lib.hid hu
  replace A0 := Lib.hid A0
  go_enter Tryz.func266, Tryz.ntmps266
  go_upto_region 25 with (fail)
  generalize w.alloc (.cells #[.int .u32 0, .bool false] 194) = W1 at *
  obtain ⟨l1, l2⟩ := A0.out.loads
  go_wp2_with fail
  refine (H1.out _ A0.out).mono ?_
  rintro e V1 ⟨rfl, A1⟩
  clear l1 l2
  obtain ⟨l1, l2⟩ := A1.loads
  go_wp2_with fail
  refine (HP.out _ A1).mono ?_
  rintro e V2 ⟨rfl, A2⟩
  clear l1 l2
  obtain ⟨⟨t0, t1⟩, f0, f1⟩ := A2.tgt
  go_wp2_with fail
  exact bodyPost_ret (results_cell_row (fn := Tryz.f266) (p := 6) (ty := 194) rfl _ _ _ _ _ (0, 0) _ rfl (A2.fin d false).1 Tryz.underlying194 rfl (by kernel_rfl)) rfl ⟨rfl, (A2.fin d false).2⟩
theorem op_17 {W0 w : World} {B b u : Nat} {s : Ws} (h : Wk W0 B b s w) (hl : s.l.length ≤ 90) (hu : u < 256) :
    Calls Tryz.prog 266 #[.pointer (some ⟨b, 0, none⟩), .int .u8 17, .int .u8 u] w fun e w' => e = .returned (plV (operandM 17 u s).1.1 (operandM 17 u s).1.2) ∧ Wk W0 B b (operandM 17 u s).2 w' ∧ Keeps b w w' := by
  rw [show operandM 17 u s = acrossM ((fetchM 3 s).1 + (fetchM 3 s).2.r.X) (fetchM 3 s).2 by (unfold operandM; (repeat rw [if_neg (by decide)]); rw [if_pos rfl]; simp only [bindM, getM])]
  have hy := h.byt
  have A0 := at_start h
  obtain ⟨X, hX⟩ : ∃ X, s.r.X = X := ⟨_, rfl⟩
  obtain ⟨Y, hY⟩ : ∃ Y, s.r.Y = Y := ⟨_, rfl⟩
  have hXl : X < 65536 := hX ▸ hy.ok.X
  have hYl : Y < 65536 := hY ▸ hy.ok.Y
  rw [hX, hY] at A0
  clear h
  have H1 := fun W (hA : At W0 B b (w.heap.size + 1) w.heap.size X Y w s W) => hA.fetch 3 3 rfl (by decide) (by omega)
  have b1 := fetch_b 3 s hy
  have c1 := (Good.fetch 3).cost s
  have fx1 := Fix.fetch 3 s
  generalize fetchM 3 s = p1 at *
  obtain ⟨v1, s1⟩ := p1
  obtain ⟨b1, y1⟩ := b1
  dsimp only at *
  rw [hX, hY] at fx1
  have b1 : v1 < 16777216 := by simpa using b1
  rw [fx1.1]
  obtain ⟨z, hz⟩ : ∃ z, v1 + X = z := ⟨_, rfl⟩
  obtain ⟨e0, e1, e2, e3, e4⟩ := u32_sum hz (by omega) hXl
  rw [hz]
  have HP := fun W (hA : At W0 B b (w.heap.size + 1) w.heap.size X Y w s1 W) => hA.across z (by omega)
  rw [show acrossM z s1 = ((z % 16777216, false), s1) from rfl]
  dsimp only
  generalize z % 16777216 = d at *
  unfold plV at HP ⊢
  replace e4 := Lib.hid e4
  clear hz
  replace H1 := Lib.hid H1
  replace HP := Lib.hid HP
  clear c1 b1 y1 fx1 hy hl hXl hYl hX hY
  replace hu := Lib.hid hu
  replace A0 := Lib.hid A0
  go_enter Tryz.func266, Tryz.ntmps266
  go_upto_region 27 with (fail)
  generalize w.alloc (.cells #[.int .u32 0, .bool false] 194) = W1 at *
  obtain ⟨l1, l2⟩ := A0.out.loads
  first
    | (go_region_held3 (fun W => W.cell? ⟨b, 1, none⟩ = some (.int .u16 X) ∧ W.cell? ⟨b, 2, none⟩ = some (.int .u16 Y))
        (first | exact A0.out.loads | exact A0.out.drew.loads | exact A1.loads | exact A2.loads | exact A2.stored _ _ | go_keep)
        (first
          | (go_at_call 59; (with_reducible refine (H1.out _ ?_).mono ?_); (repeat' (first | (with_reducible exact A0.out) | (with_reducible refine At.drew ?_) | (with_reducible refine At.drewN ?_ _))); rintro e V1 ⟨rfl, A1⟩)
          | (go_at_call 283; (with_reducible refine (HP.out _ ?_).mono ?_); (repeat' (first | (with_reducible exact A1) | (with_reducible refine At.drew ?_) | (with_reducible refine At.drewN ?_ _))); rintro e V2 ⟨rfl, A2⟩; obtain ⟨⟨t0, t1⟩, f0, f1⟩ := A2.tgt)))
    | (go_wp2_with (first
          | (go_at_call 59; (with_reducible refine (H1.out _ ?_).mono ?_); (repeat' (first | (with_reducible exact A0.out) | (with_reducible refine At.drew ?_) | (with_reducible refine At.drewN ?_ _))); rintro e V1 ⟨rfl, A1⟩)
          | (go_at_call 283; (with_reducible refine (HP.out _ ?_).mono ?_); (repeat' (first | (with_reducible exact A1) | (with_reducible refine At.drew ?_) | (with_reducible refine At.drewN ?_ _))); rintro e V2 ⟨rfl, A2⟩; obtain ⟨⟨t0, t1⟩, f0, f1⟩ := A2.tgt)))
  all_goals
    (try go_wp2_with fail)
    exact bodyPost_ret (results_cell_row (fn := Tryz.f266) (p := 6) (ty := 194) rfl _ _ _ _ _ (0, 0) _ rfl (A2.fin d false).1 Tryz.underlying194 rfl (by kernel_rfl)) rfl ⟨rfl, (A2.fin d false).2⟩
theorem op_21 {W0 w : World} {B b u : Nat} {s : Ws} (h : Wk W0 B b s w) (hl : s.l.length ≤ 90) (hu : u < 256) :
    Calls Tryz.prog 266 #[.pointer (some ⟨b, 0, none⟩), .int .u8 21, .int .u8 u] w fun e w' => e = .returned (plV (operandM 21 u s).1.1 (operandM 21 u s).1.2) ∧ Wk W0 B b (operandM 21 u s).2 w' ∧ Keeps b w w' := by
  rw [show operandM 21 u s = pureM ((stackM s).1 % 65536, true) (stackM s).2 from rfl]
  have hy := h.byt
  have A0 := at_start h
  obtain ⟨X, hX⟩ : ∃ X, s.r.X = X := ⟨_, rfl⟩
  obtain ⟨Y, hY⟩ : ∃ Y, s.r.Y = Y := ⟨_, rfl⟩
  have hXl : X < 65536 := hX ▸ hy.ok.X
  have hYl : Y < 65536 := hY ▸ hy.ok.Y
  rw [hX, hY] at A0
  clear h
  have H1 := fun W (hA : At W0 B b (w.heap.size + 1) w.heap.size X Y w s W) => hA.stack (by omega)
  have b1 := stack_b s hy
  have c1 := Good.stack.cost s
  have fx1 := Fix.stack s
  generalize stackM s = p1 at *
  obtain ⟨v1, s1⟩ := p1
  obtain ⟨b1, y1⟩ := b1
  dsimp only at *
  rw [hX, hY] at fx1
  rw [show pureM (v1 % 65536, true) s1 = ((v1 % 65536, true), s1) from rfl]
  dsimp only
  obtain ⟨d, hd⟩ : ∃ d, v1 % 65536 = d := ⟨_, rfl⟩
  rw [hd]
  have hd2 : 0 * 65536 + v1 % 65536 = d := by rw [Nat.zero_mul, Nat.zero_add, hd]
  have HA := Lib.hid (fun W => address_v (b := 0) (n := v1) (v := d) (x := ((0 : Nat) : Int)) (z := (v1 : Nat)) W rfl rfl (by omega) (by omega) hd2)
  have HP := fun W (hA : At W0 B b (w.heap.size + 1) w.heap.size X Y w s1 W) => hA.within d
  unfold plV at HP ⊢
  clear hd hd2
  replace H1 := Lib.hid H1
  replace HP := Lib.hid HP
  clear c1 b1 y1 fx1 hy hl hXl hYl hX hY
  replace hu := Lib.hid hu
  replace A0 := Lib.hid A0
  go_enter Tryz.func266, Tryz.ntmps266
  go_upto_region 29 with (fail)
  generalize w.alloc (.cells #[.int .u32 0, .bool false] 194) = W1 at *
  obtain ⟨l1, l2⟩ := A0.out.loads
  go_wp2_with fail
  refine (H1.out _ A0.out).mono ?_
  rintro e V1 ⟨rfl, A1⟩
  clear l1 l2
  obtain ⟨l1, l2⟩ := A1.loads
  go_wp2_with fail
  refine (HA.out _).mono ?_
  rintro e w' ⟨rfl, rfl⟩
  go_wp2_with fail
  refine (HP.out _ A1).mono ?_
  rintro e V2 ⟨rfl, A2⟩
  clear l1 l2
  obtain ⟨⟨t0, t1⟩, f0, f1⟩ := A2.tgt
  go_wp2_with fail
  exact bodyPost_ret (results_cell_row (fn := Tryz.f266) (p := 6) (ty := 194) rfl _ _ _ _ _ (0, 0) _ rfl (A2.fin d true).1 Tryz.underlying194 rfl (by kernel_rfl)) rfl ⟨rfl, (A2.fin d true).2⟩
end Go.Proofs.YtnacdaodjgdnnaaGreat
namespace Go.Proofs.YtnacdaodjgdnnaaGreat
open Go.RowKit Go.Shelf
set_option maxRecDepth 100000
set_option maxHeartbeats 1000000
set_option linter.unusedVariables false

theorem readAt_any {W0 w : World} {B b n m : Nat} {s : Ws} (h : Wk W0 B b s w) (hm : m ≤ 3) (hl : s.l.length + m ≤ 100) (hn : n < 100000) :
    Calls Tryz.prog 149 #[.pointer (some ⟨b, 0, none⟩), .int .u8 0, .int .u32 (n : Nat), .int .u32 (m : Nat)] w fun e w' => e = .returned (.int .u32 ((numM (stack1M n) m s).1 : Nat)) ∧ Wk W0 B b (numM (stack1M n) m s).2 w' ∧ Keeps b w w' ∧ (numM (stack1M n) m s).1 < 256 ^ m := by
  have hmf := makeF
  have hW := ((h.alloc (.cells #[.pointer (some ⟨b, 0, none⟩)] 151)).alloc (.cells #[.int .u8 0] 5)).alloc (.cells #[.int .u32 (n : Nat)] 33)
  have hX := ((Whole.fresh w 151 #[.pointer (some ⟨b, 0, none⟩)]).alloc (.cells #[.int .u8 0] 5)).alloc (.cells #[.int .u32 (n : Nat)] 33)
  have hZ := (Whole.fresh (w.alloc (.cells #[.pointer (some ⟨b, 0, none⟩)] 151)) 5 #[.int .u8 0]).alloc (.cells #[.int .u32 (n : Nat)] 33)
  have hY := Whole.fresh ((w.alloc (.cells #[.pointer (some ⟨b, 0, none⟩)] 151)).alloc (.cells #[.int .u8 0] 5)) 33 #[.int .u32 (n : Nat)]
  simp only [World.size_alloc] at hY hZ
  have hK := (((Keeps.refl b w).alloc (.cells #[.pointer (some ⟨b, 0, none⟩)] 151)).alloc (.cells #[.int .u8 0] 5)).alloc (.cells #[.int .u32 (n : Nat)] 33)
  have hne : w.heap.size ≠ b := by have := h.lt; omega
  have hne2 : w.heap.size + 1 ≠ b := by have := h.lt; omega
  have hne3 : w.heap.size + 1 + 1 ≠ b := by have := h.lt; omega
  have HN := number_any (k := 227) (F := stack1M n) (caps := #[.pointer (some ⟨w.heap.size, 0, none⟩), .pointer (some ⟨w.heap.size + 1, 0, none⟩), .pointer (some ⟨w.heap.size + 1 + 1, 0, none⟩)]) (Q := fun W => Whole W w.heap.size 151 #[.pointer (some ⟨b, 0, none⟩)] ∧ Whole W (w.heap.size + 1) 5 #[.int .u8 0] ∧ Whole W (w.heap.size + 1 + 1) 33 #[.int .u32 (n : Nat)]) hm
    (fun i s w hi hW q hl => stack1_any hW q.1 q.2.1 q.2.2 hl hn (by omega)) (fun w w' q k => ⟨k _ _ _ hne (by decide) q.1, k _ _ _ hne2 (by decide) q.2.1, k _ _ _ hne3 (by decide) q.2.2⟩) (fun i => (Good.read _ : Good (stack1M n i) 1)) (enters_of Tryz.func227 (by kernel_rfl) rfl) hW ⟨hX, hZ, hY⟩ hl
  replace HN := Lib.hid HN
  replace hK := Lib.hid hK
  clear h hX hY hZ hW hl hm
  go_enter Tryz.func149, Tryz.ntmps149
  go_wp2_with fail
  refine HN.out.mono ?_
  rintro e w' ⟨rfl, h1, h2, h3⟩
  clear HN
  go_wp2_with fail
  go_ret
  exact ⟨rfl, h1, hK.out.trans h2, h3⟩
theorem op_22 {W0 w : World} {B b u : Nat} {s : Ws} (h : Wk W0 B b s w) (hl : s.l.length ≤ 90) (hu : u < 256) :
    Calls Tryz.prog 266 #[.pointer (some ⟨b, 0, none⟩), .int .u8 22, .int .u8 u] w fun e w' => e = .returned (plV (operandM 22 u s).1.1 (operandM 22 u s).1.2) ∧ Wk W0 B b (operandM 22 u s).2 w' ∧ Keeps b w w' := by
  rw [show operandM 22 u s = acrossM ((dataM (numM (stack1M (stackM s).1) 2 (stackM s).2).1 (idleM (numM (stack1M (stackM s).1) 2 (stackM s).2).2).2).1 + (dataM (numM (stack1M (stackM s).1) 2 (stackM s).2).1 (idleM (numM (stack1M (stackM s).1) 2 (stackM s).2).2).2).2.r.Y) (dataM (numM (stack1M (stackM s).1) 2 (stackM s).2).1 (idleM (numM (stack1M (stackM s).1) 2 (stackM s).2).2).2).2 by (unfold operandM; (repeat rw [if_neg (by decide)]); rw [if_pos rfl]; simp only [bindM, getM])]
  have hmf := makeF
  have hy := h.byt
  have A0 := at_start h
  obtain ⟨X, hX⟩ : ∃ X, s.r.X = X := ⟨_, rfl⟩
  obtain ⟨Y, hY⟩ : ∃ Y, s.r.Y = Y := ⟨_, rfl⟩
  have hYl : Y < 65536 := hY ▸ hy.ok.Y
  rw [hX, hY] at A0
  clear h
  have H1 := fun W (hA : At W0 B b (w.heap.size + 1) w.heap.size X Y w s W) => hA.stack (by omega)
  have b1 := stack_b s hy
  have c1 := Good.stack.cost s
  have fx1 := Fix.stack s
  generalize stackM s = p1 at *
  obtain ⟨v1, s1⟩ := p1
  obtain ⟨b1, y1⟩ := b1
  dsimp only at *
  rw [hX, hY] at fx1
  have H2 := fun W (hA : At W0 B b (w.heap.size + 1) w.heap.size X Y w s1 W) => readAt_any (m := 2) (n := v1) hA.wk (by decide) (by omega) (by omega)
  simp only [show ((2 : Nat) : Int) = 2 from rfl] at H2
  have b2 := stack1_b v1 2 s1 y1
  have c2 : (numM (stack1M v1) 2 s1).2.l.length ≤ s1.l.length + 2 * 1 := (Good.num (F := stack1M v1) (c := 1) (fun i => Good.read _) 2).cost s1
  have fx2 : (numM (stack1M v1) 2 s1).2.r.X = s1.r.X ∧ (numM (stack1M v1) 2 s1).2.r.Y = s1.r.Y := Fix.num (F := stack1M v1) (fun i => Fix.read _) 2 s1
  generalize numM (stack1M v1) 2 s1 = p2 at *
  obtain ⟨v2, s2⟩ := p2
  obtain ⟨b2, y2⟩ := b2
  dsimp only at *
  have hfx2 := fx2
  rw [fx1.1, fx1.2] at fx2
  have b2 : v2 < 65536 := by simpa using b2
  have H3 := fun W (hA : At W0 B b (w.heap.size + 1) w.heap.size X Y w s2 W) => hA.idle (by omega)
  have y3 := idle_b y2
  have fx3 := Fix.idle s2
  generalize (idleM s2).2 = s3 at *
  rw [fx2.1, fx2.2] at fx3
  have H4 := fun W (hA : At W0 B b (w.heap.size + 1) w.heap.size X Y w s3 W) => hA.data v2 (by omega)
  have b4 := data_b v2 s3 y3
  have fx4 := Fix.data v2 s3
  generalize dataM v2 s3 = p4 at *
  obtain ⟨v4, s4⟩ := p4
  obtain ⟨b4, y4⟩ := b4
  dsimp only at *
  rw [fx3.1, fx3.2] at fx4
  rw [fx4.2]
  obtain ⟨z, hz⟩ : ∃ z, v4 + Y = z := ⟨_, rfl⟩
  obtain ⟨e0, e1, e2, e3, e4⟩ := u32_sum hz (by omega) hYl
  rw [hz]
  have HP := fun W (hA : At W0 B b (w.heap.size + 1) w.heap.size X Y w s4 W) => hA.across z (by omega)
  rw [show acrossM z s4 = ((z % 16777216, false), s4) from rfl]
  dsimp only
  generalize z % 16777216 = d at *
  unfold plV at HP ⊢
  replace e4 := Lib.hid e4
  clear hz
  replace H1 := Lib.hid H1
  replace H2 := Lib.hid H2
  replace H3 := Lib.hid H3
  replace H4 := Lib.hid H4
  replace HP := Lib.hid HP
  replace hfx2 := Lib.hid hfx2
  clear c1 b1 y1 fx1 c2 b2 y2 fx2 y3 fx3 b4 y4 fx4 hy hl hYl hX hY
  replace hu := Lib.hid hu
  replace A0 := Lib.hid A0
  go_enter Tryz.func266, Tryz.ntmps266
  go_upto_region 31 with (fail)
  generalize w.alloc (.cells #[.int .u32 0, .bool false] 194) = W1 at *
  obtain ⟨l1, l2⟩ := A0.out.loads
  go_wp2_with fail
  refine (H1.out _ A0.out).mono ?_
  rintro e V1 ⟨rfl, A1⟩
  clear l1 l2
  have HN := Lib.hid (H2.out _ A1)
  have A1' := Lib.hid A1
  clear A1 H1 H2
  go_wp2_with fail
  refine HN.out.mono ?_
  rintro e V2 ⟨rfl, h1, h2, _⟩
  have A2 := A1'.out.step h1 h2 hfx2.out
  obtain ⟨l1, l2⟩ := A2.loads
  clear HN A1' h1 h2
  go_wp2_with fail
  refine (H3.out _ A2).mono ?_
  rintro e V3 ⟨rfl, A3⟩
  clear l1 l2 A2
  go_upto_region 34 with (fail)
  obtain ⟨l1, l2⟩ := A3.loads
  first
    | (go_region_held3 (fun W => W.cell? ⟨b, 1, none⟩ = some (.int .u16 X) ∧ W.cell? ⟨b, 2, none⟩ = some (.int .u16 Y))
        (first | exact A3.loads | exact A3.drew.loads | exact A4.loads | exact A5.loads | exact A5.stored _ _ | go_keep)
        (first
          | (go_at_call 284; (with_reducible refine (H4.out _ ?_).mono ?_); (repeat' (first | (with_reducible exact A3) | (with_reducible refine At.drew ?_) | (with_reducible refine At.drewN ?_ _))); rintro e V4 ⟨rfl, A4⟩)
          | (go_at_call 283; (with_reducible refine (HP.out _ ?_).mono ?_); (repeat' (first | (with_reducible exact A4) | (with_reducible refine At.drew ?_) | (with_reducible refine At.drewN ?_ _))); rintro e V5 ⟨rfl, A5⟩; obtain ⟨⟨t0, t1⟩, f0, f1⟩ := A5.tgt)))
    | (go_wp2_with (first
          | (go_at_call 284; (with_reducible refine (H4.out _ ?_).mono ?_); (repeat' (first | (with_reducible exact A3) | (with_reducible refine At.drew ?_) | (with_reducible refine At.drewN ?_ _))); rintro e V4 ⟨rfl, A4⟩)
          | (go_at_call 283; (with_reducible refine (HP.out _ ?_).mono ?_); (repeat' (first | (with_reducible exact A4) | (with_reducible refine At.drew ?_) | (with_reducible refine At.drewN ?_ _))); rintro e V5 ⟨rfl, A5⟩; obtain ⟨⟨t0, t1⟩, f0, f1⟩ := A5.tgt)))
  all_goals
    (try go_wp2_with fail)
    exact bodyPost_ret (results_cell_row (fn := Tryz.f266) (p := 6) (ty := 194) rfl _ _ _ _ _ (0, 0) _ rfl (A5.fin d false).1 Tryz.underlying194 rfl (by kernel_rfl)) rfl ⟨rfl, (A5.fin d false).2⟩
/-- No operand in memory. -/
def Bare (m : Nat) : Prop := m < 5 ∨ 18 ≤ m ∧ m ≤ 20 ∨ 23 ≤ m
theorem op_no {W0 w : World} {B b u m : Nat} {s : Ws} (h : Wk W0 B b s w) (hm : Bare m) (hm2 : m < 256) :
    Calls Tryz.prog 266 #[.pointer (some ⟨b, 0, none⟩), .int .u8 m, .int .u8 u] w fun e w' => e = .returned (plV (operandM m u s).1.1 (operandM m u s).1.2) ∧ Wk W0 B b (operandM m u s).2 w' ∧ Keeps b w w' := by
  have t : ∀ k : Nat, 5 ≤ k → k ≤ 17 → ((m : Int) == (k : Int)) = false := fun k h1 h2 => by rw [beq_eq_false_iff_ne]; unfold Bare at hm; omega
  have t21 : ((m : Int) == 21) = false := by rw [beq_eq_false_iff_ne]; unfold Bare at hm; omega
  have t22 : ((m : Int) == 22) = false := by rw [beq_eq_false_iff_ne]; unfold Bare at hm; omega
  have t5 := t 5 (by decide) (by decide)
  have t6 := t 6 (by decide) (by decide)
  have t7 := t 7 (by decide) (by decide)
  have t8 := t 8 (by decide) (by decide)
  have t9 := t 9 (by decide) (by decide)
  have t10 := t 10 (by decide) (by decide)
  have t11 := t 11 (by decide) (by decide)
  have t12 := t 12 (by decide) (by decide)
  have t13 := t 13 (by decide) (by decide)
  have t14 := t 14 (by decide) (by decide)
  have t15 := t 15 (by decide) (by decide)
  have t16 := t 16 (by decide) (by decide)
  have t17 := t 17 (by decide) (by decide)
  have e : operandM m u s = ((0, false), s) := by
    unfold Bare at hm
    unfold operandM
    rw [if_neg (by omega), if_neg (by omega), if_neg (by omega), if_neg (by omega), if_neg (by omega), if_neg (by omega), if_neg (by omega), if_neg (by omega), if_neg (by omega), if_neg (by omega), if_neg (by omega), if_neg (by omega), if_neg (by omega), if_neg (by omega), if_neg (by omega)]
    rfl
  rw [e]
  have A0 := at_start h
  dsimp only
  unfold plV
  clear t hm hm2 e h
  go_enter Tryz.func266, Tryz.ntmps266
  go_upto_region 1 with (fail)
  generalize w.alloc (.cells #[.int .u32 0, .bool false] 194) = W1 at *
  obtain ⟨⟨t0, t1⟩, f0, f1⟩ := A0.tgt
  go_wp2_with fail
  exact bodyPost_ret (results_cell_row (fn := Tryz.f266) (p := 6) (ty := 194) rfl _ _ _ _ _ (0, 0) _ rfl (A0.fin 0 false).1 Tryz.underlying194 rfl (by kernel_rfl)) rfl ⟨rfl, (A0.fin 0 false).2⟩
theorem operand_any {W0 w : World} {B b u m : Nat} {s : Ws} (h : Wk W0 B b s w) (hl : s.l.length ≤ 90) (hm : m < 256) (hu : u < 256) :
    Calls Tryz.prog 266 #[.pointer (some ⟨b, 0, none⟩), .int .u8 m, .int .u8 u] w fun e w' => e = .returned (plV (operandM m u s).1.1 (operandM m u s).1.2) ∧ Wk W0 B b (operandM m u s).2 w' ∧ Keeps b w w' := by
  by_cases hb : Bare m
  · exact op_no h hb hm
  · rcases (show m = 5 ∨ m = 6 ∨ m = 7 ∨ m = 8 ∨ m = 9 ∨ m = 10 ∨ m = 11 ∨ m = 12 ∨ m = 13 ∨ m = 14 ∨ m = 15 ∨ m = 16 ∨ m = 17 ∨ m = 21 ∨ m = 22 by unfold Bare at hb; omega) with rfl | rfl | rfl | rfl | rfl | rfl | rfl | rfl | rfl | rfl | rfl | rfl | rfl | rfl | rfl
    · exact op_5 h hl hu
    · exact op_6 h hl hu
    · exact op_7 h hl hu
    · exact op_8 h hl hu
    · exact op_9 h hl hu
    · exact op_10 h hl hu
    · exact op_11 h hl hu
    · exact op_12 h hl hu
    · exact op_13 h hl hu
    · exact op_14 h hl hu
    · exact op_15 h hl hu
    · exact op_16 h hl hu
    · exact op_17 h hl hu
    · exact op_21 h hl hu
    · exact op_22 h hl hu
end Go.Proofs.YtnacdaodjgdnnaaGreat
namespace Go.Proofs.YtnacdaodjgdnnaaGreat
open Go.RowKit Go.Shelf
set_option maxRecDepth 100000
set_option maxHeartbeats 1000000
set_option linter.unusedVariables false

/-- A code's value. -/
def codeV (cd : Nat) (nm : ByteArray) (m u wd : Nat) : Value := .agg #[.int .u8 cd, .string nm, .int .u8 m, .int .u8 u, .int .u8 wd]
/-- A course: what its walk comes to. -/
def courseM (m u : Nat) (r : Rg) (n : Nat) (f : Nat → Nat) : (Nat × Bool) × Ws := operandM m u ⟨r.settle, n, f, [], false⟩
def placeOf (p : (Nat × Bool) × Ws) : Nat × Bool := if p.2.st then (0, false) else p.1
def pcOf (p : (Nat × Bool) × Ws) : Nat := if p.2.st then 0 else p.2.r.PC
theorem course_any (cd : Nat) (nm : ByteArray) (m u wd : Nat) (r : Rg) (a : Option Addr) (n c : Nat) (f : Nat → Nat) (w : World) (hm : m < 256) (hu : u < 256) (hr : r.Ok) (hR : Row w a n f) (hnc : n ≤ c) :
    Calls Tryz.prog 246 #[codeV cd nm m u wd, r.v, .slice a n c] w fun e w' => ∃ lv, e = .returned (.tuple #[lv, plV (placeOf (courseM m u r n f)).1 (placeOf (courseM m u r n f)).2, .int .u16 (pcOf (courseM m u r n f) : Nat), .bool (!(courseM m u r n f).2.st)]) ∧
      w'.ownsRow w.heap.size 35 3 lv (courseM m u r n f).2.l.length (accV (courseM m u r n f).2.l) ∧ Below w.heap.size w w' := by
  have HS := fun W => settle_any r W hr
  have HO := fun b W (hW : Wk w w.heap.size b ⟨r.settle, n, f, [], false⟩ W) => operand_any (m := m) (u := u) hW (by show 0 ≤ 90; decide) hm hu
  have hC := ((Whole.fresh w 58 #[.int .u8 cd, .string nm, .int .u8 m, .int .u8 u, .int .u8 wd]).alloc (.cells (rgC r.A r.X r.Y r.S r.D r.PC r.B r.K r.P r.E) 24)).alloc (.cells #[.int .u32 0, .bool false] 194)
  have hG := (Whole.fresh (w.alloc (.cells #[.int .u8 cd, .string nm, .int .u8 m, .int .u8 u, .int .u8 wd] 58)) 24 (rgC r.A r.X r.Y r.S r.D r.PC r.B r.K r.P r.E)).alloc (.cells #[.int .u32 0, .bool false] 194)
  have hP := Whole.fresh ((w.alloc (.cells #[.int .u8 cd, .string nm, .int .u8 m, .int .u8 u, .int .u8 wd] 58)).alloc (.cells (rgC r.A r.X r.Y r.S r.D r.PC r.B r.K r.P r.E) 24)) 194 #[.int .u32 0, .bool false]
  have hB := (((Below.refl w.heap.size w).alloc (Nat.le_refl _) (.cells #[.int .u8 cd, .string nm, .int .u8 m, .int .u8 u, .int .u8 wd] 58)).alloc (by simp) (.cells (rgC r.A r.X r.Y r.S r.D r.PC r.B r.K r.P r.E) 24)).alloc (by simp; omega) (.cells #[.int .u32 0, .bool false] 194)
  rw [World.size_alloc] at hG hP
  rw [World.size_alloc] at hP
  have hok := hr.settle
  rw [show operandM m u ⟨r.settle, n, f, [], false⟩ = courseM m u r n f from rfl] at HO
  generalize courseM m u r n f = p at *
  obtain ⟨⟨pa, pb⟩, s'⟩ := p
  unfold codeV Rg.v at *
  unfold rgC at *
  have g0 := hG.cell 0
  have g1 := hG.cell 1
  have g2 := hG.cell 2
  have g3 := hG.cell 3
  have g4 := hG.cell 4
  have g5 := hG.cell 5
  have g6 := hG.cell 6
  have g7 := hG.cell 7
  have g8 := hG.cell 8
  have g9 := hG.cell 9
  simp only [List.getElem?_toArray, List.getElem?_cons_zero, List.getElem?_cons_succ] at g0 g1 g2 g3 g4 g5 g6 g7 g8 g9
  replace HS := Lib.hid HS
  replace HO := Lib.hid HO
  have hRh := Lib.hid (And.intro hR hnc)
  clear hR hnc hG
  go_enter Tryz.func246, Tryz.ntmps246
  go_upto_region 1 with (fail)
  generalize ((w.alloc (.cells #[.int .u8 cd, .string nm, .int .u8 m, .int .u8 u, .int .u8 wd] 58)).alloc (.cells #[.int .u16 r.A, .int .u16 r.X, .int .u16 r.Y, .int .u16 r.S, .int .u16 r.D, .int .u16 r.PC, .int .u8 r.B, .int .u8 r.K, .int .u8 r.P, .bool r.E] 24)).alloc (.cells #[.int .u32 0, .bool false] 194) = W1 at *
  go_wp2_with fail
  refine (HS.out _).mono ?_
  rintro e W2 ⟨rfl, hb2⟩
  have hC2 := hC.below hb2 hC.lt
  have hP2 := hP.below hb2 hP.lt
  have hPl := hP.lt
  have hB2 := hB.trans (hb2.mono hB.size)
  have hl2 := hb2.size
  clear HS g0 g1 g2 g3 g4 g5 g6 g7 g8 g9 hC hP hB hb2
  go_upto_region 2 with (fail)
  have hWk : Wk w w.heap.size W2.heap.size ⟨r.settle, n, f, [], false⟩ (W2.alloc (.cells (wkC r.settle (.slice a n c) (.slice none 0 0) false) 241)) :=
    ⟨hok, ⟨a, c, _, Whole.fresh W2 _ _, hRh.out.2, hRh.out.1, World.ownsRow_nil _ _ _ _⟩, hB2.size, hB2.alloc hB2.size _, rfl⟩
  have hC3 := hC2.alloc (.cells (wkC r.settle (.slice a n c) (.slice none 0 0) false) 241)
  have hP3 := hP2.alloc (.cells (wkC r.settle (.slice a n c) (.slice none 0 0) false) 241)
  have hPb : w.heap.size + 1 + 1 ≠ W2.heap.size := by omega
  have hPB := Lib.hid (show w.heap.size ≤ w.heap.size + 1 + 1 by omega)
  clear hC2 hP2 hB2 hl2 hPl
  unfold wkC at hWk hC3 hP3
  generalize hb : W2.heap.size = b at *
  clear hb
  generalize W2.alloc (.cells #[.int .u16 r.settle.A, .int .u16 r.settle.X, .int .u16 r.settle.Y, .int .u16 r.settle.S, .int .u16 r.settle.D, .int .u16 r.settle.PC, .int .u8 r.settle.B, .int .u8 r.settle.K, .int .u8 r.settle.P, .bool r.settle.E, .slice a n c, .slice none 0 0, .bool false] 241) = W3 at *
  have d2 := hC3.cell 2
  have d3 := hC3.cell 3
  simp only [List.getElem?_toArray, List.getElem?_cons_zero, List.getElem?_cons_succ] at d2 d3
  generalize hXp : w.heap.size + 1 + 1 = XP at *
  replace hXp := Lib.hid hXp
  clear hC3 hok hr hm hu hRh
  go_wp2_with fail
  refine (HO.out _ _ hWk).mono ?_
  rintro e W4 ⟨rfl, hW4, hK4⟩
  have hP4 := hK4 _ _ _ hPb (by decide) hP3
  have hW5 := hW4.alloc (.cells #[.int .u32 pa, .bool pb] 194)
  have hP5 := hP4.alloc (.cells #[.int .u32 pa, .bool pb] 194)
  have hQ5 := Whole.fresh W4 194 #[.int .u32 pa, .bool pb]
  have hne5 : XP ≠ W4.heap.size := by have := hP4.lt; omega
  unfold plV
  clear HO hWk hP3 hK4 hW4 hP4 d2 d3
  go_upto_region 3 with (fail)
  generalize W4.alloc (.cells #[.int .u32 pa, .bool pb] 194) = W5 at *
  generalize W4.heap.size = Q at *
  obtain ⟨sa, sc, lv, hc, _, _, ho⟩ := hW5.cells
  have c5 := hc.cell 5
  have c11 := hc.cell 11
  have c12 := hc.cell 12
  have q0 := hQ5.cell 0
  have q1 := hQ5.cell 1
  have x0 := hP5.cell 0
  have x1 := hP5.cell 1
  have f0 := hP5.free 0
  have f1 := hP5.free 1
  unfold wkC at c5 c11 c12
  simp only [List.getElem?_toArray, List.getElem?_cons_zero, List.getElem?_cons_succ] at c5 c11 c12 q0 q1 x0 x1
  have hfin : ∀ (W : World), W = W5 ∨ W = W5.drew → ∀ (v : Nat) (bk : Bool), Whole ((W.setCell ⟨XP, 0, none⟩ (.int .u32 v)).setCell ⟨XP, 1, none⟩ (.bool bk)) XP 194 #[.int .u32 v, .bool bk] ∧
      ((W.setCell ⟨XP, 0, none⟩ (.int .u32 v)).setCell ⟨XP, 1, none⟩ (.bool bk)).ownsRow w.heap.size 35 3 lv s'.l.length (accV s'.l) ∧ Below w.heap.size w ((W.setCell ⟨XP, 0, none⟩ (.int .u32 v)).setCell ⟨XP, 1, none⟩ (.bool bk)) := fun W hW v bk => by
    have hPw : Whole W XP 194 #[.int .u32 0, .bool false] := by rcases hW with rfl | rfl; exact hP5; exact hP5.drew
    have how : W.ownsRow w.heap.size 35 3 lv s'.l.length (accV s'.l) := by rcases hW with rfl | rfl; exact ho; exact ho.drew
    have hbw : Below w.heap.size w W := by rcases hW with rfl | rfl; exact hW5.bel; exact Below.drew hW5.bel
    have hv := own_apart how hPw (by decide)
    have hle : w.heap.size ≤ XP := by have := hXp.out; omega
    exact ⟨(hPw.put 0 (.int .u32 v)).put 1 (.bool bk), row_put (row_put how (p := ⟨XP, 0, none⟩) hv _) (p := ⟨XP, 1, none⟩) hv _, (hbw.setCell (p := ⟨XP, 0, none⟩) hle _).setCell (p := ⟨XP, 1, none⟩) hle _⟩
  obtain ⟨r2, n2, f2, l2, st⟩ := s'
  dsimp only at *
  cases st
  · have hf := hfin W5.drew (.inr rfl) pa pb
    have c5d : W5.drew.cell? ⟨b, 5, none⟩ = some (.int .u16 r2.PC) := c5
    have c11d : W5.drew.cell? ⟨b, 11, none⟩ = some lv := c11
    have q0d : W5.drew.cell? ⟨Q, 0, none⟩ = some (.int .u32 pa) := q0
    have q1d : W5.drew.cell? ⟨Q, 1, none⟩ = some (.bool pb) := q1
    replace hfin := Lib.hid hfin
    have r0 := hf.1.cell 0
    have r1 := hf.1.cell 1
    simp only [List.getElem?_toArray, List.getElem?_cons_zero, List.getElem?_cons_succ] at r0 r1
    have c5s : ((W5.drew.setCell ⟨XP, 0, none⟩ (.int .u32 pa)).setCell ⟨XP, 1, none⟩ (.bool pb)).cell? ⟨b, 5, none⟩ = some (.int .u16 r2.PC) :=
      (World.cell?_of_block ((Below.heap_setCell _ _ _ _ (show b ≠ XP from fun e => hPb e.symm)).trans (Below.heap_setCell _ _ _ _ (show b ≠ XP from fun e => hPb e.symm)))).trans c5d
    replace hf := Lib.hid hf
    clear hc ho hW5 hP5 hQ5 hfin
    go_upto_region 5 with (fail)
    go_region
    all_goals
      have hg : Whole ((W5.setCell ⟨XP, 0, none⟩ (.int .u32 pa)).setCell ⟨XP, 1, none⟩ (.bool pb)).drew XP 194 #[.int .u32 pa, .bool pb] ∧
        ((W5.setCell ⟨XP, 0, none⟩ (.int .u32 pa)).setCell ⟨XP, 1, none⟩ (.bool pb)).drew.ownsRow w.heap.size 35 3 lv l2.length (accV l2) ∧ Below w.heap.size w ((W5.setCell ⟨XP, 0, none⟩ (.int .u32 pa)).setCell ⟨XP, 1, none⟩ (.bool pb)).drew := hf.out
      have s0 := hg.1.cell 0
      have s1 := hg.1.cell 1
      simp only [List.getElem?_toArray, List.getElem?_cons_zero, List.getElem?_cons_succ] at s0 s1
      replace hg := Lib.hid hg
      generalize ((W5.setCell ⟨XP, 0, none⟩ (.int .u32 pa)).setCell ⟨XP, 1, none⟩ (.bool pb)).drew = W6 at *
      go_wp2_with fail
      exact bodyPost_ret (v := .tuple #[lv, .agg #[.int .u32 pa, .bool pb], .int .u16 r2.PC, .bool true]) (by simp [results, Tryz.results246, go_sem, s0, s1]) rfl ⟨lv, rfl, hg.out.2.1, hg.out.2.2⟩
  · have hf : Whole ((W5.setCell ⟨XP, 0, none⟩ (.int .u32 0)).setCell ⟨XP, 1, none⟩ (.bool false)) XP 194 #[.int .u32 0, .bool false] ∧
        ((W5.setCell ⟨XP, 0, none⟩ (.int .u32 0)).setCell ⟨XP, 1, none⟩ (.bool false)).ownsRow w.heap.size 35 3 lv l2.length (accV l2) ∧ Below w.heap.size w ((W5.setCell ⟨XP, 0, none⟩ (.int .u32 0)).setCell ⟨XP, 1, none⟩ (.bool false)) := hfin W5 (.inl rfl) 0 false
    have r0 := hf.1.cell 0
    have r1 := hf.1.cell 1
    simp only [List.getElem?_toArray, List.getElem?_cons_zero, List.getElem?_cons_succ] at r0 r1
    replace hf := Lib.hid hf
    clear hc ho hW5 hP5 hQ5 hfin
    go_wp2_with fail
    exact bodyPost_ret (v := .tuple #[lv, .agg #[.int .u32 0, .bool false], .int .u16 0, .bool false]) (by simp [results, Tryz.results246, go_sem, r0, r1]) rfl ⟨lv, rfl, hf.out.2.1, hf.out.2.2⟩
end Go.Proofs.YtnacdaodjgdnnaaGreat
