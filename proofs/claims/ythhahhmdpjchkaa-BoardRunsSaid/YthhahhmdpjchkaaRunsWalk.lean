/-
  BoardRuns: the walk.
-/
import Derived.Test.YthhahhmdpjchkaaOpenInts
import Derived.Test.YthhahhmdpjchkaaDecodesWalk
namespace Go.Proofs.Ythhahhmdpjchkaa
open Go.RowKit Go.Shelf
set_option maxRecDepth 100000
set_option maxHeartbeats 1000000
namespace boardRuns
/-- How it stands within the script: the board, its rom's bytes once more in block R0, its memory's in block Q. -/
structure Run (w : World) (P b R M X l n cap k Q R0 : Nat) (f g q : Nat → Nat) (r m : Int) (y : Nat) (W : World) : Prop where
  st : Stand w P b R M X l n cap k f g r m y W
  hq : Holds W Q k q
  hr : Holds W R0 n f
  d1 : b ≠ Q
  d2 : R ≠ Q
  d3 : M ≠ Q
  d4 : l ≠ 1 → X ≠ Q
  d5 : P < Q
  d6 : R0 ≠ Q
  d7 : R0 ≠ M
theorem Run.step {w W W' : World} {P b R M X l n cap k Q R0 : Nat} {f g q : Nat → Nat} {r m : Int} {y : Nat} (h : Run w P b R M X l n cap k Q R0 f g q r m y W) (hB : Below W.heap.size W W') : Run w P b R M X l n cap k Q R0 f g q r m y W' :=
  ⟨h.st.step hB, h.hq.below hB h.hq.lt, h.hr.below hB h.hr.lt, h.d1, h.d2, h.d3, h.d4, h.d5, h.d6, h.d7⟩
theorem Run.drew {w W : World} {P b R M X l n cap k Q R0 : Nat} {f g q : Nat → Nat} {r m : Int} {y : Nat} (h : Run w P b R M X l n cap k Q R0 f g q r m y W) : Run w P b R M X l n cap k Q R0 f g q r m y W.drew :=
  h.step ⟨rfl, rfl, rfl, Nat.le_refl _, fun _ _ => rfl⟩
theorem Run.drewN {w W : World} {P b R M X l n cap k Q R0 : Nat} {f g q : Nat → Nat} {r m : Int} {y : Nat} (h : Run w P b R M X l n cap k Q R0 f g q r m y W) (j : Nat) : Run w P b R M X l n cap k Q R0 f g q r m y (W.drewN j) :=
  h.step (below_drewN (Below.refl _ _) j)
theorem Run.alloc {w W : World} {P b R M X l n cap k Q R0 : Nat} {f g q : Nat → Nat} {r m : Int} {y : Nat} (h : Run w P b R M X l n cap k Q R0 f g q r m y W) (o : Obj) : Run w P b R M X l n cap k Q R0 f g q r m y (W.alloc o) :=
  h.step ((Below.refl _ _).alloc (Nat.le_refl _) _)
theorem Run.set {w W : World} {P b R M X l n cap k Q R0 : Nat} {f g q : Nat → Nat} {r m : Int} {y : Nat} (h : Run w P b R M X l n cap k Q R0 f g q r m y W) (A x : Nat) (hx : x < 256) :
    Run w P b R M X l n cap k Q R0 f g (upd q A x) r m y (W.setCell ⟨Q, A, none⟩ (.int .u8 (x : Nat))) := by
  have o : W.grownBy (W.setCell ⟨Q, A, none⟩ (.int .u8 (x : Nat))) (some Q) := only_set (Below.only (Below.refl _ W) Q) A _
  exact ⟨⟨h.st.brd.only o h.d1 h.d2 h.d3 h.d4, h.st.plan.only o (by have := h.d5; omega), h.st.bel.setCell (p := ⟨Q, A, none⟩) (Nat.le_of_lt h.d5) _, h.st.hPM, h.st.hPb⟩, h.hq.put A x hx, h.hr.only o h.d6, h.d1, h.d2, h.d3, h.d4, h.d5, h.d6, h.d7⟩
theorem Run.decode {w W : World} {P b R M X l n cap k Q R0 : Nat} {f g q : Nat → Nat} {r m : Int} {y : Nat} (h : Run w P b R M X l n cap k Q R0 f g q r m y W) (a : Nat) (ha : a < 4294967296) :
    Calls Try.prog 13 #[.pointer (some ⟨b, 0, none⟩), .int .u32 a] W fun e w' => e = .returned (.agg #[.int .u8 ((spot l n k a).1 : Nat), .int .i64 ((spot l n k a).2 : Nat)]) ∧ Below W.heap.size W w' :=
  (decode_any a W h.st.brd ha).mono fun _ _ h => h
theorem Run.rdec {w W : World} {P b R M X l n cap k Q R0 : Nat} {f g q : Nat → Nat} {r m : Int} {y : Nat} (h : Run w P b R M X l n cap k Q R0 f g q r m y W) (a : Nat) (ha : a < 4294967296) :
    Calls Try.prog 12 #[.int .u8 l, .int .i64 n, .int .i64 k, .int .u32 a] W fun e w' => e = .returned (.agg #[.int .u8 ((spot l n k a).1 : Nat), .int .i64 ((spot l n k a).2 : Nat)]) ∧ Below W.heap.size W w' :=
  rdec_any l n k a W h.st.brd.lay h.st.brd.n1 h.st.brd.n2 ha
theorem Run.write {w W : World} {P b R M X l n cap k Q R0 : Nat} {f g q : Nat → Nat} {r m : Int} {y : Nat} (h : Run w P b R M X l n cap k Q R0 f g q r m y W) (a x : Nat) (ha : a < 4294967296) (hx : x < 256) :
    Calls Try.prog 15 #[.pointer (some ⟨b, 0, none⟩), .int .u32 a, .int .u8 x] W fun e w' => e = .returned (.bool (decide ((spot l n k a).1 ≠ 0))) ∧ Run w P b R M X l n cap k Q R0 f (wrote (spot l n k a) g x) q r m y w' ∧ W.grownBy w' (some M) :=
  (h.st.write a x ha hx).mono fun _ _ ⟨he, hs, hO⟩ => ⟨he, ⟨hs, h.hq.only hO (fun e => h.d3 e.symm), h.hr.only hO h.d7, h.d1, h.d2, h.d3, h.d4, h.d5, h.d6, h.d7⟩, hO⟩
/-- Within a round: the call in block O, what stands at its address in block S. -/
structure Ro (w : World) (P b R M X l n cap k Q R0 O S a x K A : Nat) (z : Int) (f g q : Nat → Nat) (r m : Int) (y : Nat) (W : World) : Prop where
  u : Run w P b R M X l n cap k Q R0 f g q r m y W
  o : Whole W O 31 #[.int .i64 z, .int .u32 a, .int .u8 x]
  s : Whole W S 33 #[.int .u8 K, .int .i64 A]
  e1 : O ≠ M
  e2 : S ≠ M
  e3 : O ≠ Q
  e4 : S ≠ Q
theorem Ro.step {w W W' : World} {P b R M X l n cap k Q R0 O S a x K A : Nat} {z : Int} {f g q : Nat → Nat} {r m : Int} {y : Nat} (h : Ro w P b R M X l n cap k Q R0 O S a x K A z f g q r m y W) (hB : Below W.heap.size W W') : Ro w P b R M X l n cap k Q R0 O S a x K A z f g q r m y W' :=
  ⟨h.u.step hB, h.o.below hB h.o.lt, h.s.below hB h.s.lt, h.e1, h.e2, h.e3, h.e4⟩
theorem Ro.drew {w W : World} {P b R M X l n cap k Q R0 O S a x K A : Nat} {z : Int} {f g q : Nat → Nat} {r m : Int} {y : Nat} (h : Ro w P b R M X l n cap k Q R0 O S a x K A z f g q r m y W) : Ro w P b R M X l n cap k Q R0 O S a x K A z f g q r m y W.drew :=
  h.step ⟨rfl, rfl, rfl, Nat.le_refl _, fun _ _ => rfl⟩
theorem Ro.drewN {w W : World} {P b R M X l n cap k Q R0 O S a x K A : Nat} {z : Int} {f g q : Nat → Nat} {r m : Int} {y : Nat} (h : Ro w P b R M X l n cap k Q R0 O S a x K A z f g q r m y W) (j : Nat) : Ro w P b R M X l n cap k Q R0 O S a x K A z f g q r m y (W.drewN j) :=
  h.step (below_drewN (Below.refl _ _) j)
theorem Ro.set {w W : World} {P b R M X l n cap k Q R0 O S a x K A : Nat} {z : Int} {f g q : Nat → Nat} {r m : Int} {y : Nat} (h : Ro w P b R M X l n cap k Q R0 O S a x K A z f g q r m y W) (i v : Nat) (hv : v < 256) :
    Ro w P b R M X l n cap k Q R0 O S a x K A z f g (upd q i v) r m y (W.setCell ⟨Q, i, none⟩ (.int .u8 (v : Nat))) :=
  ⟨h.u.set i v hv, h.o.away h.e3 _, h.s.away h.e4 _, h.e1, h.e2, h.e3, h.e4⟩
theorem Ro.cells {w W : World} {P b R M X l n cap k Q R0 O S a x K A : Nat} {z : Int} {f g q : Nat → Nat} {r m : Int} {y : Nat} (h : Ro w P b R M X l n cap k Q R0 O S a x K A z f g q r m y W) :
    W.cell? ⟨O, 0, none⟩ = some (.int .i64 z) ∧ W.cell? ⟨O, 1, none⟩ = some (.int .u32 a) ∧ W.cell? ⟨O, 2, none⟩ = some (.int .u8 x) ∧ W.cell? ⟨S, 0, none⟩ = some (.int .u8 K) ∧ W.cell? ⟨S, 1, none⟩ = some (.int .i64 A) :=
  ⟨h.o.cell 0, h.o.cell 1, h.o.cell 2, h.s.cell 0, h.s.cell 1⟩
theorem Ro.decode {w W : World} {P b R M X l n cap k Q R0 O S a x K A : Nat} {z : Int} {f g q : Nat → Nat} {r m : Int} {y : Nat} (hs : spot l n k a = (K, A)) (ha : a < 4294967296) (h : Ro w P b R M X l n cap k Q R0 O S a x K A z f g q r m y W) :
    Calls Try.prog 13 #[.pointer (some ⟨b, 0, none⟩), .int .u32 a] W fun e w' => e = .returned (.agg #[.int .u8 (K : Nat), .int .i64 (A : Nat)]) ∧ Ro w P b R M X l n cap k Q R0 O S a x K A z f g q r m y w' := by
  have := h.u.decode a ha
  rw [hs] at this
  exact this.mono fun _ _ ⟨he, hB⟩ => ⟨he, h.step hB⟩
theorem Ro.read {w W : World} {P b R M X l n cap k Q R0 O S a x K A : Nat} {z : Int} {f g q : Nat → Nat} {r m : Int} {y : Nat} (hs : spot l n k a = (K, A)) (ha : a < 4294967296) (h : Ro w P b R M X l n cap k Q R0 O S a x K A z f g q r m y W) :
    Calls Try.prog 14 #[.pointer (some ⟨b, 0, none⟩), .int .u32 a] W fun e w' => e = .returned (.tuple #[.int .u8 (readN (K, A) f g : Nat), .bool (decide (K ≠ 0))]) ∧ Ro w P b R M X l n cap k Q R0 O S a x K A z f g q r m y w' := by
  have := h.u.st.read a ha
  rw [hs] at this
  exact this.mono fun _ _ ⟨he, _, hB⟩ => ⟨he, h.step hB⟩
theorem Ro.write {w W : World} {P b R M X l n cap k Q R0 O S a x K A : Nat} {z : Int} {f g q : Nat → Nat} {r m : Int} {y : Nat} (hs : spot l n k a = (K, A)) (ha : a < 4294967296) (hx : x < 256) (h : Ro w P b R M X l n cap k Q R0 O S a x K A z f g q r m y W) :
    Calls Try.prog 15 #[.pointer (some ⟨b, 0, none⟩), .int .u32 a, .int .u8 x] W fun e w' => e = .returned (.bool (decide (K ≠ 0))) ∧ Ro w P b R M X l n cap k Q R0 O S a x K A z f (wrote (K, A) g x) q r m y w' := by
  have := h.u.write a x ha hx
  rw [hs] at this
  exact this.mono fun _ _ ⟨he, hu, hO⟩ => ⟨he, hu, h.o.only hO h.e1, h.s.only hO h.e2, h.e1, h.e2, h.e3, h.e4⟩
theorem opCells {W : World} {O : Nat} {a b c : Value} (h : Whole W O 31 #[a, b, c]) : W.cell? ⟨O, 0, none⟩ = some a ∧ W.cell? ⟨O, 1, none⟩ = some b ∧ W.cell? ⟨O, 2, none⟩ = some c := ⟨h.cell 0, h.cell 1, h.cell 2⟩
theorem spCells {W : World} {O : Nat} {a b : Value} (h : Whole W O 33 #[a, b]) : W.cell? ⟨O, 0, none⟩ = some a ∧ W.cell? ⟨O, 1, none⟩ = some b := ⟨h.cell 0, h.cell 1⟩
theorem walkN (l y : Nat) (r m : Int) (a : Option Addr) (len cp : Nat) (F : Nat → Op1) (w : World) (hA : OpsLie w a len F) (hlen : len ≤ 9223372036854775807) :
    Calls Try.prog 3 #[planV l r m y, .slice a len cp] w fun e w' => e = .returned (.bool true) ∧ Below w.heap.size w w' := by
  have HM := Lib.hid (made_any l y r m)
  have hP := Whole.fresh w 23 #[.int .u8 l, .int .i64 r, .int .i64 m, .int .u8 y]
  have hB0 : Below w.heap.size w (w.alloc (.cells #[.int .u8 l, .int .i64 r, .int .i64 m, .int .u8 y] 23)) := (Below.refl _ w).alloc (Nat.le_refl _) _
  have HA := Lib.hid hA
  clear hA
  unfold planV at *
  go_enter Try.func3, Try.ntmps3
  go_wp2_with fail
  refine (HM.out _).mono ?_
  rintro e W2 ⟨v, R0, rfl, hH2, hR0, hB3, hcase⟩
  have hP2 := hP.below hB3 hP.lt
  have hB4 := hB0.trans (hB3.mono (Nat.le_of_lt hP.lt))
  have hPl := hP.lt
  clear hP hB0 hB3 HM
  obtain ⟨P, hPe⟩ : ∃ P, w.heap.size = P := ⟨_, rfl⟩
  rw [hPe] at hP2 hB4 hPl ⊢
  rcases hcase with ⟨_, rfl⟩ | ⟨hg, b, R, M, X, cap, rfl, hBr, hb1, hM1, hRM⟩
  · go_wp2_with fail
    go_ret
    exact ⟨rfl, by rw [hPe]; exact hB4⟩
  obtain ⟨k, rfl⟩ := Int.eq_ofNat_of_zero_le hg.2.2.2.2.1
  simp only [Int.toNat_natCast] at hBr
  have hkm := Lib.hid hBr.m2
  have hS : Stand w P b R M X l (romN r) cap k (romF y) (fun _ => 0) r k y W2 := ⟨hBr, hP2, hB4, by omega, by omega⟩
  have hmk := fun W => run_make_row' (P := Try.prog) 26 5 (.int .u8 0) 1 Try.underlying26 (by kernel_rfl) rfl .i64 .i64 k (by have := hkm.out; omega) (by have := hkm.out; omega) W
  clear hg hBr hP2 hB4 hb1 hM1 hR0 hPl
  generalize romN r = n at *
  obtain ⟨c0, c1, c2, c3⟩ := hS.cells
  have hW1 := Whole.fresh W2 5 (madeCells #[Value.int IntKind.u8 0] k)
  have hRun : Run w P b R M X l n cap k W2.heap.size R0 (romF y) (fun _ => 0) (fun _ => 0) r k y (W2.alloc (Obj.cells (madeCells #[Value.int IntKind.u8 0] k) 5)) :=
    ⟨hS.step ((Below.refl _ _).alloc (Nat.le_refl _) _), holds_of_made hW1, hH2.alloc _, by have := hS.brd.head.lt; omega, by have := hS.brd.rom.lt; omega, by have := hS.brd.ram.lt; omega, fun e => by have := (hS.brd.more e).lt; omega, hS.plan.lt, by have := hH2.lt; omega, hRM⟩
  replace hS := Lib.hid hS
  clear hH2 hRM hW1
  go_upto_region 5 with (fail)
  obtain ⟨Q, hQ⟩ : ∃ Q, W2.heap.size = Q := ⟨_, rfl⟩
  rw [hQ] at hRun ⊢
  clear hQ
  generalize (W2.alloc (Obj.cells (madeCells #[Value.int IntKind.u8 0] k) 5)) = W3 at *
  clear hS hmk c0 c1 c2 c3
  go_wp2_with fail
  go_loopw [9] (fun si wr => ∃ (j : Nat) (g : Nat → Nat), j ≤ len ∧ si = .int .i64 j ∧ Run w P b R M X l n cap k Q R0 (romF y) g g r k y wr) (fun si _ => len - (intOf si).toNat)
  case atStart => exact ⟨0, _, Nat.zero_le _, rfl, hRun⟩
  case round =>
    obtain ⟨j, g, hj, rfl, hU⟩ := hrel
    clear hRun
    by_cases hlt : j < len
    · have hop : ∃ bb o, a = some ⟨bb, o, none⟩ ∧ OpAt wr bb (o + j * 3) (F j) := by
        rcases HA.out with h0 | ⟨bb, o, ha, hbb, hc⟩
        · omega
        · have hbP : bb < P := by omega
          have hB := hU.st.bel
          exact ⟨bb, o, ha, (hB.cell (p := ⟨bb, o + j * 3, none⟩) hbP).trans (hc j hlt).c0, (hB.cell (p := ⟨bb, o + j * 3 + 1, none⟩) hbP).trans (hc j hlt).c1, (hB.cell (p := ⟨bb, o + j * 3 + 2, none⟩) hbP).trans (hc j hlt).c2, (hc j hlt).ha, (hc j hlt).hv⟩
      obtain ⟨bb, o, rfl, k0, k1, k2, hat, hvt⟩ := hop
      generalize F j = op at *
      obtain ⟨z, t, x⟩ := op
      dsimp only at k0 k1 k2 hat hvt
      obtain ⟨c0, c1, c2, c3⟩ := hU.st.cells
      have hU4 := hU.alloc (.cells #[.int .i64 z, .int .u32 t, .int .u8 x] 31)
      have hO4 := Whole.fresh wr 31 #[.int .i64 z, .int .u32 t, .int .u8 x]
      have hr4 := hU4.rdec t hat
      have f1 := hU.st.brd.ram.lt
      have f2 := hU.hq.lt
      have f3 := hU.st.plan.lt
      generalize hs : spot l n k t = s at *
      obtain ⟨K, A⟩ := s
      dsimp only at hr4
      have HR := Lib.hid hr4
      have HS := Lib.hid hs
      have hUh := Lib.hid hU
      have HK := Lib.hid (spot_kind l n k t)
      have H1 := Lib.hid (spot_rom l n k t hU.st.brd.n1 (by have := hU.st.brd.n2; omega))
      have H2 := Lib.hid (spot_ram l n k t)
      rw [hs] at HK H1 H2
      clear hs hr4 hU
      go_wp2_with fail
      refine HR.out.mono ?_
      rintro e W5 ⟨rfl, hB5⟩
      have hS6 := Whole.fresh W5 33 #[.int .u8 K, .int .i64 A]
      have hsz := hB5.size
      have hRo : Ro w P b R M X l n cap k Q R0 wr.heap.size W5.heap.size t x K A z (romF y) g g r k y (W5.alloc (.cells #[.int .u8 K, .int .i64 A] 33)) :=
        ⟨(hU4.step hB5).alloc _, (hO4.below hB5 hO4.lt).alloc _, hS6, by omega, by have := hO4.lt; omega, by omega, by have := hO4.lt; omega⟩
      clear hU4 hO4 HR hB5 hS6 c0 c1 c2 c3 k0 k1 k2 hUh f1 f2 f3 hsz
      generalize wr.heap.size = O at *
      go_upto_region 10 with (fail)
      generalize W5.alloc (.cells #[.int .u8 K, .int .i64 A] 33) = W6 at *
      generalize W5.heap.size = S at *
      have HD := Lib.hid (fun W (h : Ro w P b R M X l n cap k Q R0 O S t x K A z (romF y) g g r k y W) => h.decode HS.out hat)
      have HRo := Lib.hid hRo
      obtain ⟨d0, d1, d2, d3, d4⟩ := hRo.cells
      clear hRo
      go_region_held3 (fun W => W.cell? ⟨O, 1, none⟩ = some (.int .u32 t) ∧ W.cell? ⟨S, 0, none⟩ = some (.int .u8 K) ∧ W.cell? ⟨S, 1, none⟩ = some (.int .i64 A))
        (first | exact ⟨HRo.out.cells.2.1, HRo.out.cells.2.2.2⟩ | exact ⟨hR7.cells.2.1, hR7.cells.2.2.2⟩ | go_keep)
        (first
          | (go_at_call 13; (with_reducible refine (HD.out _ ?_).mono ?_); (repeat' (first | (with_reducible exact HRo.out) | (with_reducible refine Ro.drew ?_) | (with_reducible refine Ro.drewN ?_ _))); rintro e W7 ⟨rfl, hR7⟩))
      clear HD HRo d0 d1 d2 d3 d4 W6 W5
      have hxx : x < 256 := hvt
      by_cases hz : z = 0
      · subst hz
        rcases HK.out with rfl | rfl | rfl
        · skip
          obtain ⟨d0, d1, d2, d3, d4⟩ := hR7.cells
          have HV := Lib.hid (hR7.read HS.out hat)
          have HR7 := Lib.hid hR7
          clear hR7
          go_wp2_with fail
          refine HV.out.mono ?_
          rintro e W8 ⟨rfl, hR8⟩
          clear HV HR7 d0 d1 d2 d3 d4
          obtain ⟨d0, d1, d2, d3, d4⟩ := hR8.cells
          rw [show readN (0, A) (romF y) g = 0 from rfl]
          have hU8 := Lib.hid hR8.u
          clear hR8
          go_wp2_with fail
          go_roundw
          case rel => exact ⟨j + 1, g, by omega, by go_num, hU8.out⟩
          case measure => simp [intOf]; omega
        · skip
          obtain ⟨d0, d1, d2, d3, d4⟩ := hR7.cells
          have hA := H1.out rfl
          have hA1 : (A : Int) < (n : Int) := by omega
          have HV := Lib.hid (hR7.read HS.out hat)
          have HR7 := Lib.hid hR7
          clear hR7
          go_wp2_with fail
          refine HV.out.mono ?_
          rintro e W8 ⟨rfl, hR8⟩
          clear HV HR7 d0 d1 d2 d3 d4
          obtain ⟨d0, d1, d2, d3, d4⟩ := hR8.cells
          rw [show readN (1, A) (romF y) g = romF y A from rfl]
          have hv := hR8.u.hr.cell A hA
          generalize romF y A = vv at *
          have hU8 := Lib.hid hR8.u
          clear hR8
          go_wp2_with fail
          go_roundw
          case rel => exact ⟨j + 1, g, by omega, by go_num, hU8.out⟩
          case measure => simp [intOf]; omega
        · skip
          obtain ⟨d0, d1, d2, d3, d4⟩ := hR7.cells
          have hA := H2.out rfl
          have hA1 : (A : Int) < (k : Int) := by omega
          have HV := Lib.hid (hR7.read HS.out hat)
          have HR7 := Lib.hid hR7
          clear hR7
          go_wp2_with fail
          refine HV.out.mono ?_
          rintro e W8 ⟨rfl, hR8⟩
          clear HV HR7 d0 d1 d2 d3 d4
          obtain ⟨d0, d1, d2, d3, d4⟩ := hR8.cells
          rw [show readN (2, A) (romF y) g = g A from rfl]
          have hv := hR8.u.hq.cell A hA
          generalize g A = vv at *
          have hU8 := Lib.hid hR8.u
          clear hR8
          go_wp2_with fail
          go_roundw
          case rel => exact ⟨j + 1, g, by omega, by go_num, hU8.out⟩
          case measure => simp [intOf]; omega
      · have tz : (z == 0) = false := by rw [beq_eq_false_iff_ne]; exact hz
        clear hz
        rcases HK.out with rfl | rfl | rfl
        · skip
          obtain ⟨d0, d1, d2, d3, d4⟩ := hR7.cells
          have hR8 := Lib.hid hR7
          clear hR7
          go_upto_region 23 with (fail)
          clear d0 d1 d2 d3 d4
          have HW := Lib.hid (fun W (h : Ro w P b R M X l n cap k Q R0 O S t x 0 A z (romF y) g g r k y W) => h.write HS.out hat hxx)
          obtain ⟨d0, d1, d2, d3, d4⟩ := hR8.out.cells
          go_region_held3 (fun W => W.cell? ⟨O, 1, none⟩ = some (.int .u32 t) ∧ W.cell? ⟨O, 2, none⟩ = some (.int .u8 x) ∧ W.cell? ⟨S, 0, none⟩ = some (.int .u8 0))
            (first | exact ⟨hR8.out.cells.2.1, hR8.out.cells.2.2.1, hR8.out.cells.2.2.2.1⟩ | exact ⟨hR9.cells.2.1, hR9.cells.2.2.1, hR9.cells.2.2.2.1⟩ | go_keep)
            (first
              | (go_at_call 15; (with_reducible refine (HW.out _ ?_).mono ?_); (repeat' (first | (with_reducible exact hR8.out) | (with_reducible refine Ro.drew ?_) | (with_reducible refine Ro.drewN ?_ _))); rintro e W9 ⟨rfl, hR9⟩))
          all_goals
            rw [show wrote (0, A) g x = g from rfl] at hR9
            have hU9 := Lib.hid hR9.u
            clear HW d0 d1 d2 d3 d4 hR9 hR8
            go_wp2_with fail
            go_roundw
            case rel => exact ⟨j + 1, g, by omega, by go_num, by first | exact hU9.out | exact hU9.out.drewN _ | exact hU9.out.drew⟩
            case measure => simp [intOf]; omega
        · skip
          obtain ⟨d0, d1, d2, d3, d4⟩ := hR7.cells
          have hA := H1.out rfl
          have hA1 : (A : Int) < (n : Int) := by omega
          have hR8 := Lib.hid hR7
          clear hR7
          go_upto_region 23 with (fail)
          clear d0 d1 d2 d3 d4
          have HW := Lib.hid (fun W (h : Ro w P b R M X l n cap k Q R0 O S t x 1 A z (romF y) g g r k y W) => h.write HS.out hat hxx)
          obtain ⟨d0, d1, d2, d3, d4⟩ := hR8.out.cells
          go_region_held3 (fun W => W.cell? ⟨O, 1, none⟩ = some (.int .u32 t) ∧ W.cell? ⟨O, 2, none⟩ = some (.int .u8 x) ∧ W.cell? ⟨S, 0, none⟩ = some (.int .u8 1))
            (first | exact ⟨hR8.out.cells.2.1, hR8.out.cells.2.2.1, hR8.out.cells.2.2.2.1⟩ | exact ⟨hR9.cells.2.1, hR9.cells.2.2.1, hR9.cells.2.2.2.1⟩ | go_keep)
            (first
              | (go_at_call 15; (with_reducible refine (HW.out _ ?_).mono ?_); (repeat' (first | (with_reducible exact hR8.out) | (with_reducible refine Ro.drew ?_) | (with_reducible refine Ro.drewN ?_ _))); rintro e W9 ⟨rfl, hR9⟩))
          all_goals
            rw [show wrote (1, A) g x = g from rfl] at hR9
            have hU9 := Lib.hid hR9.u
            clear HW d0 d1 d2 d3 d4 hR9 hR8
            go_wp2_with fail
            go_roundw
            case rel => exact ⟨j + 1, g, by omega, by go_num, by first | exact hU9.out | exact hU9.out.drewN _ | exact hU9.out.drew⟩
            case measure => simp [intOf]; omega
        · skip
          obtain ⟨d0, d1, d2, d3, d4⟩ := hR7.cells
          have hA := H2.out rfl
          have hA1 : (A : Int) < (k : Int) := by omega
          have fq := hR7.u.hq.free A
          have cq := hR7.u.hq.cell A hA
          have fq := hR7.u.hq.free A
          have cq := hR7.u.hq.cell A hA
          have hR8 := hR7.set A x hxx
          obtain ⟨ga, hga⟩ : ∃ ga, g A = ga := ⟨_, rfl⟩
          rw [hga] at cq
          replace hR8 := Lib.hid hR8
          clear hR7 hga
          go_upto_region 23 with (fail)
          generalize W7.setCell ⟨Q, A, none⟩ (.int .u8 (x : Nat)) = W8 at *
          clear d0 d1 d2 d3 d4 cq fq
          have HW := Lib.hid (fun W (h : Ro w P b R M X l n cap k Q R0 O S t x 2 A z (romF y) g (upd g A x) r k y W) => h.write HS.out hat hxx)
          obtain ⟨d0, d1, d2, d3, d4⟩ := hR8.out.cells
          go_region_held3 (fun W => W.cell? ⟨O, 1, none⟩ = some (.int .u32 t) ∧ W.cell? ⟨O, 2, none⟩ = some (.int .u8 x) ∧ W.cell? ⟨S, 0, none⟩ = some (.int .u8 2))
            (first | exact ⟨hR8.out.cells.2.1, hR8.out.cells.2.2.1, hR8.out.cells.2.2.2.1⟩ | exact ⟨hR9.cells.2.1, hR9.cells.2.2.1, hR9.cells.2.2.2.1⟩ | go_keep)
            (first
              | (go_at_call 15; (with_reducible refine (HW.out _ ?_).mono ?_); (repeat' (first | (with_reducible exact hR8.out) | (with_reducible refine Ro.drew ?_) | (with_reducible refine Ro.drewN ?_ _))); rintro e W9 ⟨rfl, hR9⟩))
          all_goals
            rw [show wrote (2, A) g x = upd g A x from rfl] at hR9
            have hU9 := Lib.hid hR9.u
            clear HW d0 d1 d2 d3 d4 hR9 hR8
            go_wp2_with fail
            go_roundw
            case rel => exact ⟨j + 1, upd g A x, by omega, by go_num, by first | exact hU9.out | exact hU9.out.drewN _ | exact hU9.out.drew⟩
            case measure => simp [intOf]; omega
    · obtain rfl : j = len := by omega
      have HR := Lib.hid hU.st.ram
      have f1 := hU.st.brd.ram.lt
      have f2 := hU.hq.lt
      have f3 := hU.st.plan.lt
      have f4 := hU.st.brd.head.lt
      have f5 := hU.st.brd.rom.lt
      have f6 := fun e => (hU.st.brd.more e).lt
      have f7 := hU.hr.lt
      have hk2 : k ≤ 140737488355328 := by have := hkm.out; omega
      replace f6 := Lib.hid f6
      have HU := Lib.hid hU
      clear hU
      go_wp2_with fail
      refine HR.out.mono ?_
      rintro e W3 ⟨G, c, rfl, hcc, hG3, hGl, hS3, hB3⟩
      have hU3 := HU.out.step hB3
      have HY := Lib.hid (same_any (some ⟨G, 0, none⟩) (some ⟨Q, 0, none⟩) k c k g W3 hG3.row hU3.hq.row hk2)
      clear HR HU hS3 hB3
      go_wp2_with fail
      refine HY.out.mono ?_
      rintro e W4 ⟨rfl, q4, rfl⟩
      have hU4 := hU3.drewN q4
      have hG4 := hG3.drewN q4
      clear HY hU3 hG3
      generalize W3.drewN q4 = W4 at *
      have HP := Lib.hid (spoil_any G k c g W4 hk2 hG4)
      go_wp2_with fail
      refine HP.out.mono ?_
      rintro e W5 ⟨⟨v5, rfl⟩, hO5⟩
      have hS5 : Stand w P b R M X l n cap k (romF y) g r k y W5 :=
        ⟨hU4.st.brd.only hO5 (by omega) (by omega) (by omega) (fun e => by have := f6.out e; omega), hU4.st.plan.only hO5 (by omega), below_only hU4.st.bel hO5 (by omega) (Nat.le_of_lt hU4.st.plan.lt), hU4.st.hPM, hU4.st.hPb⟩
      have hQ5 := hU4.hq.only hO5 (show Q ≠ G by omega)
      clear hU4 hG4 HP hO5
      have HR := Lib.hid hS5.ram
      have HS5 := Lib.hid hS5
      clear hS5
      go_wp2_with fail
      refine HR.out.mono ?_
      rintro e W6 ⟨G6, c6, rfl, hcc6, hG6, hGl6, hS6, hB6⟩
      have HY := Lib.hid (same_any (some ⟨G6, 0, none⟩) (some ⟨Q, 0, none⟩) k c6 k g W6 hG6.row (hQ5.below hB6 hQ5.lt).row hk2)
      clear HR HS5 hB6 hG6 hQ5
      go_wp2_with fail
      refine HY.out.mono ?_
      rintro e W7 ⟨rfl, q7, rfl⟩
      clear HY
      go_wp2_with fail
      go_ret
      exact ⟨rfl, by first | exact below_drewN hS6.bel _ | (rw [hPe]; exact below_drewN hS6.bel _)⟩
end boardRuns
end Go.Proofs.Ythhahhmdpjchkaa
