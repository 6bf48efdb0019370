/-
  BoardWheres: the walk.
-/
import Derived.Test.YthhahhmdpjchkaaRegRound
import Derived.Test.YthhahhmdpjchkaaWhereL
import Derived.Test.YthhahhmdpjchkaaStand
import Derived.Test.YthhahhmdpjchkaaRDecAll
import Derived.Sort.CutIn
namespace Go.Proofs.Ythhahhmdpjchkaa
open Go.RowKit Go.Shelf
attribute [local go_sem] Oper.semAt_some
set_option maxRecDepth 100000
set_option maxHeartbeats 1000000

/-- Where gives the iterator over two new boxes. -/
theorem wheref_any {b K : Nat} (Z : Int) (w : World) :
    Calls Try.prog 19 #[.pointer (some ⟨b, 0, none⟩), .agg #[.int .u8 K, .int .i64 Z]] w fun e w' => ∃ S0 B0, e = .returned (.func (.func 30) #[] #[.pointer (some ⟨S0, 0, none⟩), .pointer (some ⟨B0, 0, none⟩)]) ∧ w.heap.size ≤ S0 ∧ w.heap.size ≤ B0 ∧
      Whole w' S0 33 #[.int .u8 K, .int .i64 Z] ∧ Whole w' B0 25 #[.pointer (some ⟨b, 0, none⟩)] ∧ Below w.heap.size w w' := by
  go_enter Try.func19, Try.ntmps19
  go_wp2_with fail
  refine bodyPost_ret (results_tmp rfl _ _ _) rfl ?_
  refine ⟨_, _, rfl, Nat.le_succ _, Nat.le_refl _, ?_, (Whole.fresh w 25 _).alloc _, ((Below.refl _ w).alloc (Nat.le_refl _) _).alloc (by simp) _⟩
  have := Whole.fresh (w.alloc (.cells #[.pointer (some ⟨b, 0, none⟩)] 25)) 33 #[.int .u8 K, .int .i64 Z]
  rwa [World.size_alloc] at this
theorem itnil (a c : Addr) (w : World) : (binOp .eql 45 (.func (.func 30) #[] #[.pointer (some a), .pointer (some c)]) .nilFunc).run Try.prog w = .ok (.bool false) w := by kernel_rfl
theorem whole_ne {w : World} {g h : Nat} {t u : TypeId} {cs ds : Array Value} (a : Whole w g t cs) (b : Whole w h u ds) (hne : t ≠ u) : g ≠ h := by
  rintro rfl
  have e := Option.some.inj ((show w.heap[g]? = _ from a).symm.trans b)
  injection e with _ e
  exact hne e
theorem holds_ne {w : World} {g h n : Nat} {f : Nat → Nat} {u : TypeId} {ds : Array Value} (a : Holds w g n f) (b : Whole w h u ds) (hne : 5 ≠ u) : g ≠ h := let ⟨_, a, _⟩ := a; whole_ne a b hne
/-- How the statement stands: what it has boxed, the board, the rom. -/
structure Wh (w : World) (p b R M X l n cap k : Nat) (f g : Nat → Nat) (r m : Int) (y K : Nat) (Z : Int) (R0 Y : Nat) (W : World) : Prop where
  brd : Brd W b R M X l n cap k f g
  plan : Whole W p 23 #[.int .u8 l, .int .i64 r, .int .i64 m, .int .u8 y]
  spt : Whole W (p + 1) 33 #[.int .u8 K, .int .i64 Z]
  rom : Whole W Y 26 #[.slice (some ⟨R0, 0, none⟩) n n]
  bel : Below p w W
theorem Wh.below {w W W' : World} {p b R M X l n cap k y K R0 Y : Nat} {f g : Nat → Nat} {r m Z : Int} (h : Wh w p b R M X l n cap k f g r m y K Z R0 Y W) (hb : Below W.heap.size W W') : Wh w p b R M X l n cap k f g r m y K Z R0 Y W' :=
  ⟨h.brd.below hb, h.plan.below hb h.plan.lt, h.spt.below hb h.spt.lt, h.rom.below hb h.rom.lt, h.bel.trans (hb.mono (Nat.le_of_lt h.plan.lt))⟩
/-- None of the blocks that are read is v. -/
def Apart (p b R M X l Y v : Nat) : Prop := b ≠ v ∧ R ≠ v ∧ M ≠ v ∧ (l ≠ 1 → X ≠ v) ∧ p ≠ v ∧ p + 1 ≠ v ∧ Y ≠ v ∧ p ≤ v
theorem Wh.apart {w W : World} {p b R M X l n cap k y K R0 Y v : Nat} {f g : Nat → Nat} {r m Z : Int} (h : Wh w p b R M X l n cap k f g r m y K Z R0 Y W) (hv : W.heap.size ≤ v) : Apart p b R M X l Y v := by
  have h1 := h.brd.head.lt
  have h2 := h.brd.rom.lt
  have h3 := h.brd.ram.lt
  have h4 := h.plan.lt
  have h5 := h.spt.lt
  have h6 := h.rom.lt
  exact ⟨by omega, by omega, by omega, fun e => by have := (h.brd.more e).lt; omega, by omega, by omega, by omega, by omega⟩
theorem Wh.set {w W : World} {p b R M X l n cap k y K R0 Y v : Nat} {f g : Nat → Nat} {r m Z : Int} (h : Wh w p b R M X l n cap k f g r m y K Z R0 Y W) (hv : Apart p b R M X l Y v) (i : Nat) (u : Value) : Wh w p b R M X l n cap k f g r m y K Z R0 Y (W.setCell ⟨v, i, none⟩ u) := by
  obtain ⟨a1, a2, a3, a4, a5, a6, a7, a8⟩ := hv
  exact ⟨⟨h.brd.lay, h.brd.head.away a1 u, h.brd.rom.away a2 u, h.brd.ram.away a3 u, fun e => (h.brd.more e).away (a4 e) u, h.brd.n1, h.brd.n2, h.brd.m2, h.brd.hb, h.brd.hR, h.brd.hX⟩,
    h.plan.away a5 u, h.spt.away a6 u, h.rom.away a7 u, h.bel.setCell (p := ⟨v, i, none⟩) a8 u⟩
theorem Wh.grown {w W W' : World} {p b R M X l n cap k y K R0 Y B : Nat} {f g : Nat → Nat} {r m Z : Int} {row : Option Nat} (h : Wh w p b R M X l n cap k f g r m y K Z R0 Y W) (hg : W.grownBy W' row)
    (hr : ∀ q, row = some q → B ≤ q ∧ ∃ o : Obj, W.heap[q]? = some o ∧ o.isCells = false) (hB : p ≤ B) : Wh w p b R M X l n cap k f g r m y K Z R0 Y W' := by
  have kk : ∀ q, Keeps3 q q q W W' := fun q => keeps3_grown hg (fun r e => (hr r e).2)
  have up : ∀ {g : Nat} {t : TypeId} {cs : Array Value}, Whole W g t cs → Whole W' g t cs := fun {g _ _} h => h.keeps (kk (g + 1)) (by omega) (by omega) (by omega)
  exact ⟨⟨h.brd.lay, up h.brd.head, h.brd.rom.keeps (kk (R + 1)) (by omega) (by omega) (by omega), h.brd.ram.keeps (kk (M + 1)) (by omega) (by omega) (by omega), fun e => up (h.brd.more e), h.brd.n1, h.brd.n2, h.brd.m2, h.brd.hb, h.brd.hR, h.brd.hX⟩,
    up h.plan, up h.spt, up h.rom, h.bel.grown hg (Nat.le_of_lt h.plan.lt) (fun q e => Nat.le_trans hB (hr q e).1)⟩
theorem whole_grown {W W' : World} {g : Nat} {t : TypeId} {cs : Array Value} {row : Option Nat} (h : Whole W g t cs) (hg : W.grownBy W' row) (hr : ∀ q, row = some q → ∃ o : Obj, W.heap[q]? = some o ∧ o.isCells = false) : Whole W' g t cs :=
  h.keeps (keeps3_grown (x := g + 1) (y := g + 1) (z := g + 1) hg hr) (by omega) (by omega) (by omega)
theorem keeps3_set {x y z v : Nat} (W : World) (i : Nat) (u : Value) (hv : v = x ∨ v = y ∨ v = z) : Keeps3 x y z W (W.setCell ⟨v, i, none⟩ u) :=
  ⟨by simp [World.setCell], fun k cs t f h1 h2 h3 hk => (Below.heap_setCell W ⟨v, i, none⟩ u k (by rcases hv with rfl | rfl | rfl <;> assumption)).trans hk⟩
theorem others_below {W W' : World} (hb : Below W.heap.size W W') : KeepsOthers W W' := ⟨hb.size, fun k _ hk _ => (hb.block k (Array.getElem?_eq_some_iff.1 hk).1).trans hk⟩
namespace boardWheres
theorem walk (l y K : Nat) (r m Z st : Int) (w : World) :
    Calls Try.prog 5 #[planV l r m y, .agg #[.int .u8 K, .int .i64 Z], .int .i64 st] w fun e w' => e = .returned (.bool true) ∧ Below w.heap.size w w' := by
  have HM := Lib.hid (made_any l y r m)
  unfold planV at *
  refine (callsIn_wide (n := 9)).1 ?_
  refine callsIn_of_wp_marks Try.func5 rfl trivial ?_ rfl
  simp only [Try.ntmps5, List.size_toArray, List.length_cons, List.length_nil, Nat.reduceAdd, Nat.reduceSub, Array.replicate_succ, Array.replicate_zero, List.push_toArray, List.append_toArray, List.nil_append, List.cons_append]
  gi_wp2_with fail
  have hP := Whole.fresh w 23 #[.int .u8 l, .int .i64 r, .int .i64 m, .int .u8 y]
  have hS := Whole.fresh (w.alloc (.cells #[.int .u8 l, .int .i64 r, .int .i64 m, .int .u8 y] 23)) 33 #[.int .u8 K, .int .i64 Z]
  have hT := Whole.fresh ((w.alloc (.cells #[.int .u8 l, .int .i64 r, .int .i64 m, .int .u8 y] 23)).alloc (.cells #[.int .u8 K, .int .i64 Z] 33)) 3 #[.int .i64 st]
  have hX := Whole.fresh (((w.alloc (.cells #[.int .u8 l, .int .i64 r, .int .i64 m, .int .u8 y] 23)).alloc (.cells #[.int .u8 K, .int .i64 Z] 33)).alloc (.cells #[.int .i64 st] 3)) 4 #[.bool false]
  have hB := (((Below.refl w.heap.size w).alloc (Nat.le_refl _) (.cells #[.int .u8 l, .int .i64 r, .int .i64 m, .int .u8 y] 23)).alloc (by simp) (.cells #[.int .u8 K, .int .i64 Z] 33)).alloc (by simp; omega) (.cells #[.int .i64 st] 3)
  replace hB := hB.alloc (by simp; omega) (.cells #[.bool false] 4)
  replace hP := ((hP.alloc (.cells #[.int .u8 K, .int .i64 Z] 33)).alloc (.cells #[.int .i64 st] 3)).alloc (.cells #[.bool false] 4)
  replace hS := (hS.alloc (.cells #[.int .i64 st] 3)).alloc (.cells #[.bool false] 4)
  replace hT := hT.alloc (.cells #[.bool false] 4)
  simp only [World.size_alloc] at hS hT hX
  have hsz : ((((w.alloc (.cells #[.int .u8 l, .int .i64 r, .int .i64 m, .int .u8 y] 23)).alloc (.cells #[.int .u8 K, .int .i64 Z] 33)).alloc (.cells #[.int .i64 st] 3)).alloc (.cells #[.bool false] 4)).heap.size = w.heap.size + 1 + 1 + 1 + 1 := by simp
  generalize (((w.alloc (.cells #[.int .u8 l, .int .i64 r, .int .i64 m, .int .u8 y] 23)).alloc (.cells #[.int .u8 K, .int .i64 Z] 33)).alloc (.cells #[.int .i64 st] 3)).alloc (.cells #[.bool false] 4) = W1 at *
  refine ⟨trivial, (callsIn_wide.2 (HM.out _)).mono ?_⟩
  rintro e W2 ⟨v, R0, rfl, hH2, hR0, hB3, hcase⟩
  replace hP := hP.below hB3 hP.lt
  replace hS := hS.below hB3 hS.lt
  replace hT := hT.below hB3 hT.lt
  replace hX := hX.below hB3 hX.lt
  replace hB := hB.trans (hB3.mono (by rw [hsz]; omega))
  clear hB3 HM hH2
  generalize hp : w.heap.size = p at *
  rcases hcase with ⟨_, rfl⟩ | ⟨hg, b, R, M, X, cap, rfl, hBr, hb1, hM1, hRM⟩
  · clear hsz hR0
    have hX3 := hX.alloc (.cells #[.slice (some ⟨R0, 0, none⟩) (romN r) (romN r)] 26)
    have hB3 := (hB.alloc (by have := hP.lt; omega) (.cells #[.slice (some ⟨R0, 0, none⟩) (romN r) (romN r)] 26)).setCell (p := ⟨p + 1 + 1 + 1, 0, none⟩) (by simp; omega) (.bool true)
    have hx0 := hX3.cell 0
    have hx1 := hX3.free 0
    have hx2 := (hX3.put 0 (.bool true)).cell 0
    simp only [List.getElem?_toArray, List.getElem?_cons_zero, List.setIfInBounds_toArray, List.set_cons_zero] at hx0 hx2
    gi_wp2_with fail
    refine ⟨.bool true, by simp [results, Try.f5, go_sem, hx2], rfl, by rw [hp]; exact hB3⟩
  obtain ⟨k, rfl⟩ := Int.eq_ofNat_of_zero_le hg.2.2.2.2.1
  simp only [Int.toNat_natCast] at hBr
  generalize romN r = n at *
  have hW2 : Wh w p b R M X l n cap k (romF y) (fun _ => 0) r k y K Z R0 W2.heap.size (W2.alloc (.cells #[.slice (some ⟨R0, 0, none⟩) n n] 26)) :=
    ⟨hBr.alloc _, hP.alloc _, hS.alloc _, Whole.fresh W2 26 _, hB.alloc (by have := hP.lt; omega) _⟩
  have hA2 : Apart p b R M X l W2.heap.size (p + 1 + 1 + 1) := ⟨by omega, holds_ne hBr.rom hX (by decide), by omega, fun e => whole_ne (hBr.more e) hX (by decide), by omega, by omega, by have := hX.lt; omega, by omega⟩
  have hA3 : Apart p b R M X l W2.heap.size (p + 1 + 1) := ⟨by omega, holds_ne hBr.rom hT (by decide), by omega, fun _ => by omega, by omega, by omega, by have := hT.lt; omega, by omega⟩
  have hT3 := hT.alloc (.cells #[.slice (some ⟨R0, 0, none⟩) n n] 26)
  have hX3 := hX.alloc (.cells #[.slice (some ⟨R0, 0, none⟩) n n] 26)
  have ht0 := hT3.cell 0
  have ht1 := hT3.free 0
  simp only [List.getElem?_toArray, List.getElem?_cons_zero] at ht0
  replace hW2 := Lib.hid hW2
  replace hg := Lib.hid hg
  replace hA2 := Lib.hid hA2
  replace hA3 := Lib.hid hA3
  clear hP hS hT hX hB hBr hsz hR0 hb1 hM1 hRM
  obtain ⟨c, hc⟩ : ∃ c : Bool, (decide (st < 1) || decide (4 < st)) = c := ⟨_, rfl⟩
  obtain ⟨Wa, hWa⟩ : ∃ Wa, Wa = W2.alloc (.cells #[.slice (some ⟨R0, 0, none⟩) n n] 26) := ⟨_, rfl⟩
  rw [← hWa] at hW2 hT3 hX3 ht0 ht1
  gi_upto_region 4 with (fail)
  rw [← hWa]
  generalize W2.heap.size = Y at *
  clear hWa
  gi_cut [32] from 14 (fun s wx => wx = Wa ∧ s = .bool c)
  case first =>
    by_cases h1 : st < 1
    · have t1 : decide (st < 1) = true := decide_eq_true h1
      rw [t1] at hc
      obtain rfl : true = c := hc
      gi_wp2_with fail
      gi_meet
      case rel => exact ⟨rfl, rfl⟩
    · have t1 : decide (st < 1) = false := decide_eq_false h1
      rw [t1, Bool.false_or] at hc
      clear h1
      gi_wp2_with fail
      gi_meet
      case rel => exact ⟨rfl, rfl⟩
  case rest =>
  obtain ⟨rfl, rfl⟩ := hcut
  gi_upto_if 32 with (fail)
  gi_cut [] from 14 (fun wx => Wh w p b R M X l n cap k (romF y) (fun _ => 0) r k y K Z R0 Y wx ∧ Whole wx (p + 1 + 1 + 1) 4 #[.bool false] ∧ ∃ st' : Int, Whole wx (p + 1 + 1) 3 #[.int .i64 st'])
  case first =>
    clear hc
    cases c
    · gi_wp2_with fail
      gi_meet
      case rel => exact ⟨hW2.out, hX3, st, hT3⟩
    · gi_wp2_with fail
      gi_meet
      case rel => exact ⟨hW2.out.set hA3.out 0 _, hX3.away (by simp) _, 1, hT3.put 0 _⟩
  case rest =>
  obtain ⟨hW, hX, st', hT⟩ := hcut
  clear ht0 ht1 hT3 hX3 hW2 hA3 hc
  have hs0 := hW.spt.cell 0
  have hs1 := hW.spt.cell 1
  simp only [List.getElem?_toArray, List.getElem?_cons_zero, List.getElem?_cons_succ] at hs0 hs1
  replace hW := Lib.hid hW
  gi_wp2_with fail
  refine ⟨trivial, (callsIn_wide.2 (wheref_any Z _)).mono ?_⟩
  rintro e W3 ⟨S0, B0, rfl, hS0, hB0, hS, hB, hBe⟩
  have hW3 := hW.out.below hBe
  have hX3 := hX.below hBe hX.lt
  have hXc := hX.lt
  have hT3 := hT.below hBe hT.lt
  have hnil := itnil ⟨S0, 0, none⟩ ⟨B0, 0, none⟩
  clear hW hX hT hs0 hs1
  gi_wp2_with fail
  have hsz : ((W3.alloc (.cells #[.int .i64 0] 3)).alloc (.cells #[.int .u32 0] 29)).heap.size = W3.heap.size + 1 + 1 := by simp
  have hal : Below W3.heap.size W3 ((W3.alloc (.cells #[.int .i64 0] 3)).alloc (.cells #[.int .u32 0] 29)) := ((Below.refl _ W3).alloc (Nat.le_refl _) _).alloc (by simp) _
  have hN := (Whole.fresh W3 3 #[.int .i64 0]).alloc (.cells #[.int .u32 0] 29)
  have hAt := Whole.fresh (W3.alloc (.cells #[.int .i64 0] 3)) 29 #[.int .u32 0]
  rw [World.size_alloc] at hAt
  have hAN := hW3.apart (Nat.le_refl _)
  have hAA : Apart p b R M X l Y (W3.heap.size + 1) := hW3.apart (Nat.le_succ _)
  have hW4 := hW3.below hal
  have hX4 := hX3.below hal hX3.lt
  have hS4 := hS.below hal hS.lt
  have hB4 := hB.below hal hB.lt
  have hXl := hX3.lt
  have hSl := hS.lt
  have hBl := hB.lt
  have hpY := hW3.rom.lt
  have hT4 := hT3.below hal hT3.lt
  clear hal hT3 hX3 hW3 hS hB hBe
  generalize hN1 : W3.heap.size = N1 at *
  generalize hA1 : N1 + 1 = A1 at *
  generalize (W3.alloc (.cells #[.int .i64 0] 3)).alloc (.cells #[.int .u32 0] 29) = W4 at *
  have hA2' := hA2.out
  have hWA : WhereAt b R M X l n cap k S0 B0 K Z (p + 1 + 1 + 1) N1 A1 (romF y) (fun _ => 0) W4 := by
    refine ⟨hW4.brd, hS4, hB4, fun v hv => ?_⟩
    have hc : Apart p b R M X l Y v := by rcases hv with rfl | rfl | rfl <;> assumption
    obtain ⟨a1, a2, a3, a4, a5, a6, a7, a8⟩ := hc
    refine ⟨a1, a2, a3, a4, ?_, ?_⟩ <;> rcases hv with rfl | rfl | rfl <;> omega
  have hseq := where_stops W4 hWA (by omega) 8 (by omega)
  have hgo := allHits_goes l n k K Z
  have hlow : (l = 1 ∧ K = 1 ∧ 0 ≤ Z ∧ Z < n ∧ Z < 32768) → 0 < (allHits l n k K Z).length := by
    rintro ⟨rfl, rfl, h1, h2, h3⟩
    exact low_hit h1 h2 h3
  have hNN : (upA (fun q => (spot l n k q).1) K 2048).length + 1 ≤ 16777217 := by have := upA_length (fun q => (spot l n k q).1) K 2048; omega
  generalize (upA (fun q => (spot l n k q).1) K 2048).length + 1 = NN at *
  generalize allHits l n k K Z = L at *
  clear hWA hS4 hB4
  have HN := Lib.hid hNN
  have HG := Lib.hid hgo
  have HL := Lib.hid hlow
  have HB := Lib.hid (show Apart p b R M X l Y N1 ∧ Apart p b R M X l Y A1 ∧ p + 1 + 1 + 1 < N1 ∧ N1 + 1 = A1 ∧ W4.heap.size = A1 + 1 ∧ p < N1 from ⟨hAN, hAA, by omega, hA1, by omega, by omega⟩)
  have HR := Lib.hid (fun (q : Nat) (hq : q < 4294967296) (W : World) => rdec_any l n k q W hW4.brd.lay hW4.brd.n1 hW4.brd.n2 hq)
  simp only [spotV] at HR
  clear hNN hgo hlow hAN hAA hA2' hXl hSl hBl hpY hsz hA1 hN1 hnil hS0 hB0
  refine range_own (Kp := Keeps3 (p + 1 + 1 + 1) N1 A1) rfl (by omega) (gf := 30) (lb := #[.pointer (some ⟨S0, 0, none⟩), .pointer (some ⟨B0, 0, none⟩)]) rfl trivial (enters_of Try.func30 (by kernel_rfl) rfl)
    hseq Keeps3.trans (fun V lv o o' h1 h2 => keeps3_b V lv o o' h1 h2) (fun _ => rfl)
    (fun (pre : List Ad) V => Goes l n k K Z pre ∧ Wh w p b R M X l n cap k (romF y) (fun _ => 0) r k y K Z R0 Y V ∧ Whole V (p + 1 + 1 + 1) 4 #[.bool false] ∧ Whole V N1 3 #[.int .i64 (pre.length : Nat)] ∧ Whole V A1 29 #[.int .u32 (lastA pre : Nat)] ∧ Whole V (p + 1 + 1) 3 #[.int .i64 st'])
    (fun cd (pre : List Ad) V => (cd = .ret ∧ ¬ Goes l n k K Z pre) ∨ (cd = .exit 0 ∧ 0 < pre.length ∧ pre.length ≤ 16777218 ∧ Wh w p b R M X l n cap k (romF y) (fun _ => 0) r k y K Z R0 Y V ∧ Whole V (p + 1 + 1 + 1) 4 #[.bool false] ∧ Whole V N1 3 #[.int .i64 (pre.length : Nat)]))
    (fun s A B row hs hg hr => ⟨hs.1, hs.2.1.grown hg hr (by have := HB.out; omega), whole_grown hs.2.2.1 hg (fun r e => (hr r e).2), whole_grown hs.2.2.2.1 hg (fun r e => (hr r e).2), whole_grown hs.2.2.2.2.1 hg (fun r e => (hr r e).2), whole_grown hs.2.2.2.2.2 hg (fun r e => (hr r e).2)⟩)
    (fun cd s A B row hs hg hr => hs.imp id (fun h => ⟨h.1, h.2.1, h.2.2.1, h.2.2.2.1.grown hg hr (by have := HB.out; omega), whole_grown h.2.2.2.2.1 hg (fun r e => (hr r e).2), whole_grown h.2.2.2.2.2 hg (fun r e => (hr r e).2)⟩))
    ⟨⟨List.Pairwise.nil, fun x hx => by cases hx⟩, hW4, hX4, hN, hAt, hT4⟩
    (fun (x : Ad) => { tmps := #[Value.agg #[Value.int IntKind.u8 ↑l, Value.int IntKind.i64 r, Value.int IntKind.i64 ↑k, Value.int IntKind.u8 ↑y], Value.agg #[Value.int IntKind.u8 ↑K, Value.int IntKind.i64 Z], Value.int IntKind.i64 st, Value.pointer (some { block := p, off := 0 }), Value.pointer (some { block := p + 1, off := 0 }), Value.pointer (some { block := p + 1 + 1, off := 0 }), Value.pointer (some { block := p + 1 + 1 + 1, off := 0 }), Value.pointer (some { block := b, off := 0 }), Value.pointer (some { block := Y, off := 0 }), Value.bool true, Value.func (Fn.func 30) #[] #[Value.pointer (some { block := S0, off := 0 }), Value.pointer (some { block := B0, off := 0 })], Value.pointer (some { block := N1, off := 0 }), Value.pointer (some { block := A1, off := 0 }), Value.int IntKind.u32 (x.1 : Nat), u14, u15, u16, u17, u18, u19, u20, u21, u22, u23, u24, u25, u26, u27, u28, u29, u30, u31, u32, Value.pointer (some { block := b, off := 0 }), Value.agg #[Value.int IntKind.u8 ↑K, Value.int IntKind.i64 Z], Value.func (Fn.func 30) #[] #[Value.pointer (some { block := S0, off := 0 }), Value.pointer (some { block := B0, off := 0 })], Value.func (Fn.func 30) #[] #[Value.pointer (some { block := S0, off := 0 }), Value.pointer (some { block := B0, off := 0 })], Value.bool false, Value.func (Fn.func 30) #[] #[Value.pointer (some { block := S0, off := 0 }), Value.pointer (some { block := B0, off := 0 })], Value.int IntKind.u32 (x.1 : Nat), u40, u41, u42, u43, u44, u45, u46, u47, u48, u49, u50, u51, u52, u53, u54, u55, u56, u57, u58, u59, u60, u61, u62, u63, u64, u65, u66, u67, u68, u69, u70, u71, u72, u73, u74, u75, u76, u77, u78, u79, u80, u81, u82, u83, u84, u85, u86, u87, u88, u89, u90, u91, u92, u93, u94, u95], defers := [] }) ?assign ?body ?done ?stop
  case assign =>
    intro li x V Kc hK
    gi_wp2
    exact hK
  case body =>
    rintro li pre x V ⟨hpg, hV, hVX, hVN, hVA, hVT⟩ hlen
    clear hseq hW4 hX4 hN hAt hT4
    have hlen2 : pre.length ≤ 16777217 := by have := HN.out; omega
    have c1 := cell_regrown (show V.cell? ⟨p + 1, 0, none⟩ = some (.int .u8 K) from hV.spt.cell 0)
    have c2 := cell_regrown (show V.cell? ⟨p + 1, 1, none⟩ = some (.int .i64 Z) from hV.spt.cell 1)
    have c3 := cell_regrown (show V.cell? ⟨Y, 0, none⟩ = some (.slice (some ⟨R0, 0, none⟩) n n) from hV.rom.cell 0)
    have c4 := cell_regrown (show V.cell? ⟨p, 0, none⟩ = some (.int .u8 l) from hV.plan.cell 0)
    have c5 := cell_regrown (show V.cell? ⟨p, 2, none⟩ = some (.int .i64 k) from hV.plan.cell 2)
    have c6 := cell_regrown (show V.cell? ⟨N1, 0, none⟩ = some (.int .i64 (pre.length : Nat)) from hVN.cell 0)
    have c7 := cell_regrown (show V.cell? ⟨A1, 0, none⟩ = some (.int .u32 (lastA pre : Nat)) from hVA.cell 0)
    have hx24 := Lib.hid x.2
    have g1 : decide ((x.1 : Int) ≥ 16777216) = false := decide_eq_false (by have := x.2; omega)
    have HRx := Lib.hid (HR.out x.1 (by have := x.2; omega))
    clear HR
    generalize hsp : spot l n k x.1 = sp at *
    obtain ⟨K', A'⟩ := sp
    dsimp only at HRx
    generalize hxv : x.1 = xv at *
    have hbad : ¬ (0 < pre.length → lastA pre < xv) ∨ ¬ (K' = K ∧ (A' : Int) = Z) → ¬ Goes l n k K Z (pre ++ [x]) := by
      intro h1 h2
      have h3 := h2.last
      rw [hxv, hsp] at h3
      rcases h1 with h1 | h1
      · exact h1 h3.1
      · exact h1 h3.2
    have hgood : (0 < pre.length → lastA pre < xv) → (K' = K ∧ (A' : Int) = Z) → Goes l n k K Z (pre ++ [x]) := by
      intro h1 h2
      exact hpg.append (by rw [hxv]; exact h1) (by rw [hxv, hsp]; exact h2)
    have hla := lastA_append pre x
    rw [hxv] at hla
    replace hbad := Lib.hid hbad
    replace hgood := Lib.hid hgood
    replace hla := Lib.hid hla
    replace hV := Lib.hid hV
    replace hVX := Lib.hid hVX
    replace hVN := Lib.hid hVN
    replace hVA := Lib.hid hVA
    replace hVT := Lib.hid hVT
    clear hpg hsp hxv
    gi_upto_region 13 with (fail)
    refine wpIn_region_below_round (by kernel_rfl) (by kernel_rfl) (by kernel_rfl) ?_
    dsimp only
    generalize hpl : pre.length = pl at *
    generalize hlp : lastA pre = la at *
    by_cases h0 : 0 < pl
    · have t2 : decide (0 < pl) = true := decide_eq_true h0
      by_cases h1 : la < xv
      · have t1 : decide (xv ≤ la) = false := decide_eq_false (by omega)
        by_cases hk : K' = K
        · subst hk
          by_cases hz : (A' : Int) = Z
          · subst hz
            repeat (go_big_quiet_step (first
              | (go_at_call 12; first | (with_reducible exact Calls.regrown_of (HRx.out _)))))
            refine wpQuiet_nil ?_
            intro _ hw'
            obtain ⟨⟨dq, osq⟩, hw''⟩ := hw'
            subst hw''
            have hbl := below_regrown V dq osq
            have hVX2 := hVX.out.below hbl hVX.out.lt
            clear c1 c2 c3 c4 c5 c6 c7 HRx
            generalize Go.«Sort».grow (redrawn V dq) osq = V1 at *
            have hG := hgood.out (fun _ => h1) ⟨rfl, rfl⟩
            have hVN2 := hVN.out.below hbl hVN.out.lt
            have hVA2 := hVA.out.below hbl hVA.out.lt
            have hVT2 := hVT.out.below hbl hVT.out.lt
            have hV2 := hV.out.below hbl
            have hHB := HB.out
            have hVNa := hVN2.away (p := ⟨A1, 0, none⟩) (by simp; omega) (.int .u32 (xv : Nat))
            have hVTa := hVT2.away (p := ⟨A1, 0, none⟩) (by simp; omega) (.int .u32 (xv : Nat))
            have hVXa := hVX2.away (p := ⟨A1, 0, none⟩) (by simp; omega) (.int .u32 (xv : Nat))
            have hVAa := hVA2.put 0 (.int .u32 (xv : Nat))
            have hVa := hV2.set hHB.2.1 0 (.int .u32 (xv : Nat))
            have ca := hVA2.cell 0
            have fa := hVA2.free 0
            have cn := hVNa.cell 0
            have fn := hVNa.free 0
            have hVNb := hVNa.put 0 (.int .i64 ((pl + 1 : Nat) : Int))
            have hVTb := hVTa.away (p := ⟨N1, 0, none⟩) (by simp; omega) (.int .i64 ((pl + 1 : Nat) : Int))
            have hVXb := hVXa.away (p := ⟨N1, 0, none⟩) (by simp; omega) (.int .i64 ((pl + 1 : Nat) : Int))
            have hVAb := hVAa.away (p := ⟨N1, 0, none⟩) (by simp; omega) (.int .i64 ((pl + 1 : Nat) : Int))
            have hVb := hVa.set hHB.1 0 (.int .i64 ((pl + 1 : Nat) : Int))
            have ko := ((others_below hbl).trans (KeepsOthers.setCell V1 ⟨A1, 0, none⟩ (.int .u32 (xv : Nat)))).trans (KeepsOthers.setCell _ ⟨N1, 0, none⟩ (.int .i64 ((pl + 1 : Nat) : Int)))
            have k3 := ((Keeps3.below (x := p + 1 + 1 + 1) (y := N1) (z := A1) hbl).trans (keeps3_set V1 0 (.int .u32 (xv : Nat)) (.inr (.inr rfl)))).trans (keeps3_set _ 0 (.int .i64 ((pl + 1 : Nat) : Int)) (.inr (.inl rfl)))
            have cn2 := hVNb.cell 0
            have ct2 := hVTb.cell 0
            simp only [List.getElem?_toArray, List.getElem?_cons_zero, List.setIfInBounds_toArray, List.set_cons_zero] at ca cn cn2 ct2 hVAa hVNb hVAb
            have hlen4 : (pre ++ [x]).length = pl + 1 := by rw [List.length_append, hpl]; rfl
            replace hVb := Lib.hid hVb
            replace hlen4 := Lib.hid hlen4
            replace hG := Lib.hid hG
            replace hHB := Lib.hid hHB
            clear hVN2 hVA2 hVT2 hV2 hVNa hVTa hVXa hVAa hVa hVX2 hbl hHB
            rw [Int.natCast_add, Int.natCast_one] at cn2 ct2 hVNb hVTb hVXb hVAb ko k3
            by_cases hst : (pl : Int) + 1 = st'
            · subst hst
              gi_wp2_with fail
              exact ⟨ko, .inr ⟨rfl, by rw [hlen4.out]; omega, by rw [hlen4.out]; omega, by have := hVb.out; rw [Int.natCast_add, Int.natCast_one] at this; exact this, hVXb, by rw [hlen4.out, Int.natCast_add, Int.natCast_one]; exact hVNb⟩⟩
            · have hst2 : ((pl : Int) + 1 == st') = false := by rw [beq_eq_false_iff_ne]; exact hst
              gi_wp2_with fail
              exact ⟨ko, k3, hG.out, by have := hVb.out; rw [Int.natCast_add, Int.natCast_one] at this; exact this, hVXb, by rw [hlen4.out, Int.natCast_add, Int.natCast_one]; exact hVNb, by rw [hla.out]; exact hVAb, hVTb⟩
          · 
            repeat (go_big_quiet_step (first
              | (go_at_call 12; first | (with_reducible exact Calls.regrown_of (HRx.out _)))))
            refine wpQuiet_nil ?_
            intro _ hw'
            obtain ⟨⟨dq, osq⟩, hw''⟩ := hw'
            subst hw''
            have hbl := below_regrown V dq osq
            have hVX2 := hVX.out.below hbl hVX.out.lt
            clear c1 c2 c3 c4 c5 c6 c7 HRx
            generalize Go.«Sort».grow (redrawn V dq) osq = V1 at *
            have cx := hVX2.cell 0
            have fx := hVX2.free 0
            simp only [List.getElem?_toArray, List.getElem?_cons_zero] at cx
            clear hVX2
            gi_wp2_with fail
            exact ⟨(others_below hbl).trans (KeepsOthers.setCell _ _ _), .inl ⟨rfl, hbad.out (.inr (fun h => hz h.2))⟩⟩
        · have hk2 : ¬ (K' : Int) = (K : Int) := by omega
          repeat (go_big_quiet_step (first
            | (go_at_call 12; first | (with_reducible exact Calls.regrown_of (HRx.out _)))))
          refine wpQuiet_nil ?_
          intro _ hw'
          obtain ⟨⟨dq, osq⟩, hw''⟩ := hw'
          subst hw''
          have hbl := below_regrown V dq osq
          have hVX2 := hVX.out.below hbl hVX.out.lt
          clear c1 c2 c3 c4 c5 c6 c7 HRx
          generalize Go.«Sort».grow (redrawn V dq) osq = V1 at *
          have cx := hVX2.cell 0
          have fx := hVX2.free 0
          simp only [List.getElem?_toArray, List.getElem?_cons_zero] at cx
          clear hVX2
          gi_wp2_with fail
          exact ⟨(others_below hbl).trans (KeepsOthers.setCell _ _ _), .inl ⟨rfl, hbad.out (.inr (fun h => hk h.1))⟩⟩
      · have t1 : decide (xv ≤ la) = true := decide_eq_true (by omega)
        repeat (go_big_quiet_step (first
          | (go_at_call 12; first | (with_reducible exact Calls.regrown_of (HRx.out _)))))
        refine wpQuiet_nil ?_
        intro _ hw'
        obtain ⟨⟨dq, osq⟩, hw''⟩ := hw'
        subst hw''
        have hbl := below_regrown V dq osq
        have hVX2 := hVX.out.below hbl hVX.out.lt
        clear c1 c2 c3 c4 c5 c6 c7 HRx
        generalize Go.«Sort».grow (redrawn V dq) osq = V1 at *
        have cx := hVX2.cell 0
        have fx := hVX2.free 0
        simp only [List.getElem?_toArray, List.getElem?_cons_zero] at cx
        clear hVX2
        gi_wp2_with fail
        exact ⟨(others_below hbl).trans (KeepsOthers.setCell _ _ _), .inl ⟨rfl, hbad.out (.inl (fun h => h1 (h h0)))⟩⟩
    · have t2 : decide (0 < pl) = false := decide_eq_false h0
      by_cases hk : K' = K
      · subst hk
        by_cases hz : (A' : Int) = Z
        · subst hz
          repeat (go_big_quiet_step (first
            | (go_at_call 12; first | (with_reducible exact Calls.regrown_of (HRx.out _)))))
          refine wpQuiet_nil ?_
          intro _ hw'
          obtain ⟨⟨dq, osq⟩, hw''⟩ := hw'
          subst hw''
          have hbl := below_regrown V dq osq
          have hVX2 := hVX.out.below hbl hVX.out.lt
          clear c1 c2 c3 c4 c5 c6 c7 HRx
          generalize Go.«Sort».grow (redrawn V dq) osq = V1 at *
          have hG := hgood.out (fun h => absurd h h0) ⟨rfl, rfl⟩
          have hVN2 := hVN.out.below hbl hVN.out.lt
          have hVA2 := hVA.out.below hbl hVA.out.lt
          have hVT2 := hVT.out.below hbl hVT.out.lt
          have hV2 := hV.out.below hbl
          have hHB := HB.out
          have hVNa := hVN2.away (p := ⟨A1, 0, none⟩) (by simp; omega) (.int .u32 (xv : Nat))
          have hVTa := hVT2.away (p := ⟨A1, 0, none⟩) (by simp; omega) (.int .u32 (xv : Nat))
          have hVXa := hVX2.away (p := ⟨A1, 0, none⟩) (by simp; omega) (.int .u32 (xv : Nat))
          have hVAa := hVA2.put 0 (.int .u32 (xv : Nat))
          have hVa := hV2.set hHB.2.1 0 (.int .u32 (xv : Nat))
          have ca := hVA2.cell 0
          have fa := hVA2.free 0
          have cn := hVNa.cell 0
          have fn := hVNa.free 0
          have hVNb := hVNa.put 0 (.int .i64 ((pl + 1 : Nat) : Int))
          have hVTb := hVTa.away (p := ⟨N1, 0, none⟩) (by simp; omega) (.int .i64 ((pl + 1 : Nat) : Int))
          have hVXb := hVXa.away (p := ⟨N1, 0, none⟩) (by simp; omega) (.int .i64 ((pl + 1 : Nat) : Int))
          have hVAb := hVAa.away (p := ⟨N1, 0, none⟩) (by simp; omega) (.int .i64 ((pl + 1 : Nat) : Int))
          have hVb := hVa.set hHB.1 0 (.int .i64 ((pl + 1 : Nat) : Int))
          have ko := ((others_below hbl).trans (KeepsOthers.setCell V1 ⟨A1, 0, none⟩ (.int .u32 (xv : Nat)))).trans (KeepsOthers.setCell _ ⟨N1, 0, none⟩ (.int .i64 ((pl + 1 : Nat) : Int)))
          have k3 := ((Keeps3.below (x := p + 1 + 1 + 1) (y := N1) (z := A1) hbl).trans (keeps3_set V1 0 (.int .u32 (xv : Nat)) (.inr (.inr rfl)))).trans (keeps3_set _ 0 (.int .i64 ((pl + 1 : Nat) : Int)) (.inr (.inl rfl)))
          have cn2 := hVNb.cell 0
          have ct2 := hVTb.cell 0
          simp only [List.getElem?_toArray, List.getElem?_cons_zero, List.setIfInBounds_toArray, List.set_cons_zero] at ca cn cn2 ct2 hVAa hVNb hVAb
          have hlen4 : (pre ++ [x]).length = pl + 1 := by rw [List.length_append, hpl]; rfl
          replace hVb := Lib.hid hVb
          replace hlen4 := Lib.hid hlen4
          replace hG := Lib.hid hG
          replace hHB := Lib.hid hHB
          clear hVN2 hVA2 hVT2 hV2 hVNa hVTa hVXa hVAa hVa hVX2 hbl hHB
          rw [Int.natCast_add, Int.natCast_one] at cn2 ct2 hVNb hVTb hVXb hVAb ko k3
          by_cases hst : (pl : Int) + 1 = st'
          · subst hst
            gi_wp2_with fail
            exact ⟨ko, .inr ⟨rfl, by rw [hlen4.out]; omega, by rw [hlen4.out]; omega, by have := hVb.out; rw [Int.natCast_add, Int.natCast_one] at this; exact this, hVXb, by rw [hlen4.out, Int.natCast_add, Int.natCast_one]; exact hVNb⟩⟩
          · have hst2 : ((pl : Int) + 1 == st') = false := by rw [beq_eq_false_iff_ne]; exact hst
            gi_wp2_with fail
            exact ⟨ko, k3, hG.out, by have := hVb.out; rw [Int.natCast_add, Int.natCast_one] at this; exact this, hVXb, by rw [hlen4.out, Int.natCast_add, Int.natCast_one]; exact hVNb, by rw [hla.out]; exact hVAb, hVTb⟩
        · 
          repeat (go_big_quiet_step (first
            | (go_at_call 12; first | (with_reducible exact Calls.regrown_of (HRx.out _)))))
          refine wpQuiet_nil ?_
          intro _ hw'
          obtain ⟨⟨dq, osq⟩, hw''⟩ := hw'
          subst hw''
          have hbl := below_regrown V dq osq
          have hVX2 := hVX.out.below hbl hVX.out.lt
          clear c1 c2 c3 c4 c5 c6 c7 HRx
          generalize Go.«Sort».grow (redrawn V dq) osq = V1 at *
          have cx := hVX2.cell 0
          have fx := hVX2.free 0
          simp only [List.getElem?_toArray, List.getElem?_cons_zero] at cx
          clear hVX2
          gi_wp2_with fail
          exact ⟨(others_below hbl).trans (KeepsOthers.setCell _ _ _), .inl ⟨rfl, hbad.out (.inr (fun h => hz h.2))⟩⟩
      · have hk2 : ¬ (K' : Int) = (K : Int) := by omega
        repeat (go_big_quiet_step (first
          | (go_at_call 12; first | (with_reducible exact Calls.regrown_of (HRx.out _)))))
        refine wpQuiet_nil ?_
        intro _ hw'
        obtain ⟨⟨dq, osq⟩, hw''⟩ := hw'
        subst hw''
        have hbl := below_regrown V dq osq
        have hVX2 := hVX.out.below hbl hVX.out.lt
        clear c1 c2 c3 c4 c5 c6 c7 HRx
        generalize Go.«Sort».grow (redrawn V dq) osq = V1 at *
        have cx := hVX2.cell 0
        have fx := hVX2.free 0
        simp only [List.getElem?_toArray, List.getElem?_cons_zero] at cx
        clear hVX2
        gi_wp2_with fail
        exact ⟨(others_below hbl).trans (KeepsOthers.setCell _ _ _), .inl ⟨rfl, hbad.out (.inr (fun h => hk h.1))⟩⟩
  case done =>
    rintro D xs V hD hxs ⟨hpg, hV, hVX, hVN, hVA, hVT⟩ hK
    replace hxs : xs = L := hxs
    subst hxs
    have hnn := HL.out
    clear hseq hW4 hX4 hN hAt hT4 hpg hVA hVT HR HL HG
    generalize xs.length = nn at *
    have hways : (¬ K = 1) ∨ (K = 1 ∧ ¬ 0 ≤ Z) ∨ (K = 1 ∧ 0 ≤ Z ∧ ¬ Z < (n : Int)) ∨ (K = 1 ∧ 0 ≤ Z ∧ Z < (n : Int) ∧ ¬ Z < 32768) ∨ (K = 1 ∧ 0 ≤ Z ∧ Z < (n : Int) ∧ Z < 32768 ∧ ¬ l = 1) ∨ (K = 1 ∧ 0 ≤ Z ∧ Z < (n : Int) ∧ Z < 32768 ∧ l = 1 ∧ 0 < nn) := by
      by_cases q : l = 1 ∧ K = 1 ∧ 0 ≤ Z ∧ Z < (n : Int) ∧ Z < 32768
      · have := hnn q
        omega
      · omega
    clear hnn
    have c1 := hV.spt.cell 0
    have c2 := hV.spt.cell 1
    have c3 := hV.rom.cell 0
    have c4 := hV.plan.cell 0
    have c5 := hVN.cell 0
    have cx := hVX.cell 0
    have fx := hVX.free 0
    simp only [List.getElem?_toArray, List.getElem?_cons_zero, List.getElem?_cons_succ] at c1 c2 c3 c4 c5 cx
    have hDx : D ≠ p + 1 + 1 + 1 := by have := HB.out; omega
    have hK2 : (V.setCell ⟨p + 1 + 1 + 1, 0, none⟩ (.bool true)).heap[D]? = some (.deferred (some [])) := (Below.heap_setCell _ _ _ _ hDx).trans hK
    have hB5 := hV.bel.setCell (p := ⟨p + 1 + 1 + 1, 0, none⟩) (by simp; omega) (.bool true)
    have hx5 := (hVX.put 0 (.bool true)).cell 0
    simp only [List.getElem?_toArray, List.getElem?_cons_zero, List.setIfInBounds_toArray, List.set_cons_zero] at hx5
    have hx6 := cell_kept hx5 (grownBy_putObj' _ D (.deferred none)) (fun r e => by cases e; exact ⟨_, hK2, rfl⟩)
    have hB6 := hB5.grown (grownBy_putObj' (V.setCell ⟨p + 1 + 1 + 1, 0, none⟩ (.bool true)) D (.deferred none)) (by have := hB5.size; rw [hp] at this; exact this) (fun r e => by cases e; have := HB.out; omega)
    replace hK2 := Lib.hid hK2
    replace hB6 := Lib.hid hB6
    replace hx6 := Lib.hid hx6
    replace hp := Lib.hid hp
    clear hK hB5 hx5 hDx hV hVX hVN hD
    rcases hways with ⟨k1⟩ | ⟨rfl, k2⟩ | ⟨rfl, k2, k3⟩ | ⟨rfl, k2, k3, k4⟩ | ⟨rfl, k2, k3, k4, k5⟩ | ⟨rfl, k2, k3, k4, rfl, k6⟩
    · have t1 : ((K : Int) == 1) = false := by rw [beq_eq_false_iff_ne]; omega
      clear k1
      gi_wp2_with fail
      exact ⟨by simp, .inl ⟨_, _, rfl, run_takeDeferred hK2.out, ⟨.bool true, by simp [results, Try.f5, go_sem, hx6.out], rfl, by rw [hp.out]; exact hB6.out⟩⟩⟩
    · have t2 : decide (0 ≤ Z) = false := decide_eq_false (by omega)
      replace k2 := Lib.hid k2
      gi_wp2_with fail
      exact ⟨by simp, .inl ⟨_, _, rfl, run_takeDeferred hK2.out, ⟨.bool true, by simp [results, Try.f5, go_sem, hx6.out], rfl, by rw [hp.out]; exact hB6.out⟩⟩⟩
    · have t2 : decide (0 ≤ Z) = true := decide_eq_true k2
      have t3 : decide (Z < (n : Int)) = false := decide_eq_false k3
      replace k2 := Lib.hid k2
      replace k3 := Lib.hid k3
      gi_wp2_with fail
      exact ⟨by simp, .inl ⟨_, _, rfl, run_takeDeferred hK2.out, ⟨.bool true, by simp [results, Try.f5, go_sem, hx6.out], rfl, by rw [hp.out]; exact hB6.out⟩⟩⟩
    · have t2 : decide (0 ≤ Z) = true := decide_eq_true k2
      have t3 : decide (Z < (n : Int)) = true := decide_eq_true k3
      have t4 : decide (Z < 32768) = false := decide_eq_false k4
      replace k2 := Lib.hid k2
      replace k3 := Lib.hid k3
      replace k4 := Lib.hid k4
      gi_wp2_with fail
      exact ⟨by simp, .inl ⟨_, _, rfl, run_takeDeferred hK2.out, ⟨.bool true, by simp [results, Try.f5, go_sem, hx6.out], rfl, by rw [hp.out]; exact hB6.out⟩⟩⟩
    · have t2 : decide (0 ≤ Z) = true := decide_eq_true k2
      have t3 : decide (Z < (n : Int)) = true := decide_eq_true k3
      have t4 : decide (Z < 32768) = true := decide_eq_true k4
      have t5 : ((l : Int) == 1) = false := by rw [beq_eq_false_iff_ne]; omega
      replace k2 := Lib.hid k2
      replace k3 := Lib.hid k3
      replace k4 := Lib.hid k4
      clear k5
      gi_wp2_with fail
      exact ⟨by simp, .inl ⟨_, _, rfl, run_takeDeferred hK2.out, ⟨.bool true, by simp [results, Try.f5, go_sem, hx6.out], rfl, by rw [hp.out]; exact hB6.out⟩⟩⟩
    · have t2 : decide (0 ≤ Z) = true := decide_eq_true k2
      have t3 : decide (Z < (n : Int)) = true := decide_eq_true k3
      have t4 : decide (Z < 32768) = true := decide_eq_true k4
      have k7 : (0 : Int) < (nn : Int) := by omega
      replace k2 := Lib.hid k2
      replace k3 := Lib.hid k3
      replace k4 := Lib.hid k4
      gi_wp2_with fail
      exact ⟨by simp, .inl ⟨_, _, rfl, run_takeDeferred hK2.out, ⟨.bool true, by simp [results, Try.f5, go_sem, hx6.out], rfl, by rw [hp.out]; exact hB6.out⟩⟩⟩
  case stop =>
    rintro D cd pre V hD hp2 hs hK
    replace hp2 : pre <+: L := hp2
    clear hseq hW4 hX4 hN hAt hT4
    rcases hs with ⟨rfl, hs⟩ | ⟨rfl, hl, hl2, hV, hVX, hVN⟩
    · exact absurd (HG.out.prefix hp2) hs
    have hnn : (l = 1 ∧ K = 1 ∧ 0 ≤ Z ∧ Z < (n : Int) ∧ Z < 32768) → 0 < pre.length := fun _ => hl
    clear HR HL HG hl hl2 hp2
    generalize pre.length = nn at *
    have hways : (¬ K = 1) ∨ (K = 1 ∧ ¬ 0 ≤ Z) ∨ (K = 1 ∧ 0 ≤ Z ∧ ¬ Z < (n : Int)) ∨ (K = 1 ∧ 0 ≤ Z ∧ Z < (n : Int) ∧ ¬ Z < 32768) ∨ (K = 1 ∧ 0 ≤ Z ∧ Z < (n : Int) ∧ Z < 32768 ∧ ¬ l = 1) ∨ (K = 1 ∧ 0 ≤ Z ∧ Z < (n : Int) ∧ Z < 32768 ∧ l = 1 ∧ 0 < nn) := by
      by_cases q : l = 1 ∧ K = 1 ∧ 0 ≤ Z ∧ Z < (n : Int) ∧ Z < 32768
      · have := hnn q
        omega
      · omega
    clear hnn
    have c1 := hV.spt.cell 0
    have c2 := hV.spt.cell 1
    have c3 := hV.rom.cell 0
    have c4 := hV.plan.cell 0
    have c5 := hVN.cell 0
    have cx := hVX.cell 0
    have fx := hVX.free 0
    simp only [List.getElem?_toArray, List.getElem?_cons_zero, List.getElem?_cons_succ] at c1 c2 c3 c4 c5 cx
    have hDx : D ≠ p + 1 + 1 + 1 := by have := HB.out; omega
    have hK2 : (V.setCell ⟨p + 1 + 1 + 1, 0, none⟩ (.bool true)).heap[D]? = some (.deferred (some [])) := (Below.heap_setCell _ _ _ _ hDx).trans hK
    have hB5 := hV.bel.setCell (p := ⟨p + 1 + 1 + 1, 0, none⟩) (by simp; omega) (.bool true)
    have hx5 := (hVX.put 0 (.bool true)).cell 0
    simp only [List.getElem?_toArray, List.getElem?_cons_zero, List.setIfInBounds_toArray, List.set_cons_zero] at hx5
    have hx6 := cell_kept hx5 (grownBy_putObj' _ D (.deferred none)) (fun r e => by cases e; exact ⟨_, hK2, rfl⟩)
    have hB6 := hB5.grown (grownBy_putObj' (V.setCell ⟨p + 1 + 1 + 1, 0, none⟩ (.bool true)) D (.deferred none)) (by have := hB5.size; rw [hp] at this; exact this) (fun r e => by cases e; have := HB.out; omega)
    replace hK2 := Lib.hid hK2
    replace hB6 := Lib.hid hB6
    replace hx6 := Lib.hid hx6
    replace hp := Lib.hid hp
    clear hK hB5 hx5 hDx hV hVX hVN hD
    rcases hways with ⟨k1⟩ | ⟨rfl, k2⟩ | ⟨rfl, k2, k3⟩ | ⟨rfl, k2, k3, k4⟩ | ⟨rfl, k2, k3, k4, k5⟩ | ⟨rfl, k2, k3, k4, rfl, k6⟩
    · have t1 : ((K : Int) == 1) = false := by rw [beq_eq_false_iff_ne]; omega
      clear k1
      gi_wp2_with fail
      exact ⟨by simp, .inl ⟨_, _, rfl, run_takeDeferred hK2.out, ⟨.bool true, by simp [results, Try.f5, go_sem, hx6.out], rfl, by rw [hp.out]; exact hB6.out⟩⟩⟩
    · have t2 : decide (0 ≤ Z) = false := decide_eq_false (by omega)
      replace k2 := Lib.hid k2
      gi_wp2_with fail
      exact ⟨by simp, .inl ⟨_, _, rfl, run_takeDeferred hK2.out, ⟨.bool true, by simp [results, Try.f5, go_sem, hx6.out], rfl, by rw [hp.out]; exact hB6.out⟩⟩⟩
    · have t2 : decide (0 ≤ Z) = true := decide_eq_true k2
      have t3 : decide (Z < (n : Int)) = false := decide_eq_false k3
      replace k2 := Lib.hid k2
      replace k3 := Lib.hid k3
      gi_wp2_with fail
      exact ⟨by simp, .inl ⟨_, _, rfl, run_takeDeferred hK2.out, ⟨.bool true, by simp [results, Try.f5, go_sem, hx6.out], rfl, by rw [hp.out]; exact hB6.out⟩⟩⟩
    · have t2 : decide (0 ≤ Z) = true := decide_eq_true k2
      have t3 : decide (Z < (n : Int)) = true := decide_eq_true k3
      have t4 : decide (Z < 32768) = false := decide_eq_false k4
      replace k2 := Lib.hid k2
      replace k3 := Lib.hid k3
      replace k4 := Lib.hid k4
      gi_wp2_with fail
      exact ⟨by simp, .inl ⟨_, _, rfl, run_takeDeferred hK2.out, ⟨.bool true, by simp [results, Try.f5, go_sem, hx6.out], rfl, by rw [hp.out]; exact hB6.out⟩⟩⟩
    · have t2 : decide (0 ≤ Z) = true := decide_eq_true k2
      have t3 : decide (Z < (n : Int)) = true := decide_eq_true k3
      have t4 : decide (Z < 32768) = true := decide_eq_true k4
      have t5 : ((l : Int) == 1) = false := by rw [beq_eq_false_iff_ne]; omega
      replace k2 := Lib.hid k2
      replace k3 := Lib.hid k3
      replace k4 := Lib.hid k4
      clear k5
      gi_wp2_with fail
      exact ⟨by simp, .inl ⟨_, _, rfl, run_takeDeferred hK2.out, ⟨.bool true, by simp [results, Try.f5, go_sem, hx6.out], rfl, by rw [hp.out]; exact hB6.out⟩⟩⟩
    · have t2 : decide (0 ≤ Z) = true := decide_eq_true k2
      have t3 : decide (Z < (n : Int)) = true := decide_eq_true k3
      have t4 : decide (Z < 32768) = true := decide_eq_true k4
      have k7 : (0 : Int) < (nn : Int) := by omega
      replace k2 := Lib.hid k2
      replace k3 := Lib.hid k3
      replace k4 := Lib.hid k4
      gi_wp2_with fail
      exact ⟨by simp, .inl ⟨_, _, rfl, run_takeDeferred hK2.out, ⟨.bool true, by simp [results, Try.f5, go_sem, hx6.out], rfl, by rw [hp.out]; exact hB6.out⟩⟩⟩
end boardWheres
end Go.Proofs.Ythhahhmdpjchkaa
