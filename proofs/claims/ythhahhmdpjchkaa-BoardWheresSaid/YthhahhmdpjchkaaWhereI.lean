/-
  Where's iterator.
-/
import Derived.Test.YthhahhmdpjchkaaWhereK
import Derived.DefersIn
import Derived.BigQuiet
namespace Go.Proofs.Ythhahhmdpjchkaa
open Go.RowKit Go.Shelf
attribute [local go_sem] Oper.semAt_some
set_option maxRecDepth 100000
set_option maxHeartbeats 2000000

theorem keeps3_grown {x y z : Nat} {V V' : World} {row : Option Nat} (g : V.grownBy V' row) (hr : ∀ r, row = some r → ∃ o : Obj, V.heap[r]? = some o ∧ o.isCells = false) : Keeps3 x y z V V' :=
  ⟨g.size, fun k cs t f _ _ _ h => (g.block k (Array.getElem?_eq_some_iff.1 h).1 (fun e => by obtain ⟨o, ho, hc⟩ := hr k e.symm; rw [h] at ho; cases ho; cases hc)).trans h⟩
theorem hits_le (l n m K : Nat) (Z : Int) (xs : List Ad) : (hits l n m K Z xs).length ≤ xs.length := List.length_filter_le ..

theorem where_stops {b R M X l n cap m S0 B0 K x y z : Nat} {Z : Int} {f g : Nat → Nat} (w : World) (h : WhereAt b R M X l n cap m S0 B0 K Z x y z f g w) (hx : x < w.heap.size ∧ y < w.heap.size ∧ z < w.heap.size) (d : Nat) (hd : 5 ≤ d) :
    SeqO Fence.wide d 30 #[.pointer (some ⟨S0, 0, none⟩), .pointer (some ⟨B0, 0, none⟩)] (fun x : Ad => #[.int .u32 (x.1 : Nat)]) (Keeps3 x y z)
      (fun xs => xs = allHits l n m K Z) (fun pre => pre <+: allHits l n m K Z) ((upA (fun q => (spot l n m q).1) K 2048).length + 1) w := by
  intro lo J Jx W hW hJ hJx hY h0
  have hS := h.below hW
  have hxW := Lib.hid (show x < W.heap.size ∧ y < W.heap.size ∧ z < W.heap.size by have := hW.size; omega)
  generalize hLL : allHits l n m K Z = L at *
  have hL := Lib.hid hLL
  clear hLL
  replace hY := Lib.hid hY
  clear h hW hx
  have HBy := Lib.hid (fun V (hV : WhereAt b R M X l n cap m S0 B0 K Z x y z f g V) => bytes_any K V hV.brd)
  have hA := hS.below ((Below.refl W.heap.size W).alloc (Nat.le_refl _) (.cells #[.func (.yield lo) #[] #[]] 76))
  have hJ0 := hJ.alloc (.cells #[.func (.yield lo) #[] #[]] 76) h0
  have hbx := Whole.fresh W 76 #[.func (.yield lo) #[] #[]]
  have hB0 := (Below.refl W.heap.size W).alloc (Nat.le_refl _) (.cells #[.func (.yield lo) #[] #[]] 76)
  clear hS h0
  refine callsIn_of_wp_marks Try.func30 rfl trivial ?_ rfl
  simp only [Try.ntmps30, List.size_toArray, List.length_cons, List.length_nil, Nat.reduceAdd, Nat.reduceSub, Array.replicate_succ, Array.replicate_zero, List.push_toArray, List.append_toArray, List.nil_append, List.cons_append]
  gi_wp2_with fail
  generalize W.alloc (.cells #[.func (.yield lo) #[] #[]] 76) = W0 at *
  have HA := Lib.hid hA
  have HA' := Lib.hid (show WhereAt b R M X l n cap m S0 B0 K Z x y z f g W0.drew from hA.below ((Below.refl _ W0).drew))
  clear hA
  by_cases hz : Z < 0
  · have t1 : decide (Z < 0) = true := decide_eq_true hz
    have e0 : L = [] := hL.out ▸ if_neg (by omega)
    replace hz := Lib.hid hz
    refine wpIn_wide.2 ?_
    have kz := HA.out.hS.cell 1
    simp only [List.getElem?_toArray, List.getElem?_cons_zero, List.getElem?_cons_succ] at kz
    go_quiet (fail)
    gi_wp2_with fail
    subst e0
    show LeavesInM _ _ _ _ _ _ _ _ _
    simp only [LeavesInM]
    refine ⟨.tuple #[], results_none rfl _ _ _, ⟨_, rfl⟩, .inl ⟨[], rfl, hJ [] W0 _ none hJ0 (by exact ⟨rfl, rfl, rfl, Nat.le_refl _, fun _ _ _ => rfl⟩) (fun r e => by cases e)⟩⟩
  by_cases hl : Z < lenK n m K
  · have t1 : decide (Z < 0) = false := decide_eq_false hz
    have hv : (if K = 1 then Value.slice (some { block := R, off := 0 }) n cap else if K = 2 then Value.slice (some { block := M, off := 0 }) m m else Value.slice none 0 0) = .slice (if K = 1 then some { block := R, off := 0 } else if K = 2 then some { block := M, off := 0 } else none) (lenK n m K) (if K = 1 then cap else if K = 2 then m else 0) := by
      unfold lenK
      split
      · rfl
      · split <;> rfl
    rw [hv] at HBy
    clear hv
    have t2 : decide (Z ≥ (lenK n m K : Int)) = false := decide_eq_false (by omega)
    have e0 : L = hits l n m K Z (upA (fun q => (spot l n m q).1) K 2048) := hL.out ▸ if_pos ⟨by omega, hl⟩
    replace e0 := Lib.hid e0
    replace hl := Lib.hid hl
    replace hz := Lib.hid hz
    generalize (if K = 1 then some (⟨R, 0, none⟩ : Addr) else if K = 2 then some ⟨M, 0, none⟩ else none) = ba at *
    generalize (if K = 1 then cap else if K = 2 then m else 0) = bc at *
    generalize lenK n m K = bn at *
    refine wpIn_wide.2 ?_
    go_region_held3 (fun V => V.cell? ⟨S0, 0, none⟩ = some (.int .u8 K) ∧ V.cell? ⟨S0, 1, none⟩ = some (.int .i64 Z) ∧ V.cell? ⟨B0, 0, none⟩ = some (.pointer (some ⟨b, 0, none⟩)))
      (first | exact ⟨HA.out.hS.cell 0, HA.out.hS.cell 1, HA.out.hB.cell 0⟩ | go_keep)
      (first | (go_at_call 28; (with_reducible refine (HBy.out _ ?_).mono ?_); (first | exact HA'.out | exact HA.out); rintro e w1 ⟨rfl, rfl⟩))
    gi_wp2_with fail
    refine ⟨trivial, fun _ => by omega, (callsIn_wide.2 (allf_any _)).mono ?_⟩
    rintro e W1 ⟨B1, K1, rfl, hb1, hk1, hB1, hK1, hBw⟩
    gi_wp2_with fail
    have hBw' : Below W0.heap.size W0 W1 := ((Below.refl _ W0).drew).trans hBw
    have hb1' : W0.heap.size ≤ B1 := hb1
    have hk1' : W0.heap.size ≤ K1 := hk1
    have hs0 := hbx.lt
    have hq1 := HA.out.below hBw'
    have hx1 := hbx.below hBw' hs0
    have hJ1 : J [] W1 := hJ _ W0 W1 none hJ0 ⟨hBw'.os, hBw'.tape, hBw'.output, hBw'.size, fun k hk _ => hBw'.block k hk⟩ (fun r e => by cases e)
    have hsz := hBw'.size
    have hWs := hB0.size
    have hall : AllAt b R M X l n cap m B1 K1 K x y z f g W1 := ⟨hq1.brd, hB1, hK1, fun v hv => ⟨(hq1.ne v hv).1, (hq1.ne v hv).2.1, (hq1.ne v hv).2.2.1, (hq1.ne v hv).2.2.2.1, by have := hxW.out; omega, by have := hxW.out; omega⟩⟩
    have hnx : W.heap.size ≠ x ∧ W.heap.size ≠ y ∧ W.heap.size ≠ z := by have := hxW.out; omega
    clear hbx hJ0 hB0 HA HA' hBw hb1 hk1 hBw' HBy t1 t2
    have HALL := all_stops W1 hall (d - 1) (by omega)
    have HN := Lib.hid hnx
    have HW1 := Lib.hid (show W.heap.size < W1.heap.size by omega)
    clear hall hnx hb1' hk1' hs0 hWs hsz hB1 hK1
    generalize upA (fun q => (spot l n m q).1) K 2048 = U at *
    refine wpIn_rangeFunc_ownH (Kp := Keeps3 x y z) rfl (by omega) (gf := 34) (lb := #[.pointer (some ⟨B1, 0, none⟩), .pointer (some ⟨K1, 0, none⟩)]) rfl trivial (enters_of Try.func34 (by kernel_rfl) rfl)
      HALL Keeps3.trans (fun V lv o o' _ h1 h2 _ => keeps3_b V lv o o' h1 h2) (Below.refl _ _) (fun _ => rfl)
      (fun (pre : List Ad) V => J (hits l n m K Z pre) V ∧ WhereAt b R M X l n cap m S0 B0 K Z x y z f g V ∧ Whole V W.heap.size 76 #[.func (.yield lo) #[] #[]])
      (fun cd (pre : List Ad) V => cd = .ret ∧ Jx (hits l n m K Z pre) V)
      (fun s A B row hs hg hr => ⟨hJ _ A B row hs.1 hg (fun r e => ⟨by have := (hr r e).1; have := HW1.out; omega, (hr r e).2⟩), hs.2.1.keeps (keeps3_grown hg (fun r e => (hr r e).2)), hs.2.2.keeps (keeps3_grown hg (fun r e => (hr r e).2)) HN.out.1 HN.out.2.1 HN.out.2.2⟩)
      (fun cd s A B row hs hg hr => ⟨hs.1, hJx _ A B row hs.2 hg (fun r e => ⟨by have := (hr r e).1; have := HW1.out; omega, (hr r e).2⟩)⟩)
      ⟨hJ1, hq1, hx1⟩
      (fun (x' : Ad) a' V => ∃ B5, Whole V B5 33 #[.int .u8 ((spot l n m x'.1).1 : Nat), .int .i64 ((spot l n m x'.1).2 : Nat)] ∧ B5 ≠ x ∧ B5 ≠ y ∧ B5 ≠ z ∧ a' = { tmps := #[Value.func (Fn.yield lo) #[] #[], Value.pointer (some { block := S0, off := 0 }),
          Value.pointer (some { block := B0, off := 0 }), Value.pointer (some { block := W.heap.size, off := 0 }),
          Value.int .u32 (x'.1 : Nat), Value.pointer (some ⟨B5, 0, none⟩), Value.pointer (some { block := S0, off := 1 }), Value.int IntKind.i64 Z, Value.bool false,
          Value.bool false, Value.pointer (some { block := S0, off := 1 }), Value.int IntKind.i64 Z,
          Value.pointer (some { block := b, off := 0 }), Value.pointer (some { block := S0, off := 0 }),
          Value.int IntKind.u8 ↑K, Value.slice ba bn bc, Value.int IntKind.i64 ↑bn, Value.bool false, Value.bool false,
          Value.pointer (some { block := b, off := 0 }), Value.pointer (some { block := S0, off := 0 }),
          Value.int IntKind.u8 ↑K,
          Value.func (Fn.func 34) #[]
            #[Value.pointer (some { block := B1, off := 0 }), Value.pointer (some { block := K1, off := 0 })],
          Value.int .u32 (x'.1 : Nat), .agg #[.int .u8 ((spot l n m x'.1).1 : Nat), .int .i64 ((spot l n m x'.1).2 : Nat)], undef, undef, undef, undef, undef, undef, undef, undef, undef], defers := [] })
      (fun x' a' _ A B row hs hg hr => by
        obtain ⟨B5, h5, n1, n2, n3, e5⟩ := hs
        exact ⟨B5, h5.keeps (keeps3_grown hg (fun r e => (hr r e).2)) n1 n2 n3, n1, n2, n3, e5⟩)
      ?assign ?body ?done ?stop
    case assign =>
      rintro li pre x' V Kc ⟨hj, hq, hbv⟩ hK
      simp only [encA]
      clear HALL hJ1 hq1 hx1
      gi_wp2_with fail
      have hba := (Below.refl V.heap.size V).alloc (Nat.le_refl _) (.cells #[.int .u8 ((spot l n m x'.1).1 : Nat), .int .i64 ((spot l n m x'.1).2 : Nat)] 33)
      have hlt := hbv.lt
      have hxv := hxW.out
      exact hK _ _ ⟨hba.size, fun k o _ hk _ => (hba.block k (Array.getElem?_eq_some_iff.1 hk).1).trans hk⟩ (Keeps3.below hba) ⟨hJ.alloc _ hj, hq.below hba, hbv.below hba hlt⟩ ⟨V.heap.size, Whole.fresh V 33 _, by omega, by omega, by omega, rfl⟩
    case body =>
      rintro li pre x' a' V hli hlr ⟨hj, hq, hbv⟩ ⟨B5, h5, n1, n2, n3, rfl⟩ hlen
      clear HALL hJ1 hq1 hx1
      have hk50 := h5.cell 0
      have hk51 := h5.cell 1
      have hks0 := hq.hS.cell 0
      have hks1 := hq.hS.cell 1
      have hkb := hbv.cell 0
      simp only [List.getElem?_toArray, List.getElem?_cons_zero, List.getElem?_cons_succ] at hk50 hk51 hks0 hks1 hkb
      have hkf : ∀ {A B : World}, KeepsFrom W.heap.size A B → KeepsFrom W1.heap.size A B := fun k => ⟨k.size, fun i o hi ho hc => k.same i o (Nat.le_trans (Nat.le_of_lt HW1.out) hi) ho hc⟩
      by_cases hks : (spot l n m x'.1).1 = K ∧ ((spot l n m x'.1).2 : Int) = Z
      · have hlh : (hits l n m K Z pre).length < U.length + 1 := Nat.lt_of_le_of_lt (hits_le l n m K Z pre) hlen
        obtain ⟨fn, tmps, assign, body, hy, hR⟩ := yieldAt_any (p' := d - 1 - 1 - 1) (li := li) (hY.out _ x' V hj hlh)
        have e1 := hits_one hks pre
        rw [← e1] at hR
        replace hR := Lib.hid hR
        clear hY hlh
        gi_wp2
        refine ⟨fun _ => by omega, hR.out.mono ?_⟩
        rintro e W3 ⟨hk3, (⟨rfl, hJ3, hq3⟩ | ⟨rfl, hJx3⟩)⟩
        · clear hR hy
          gi_wp2
          exact ⟨hkf hk3, hq3, hJ3, hq.keeps hq3, hbv.keeps hq3 HN.out.1 HN.out.2.1 HN.out.2.2⟩
        · clear hR hy
          gi_wp2
          exact ⟨hkf hk3, rfl, hJx3⟩
      · have e1 := hits_none hks pre
        have hend : ∀ (a' : Act), ownPostG W1.heap.size (Keeps3 x y z) (fun (pre : List Ad) V => J (hits l n m K Z pre) V ∧ WhereAt b R M X l n cap m S0 B0 K Z x y z f g V ∧ Whole V W.heap.size 76 #[.func (.yield lo) #[] #[]]) (fun cd (pre : List Ad) V => cd = .ret ∧ Jx (hits l n m K Z pre) V) (pre ++ [x']) V .normal a' V := fun a' => ⟨KeepsFrom.refl _ _, Keeps3.refl x y z V, by rw [e1]; exact hj, hq, hbv⟩
        by_cases hk1 : (spot l n m x'.1).1 = K
        · have hz1 : ¬ ((spot l n m x'.1).2 : Int) = Z := fun h => hks ⟨hk1, h⟩
          clear hks hY e1
          gi_wp2
          refine ⟨fun _ h => (by cases h), ?_⟩
          gi_wp2
          exact hend _
        · have hz1 : ¬ ((spot l n m x'.1).1 : Int) = K := fun h => hk1 (by omega)
          clear hks hY e1 hk1
          gi_wp2
          refine ⟨fun _ h => (by cases h), ?_⟩
          gi_wp2
          exact hend _
    case done =>
      rintro D xs V hD hxs ⟨hj, hq, hbv⟩ hK
      clear HALL hJ1 hq1 hx1
      replace hxs : xs = U := hxs
      subst hxs
      gi_wp2
      refine ⟨by simp, .inl ⟨_, _, rfl, run_takeDeferred hK, ?_⟩⟩
      refine ⟨.tuple #[], results_none rfl _ _ _, ⟨_, rfl⟩, .inl ⟨L, rfl, ?_⟩⟩
      rw [e0.out]
      exact hJ.putObj _ hj (by have := HW1.out; omega) hK rfl
    case stop =>
      rintro D cd pre V hD hp ⟨rfl, hj⟩ hK
      clear HALL hJ1 hq1 hx1
      replace hp : pre <+: U := hp
      gi_wp2
      refine ⟨by simp, .inl ⟨_, _, rfl, run_takeDeferred hK, ?_⟩⟩
      refine ⟨.tuple #[], results_none rfl _ _ _, ⟨_, rfl⟩, .inr ⟨hits l n m K Z pre, ?_, hJx.putObj _ hj (by have := HW1.out; omega) hK rfl⟩⟩
      rw [e0.out]
      exact hits_prefix l n m K Z hp
  · have t1 : decide (Z < 0) = false := decide_eq_false hz
    have hv : (if K = 1 then Value.slice (some { block := R, off := 0 }) n cap else if K = 2 then Value.slice (some { block := M, off := 0 }) m m else Value.slice none 0 0) = .slice (if K = 1 then some { block := R, off := 0 } else if K = 2 then some { block := M, off := 0 } else none) (lenK n m K) (if K = 1 then cap else if K = 2 then m else 0) := by
      unfold lenK
      split
      · rfl
      · split <;> rfl
    rw [hv] at HBy
    clear hv
    have t2 : decide (Z ≥ (lenK n m K : Int)) = true := decide_eq_true (by omega)
    have e0 : L = [] := hL.out ▸ if_neg (by omega)
    replace hl := Lib.hid hl
    replace hz := Lib.hid hz
    generalize (if K = 1 then some (⟨R, 0, none⟩ : Addr) else if K = 2 then some ⟨M, 0, none⟩ else none) = ba at *
    generalize (if K = 1 then cap else if K = 2 then m else 0) = bc at *
    generalize lenK n m K = bn at *
    refine wpIn_wide.2 ?_
    go_region_held3 (fun V => V.cell? ⟨S0, 0, none⟩ = some (.int .u8 K) ∧ V.cell? ⟨S0, 1, none⟩ = some (.int .i64 Z) ∧ V.cell? ⟨B0, 0, none⟩ = some (.pointer (some ⟨b, 0, none⟩)))
      (first | exact ⟨HA.out.hS.cell 0, HA.out.hS.cell 1, HA.out.hB.cell 0⟩ | go_keep)
      (first | (go_at_call 28; (with_reducible refine (HBy.out _ ?_).mono ?_); (first | exact HA'.out | exact HA.out); rintro e w1 ⟨rfl, rfl⟩))
    gi_wp2_with fail
    subst e0
    show LeavesInM _ _ _ _ _ _ _ _ _
    simp only [LeavesInM]
    exact ⟨.tuple #[], results_none rfl _ _ _, ⟨_, rfl⟩, .inl ⟨[], rfl, hJ [] W0 _ none hJ0 (by exact ⟨rfl, rfl, rfl, Nat.le_refl _, fun _ _ _ => rfl⟩) (fun r e => by cases e)⟩⟩
end Go.Proofs.Ythhahhmdpjchkaa
