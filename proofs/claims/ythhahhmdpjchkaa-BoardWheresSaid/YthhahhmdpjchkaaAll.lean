/-
  The board's addresses of a kind, one behind the other: what 'all' gives.
-/
import Derived.Test.YthhahhmdpjchkaaDec
import Derived.RangeFuncNested
import Derived.RangeFuncBound
import Derived.RangeFuncCalls
import Derived.RangeFuncLeaves
import Derived.Shelf.RegionOpen
import Derived.OwnWalkIn
import Derived.TacticsInMore
import Derived.LoopNIn
import Derived.LoopIn
import Derived.Deep.RegionWith
import Derived.Deep.RegionHeld3
namespace Go.Proofs.Ythhahhmdpjchkaa
open Go.RowKit Go.Shelf
attribute [local go_sem] Oper.semAt_some
set_option maxRecDepth 100000
set_option maxHeartbeats 1000000

/-- An address. -/
abbrev Ad := Fin 16777216
def ad (q : Nat) : Ad := ⟨q % 16777216, Nat.mod_lt _ (by decide)⟩
theorem ad_val {q : Nat} (h : q < 16777216) : (ad q).1 = q := Nat.mod_eq_of_lt h
/-- The first a addresses from f on. -/
def rowA (f a : Nat) : List Ad := (List.range a).map fun t => ad (f + t)
theorem rowA_step (f a : Nat) : rowA f (a + 1) = rowA f a ++ [ad (f + a)] := by simp [rowA, List.range_succ]
theorem rowA_zero (f : Nat) : rowA f 0 = [] := rfl
/-- The addresses of the first i stretches, as far as bytes of kind K begin there. -/
def upA (kd : Nat → Nat) (K : Nat) : Nat → List Ad
  | 0 => []
  | i + 1 => upA kd K i ++ (if kd (8192 * i) = K then rowA (8192 * i) 8192 else [])
theorem upA_prefix (kd : Nat → Nat) (K : Nat) {i j : Nat} (h : i ≤ j) : upA kd K i <+: upA kd K j := by
  induction j with
  | zero => rw [show i = 0 by omega]; exact List.prefix_refl _
  | succ j ih =>
    by_cases e : i = j + 1
    · rw [e]; exact List.prefix_refl _
    · exact (ih (by omega)).trans (List.prefix_append _ _)
theorem rowA_prefix (f : Nat) {a b : Nat} (h : a ≤ b) : rowA f a <+: rowA f b := by
  induction b with
  | zero => rw [show a = 0 by omega]; exact List.prefix_refl _
  | succ b ih =>
    by_cases e : a = b + 1
    · rw [e]; exact List.prefix_refl _
    · rw [rowA_step]; exact (ih (by omega)).trans (List.prefix_append _ _)
theorem partA_prefix (kd : Nat → Nat) (K i a : Nat) (hi : i < 2048) (ha : a ≤ 8192) (hk : kd (8192 * i) = K) : upA kd K i ++ rowA (8192 * i) a <+: upA kd K 2048 := by
  refine List.IsPrefix.trans ?_ (upA_prefix kd K (show i + 1 ≤ 2048 by omega))
  rw [upA, if_pos hk]
  obtain ⟨r, hr⟩ := rowA_prefix (8192 * i) ha
  exact ⟨r, by rw [List.append_assoc, hr]⟩

/-- No cells but those of the blocks x, y, z have turned. -/
def Keeps3 (x y z : Nat) (W W' : World) : Prop := W.heap.size ≤ W'.heap.size ∧ ∀ k cs t f, k ≠ x → k ≠ y → k ≠ z → W.heap[k]? = some (.cells cs t f) → W'.heap[k]? = some (.cells cs t f)
theorem Keeps3.refl (x y z : Nat) (W : World) : Keeps3 x y z W W := ⟨Nat.le_refl _, fun _ _ _ _ _ _ _ h => h⟩
theorem Keeps3.trans {x y z : Nat} {A B C : World} (h : Keeps3 x y z A B) (k : Keeps3 x y z B C) : Keeps3 x y z A C := ⟨Nat.le_trans h.1 k.1, fun g cs t f a b c h1 => k.2 g cs t f a b c (h.2 g cs t f a b c h1)⟩
theorem Keeps3.below {x y z : Nat} {A B : World} (h : Below A.heap.size A B) : Keeps3 x y z A B :=
  ⟨h.size, fun k _ _ _ _ _ _ hk => (h.block k (Array.getElem?_eq_some_iff.1 hk).1).trans hk⟩
theorem keeps3_b {x y z : Nat} (W : World) (l : Nat) (o o' : Obj) (h : W.heap[l]? = some o) (ho : o.isCells = false) : Keeps3 x y z W (W.putObj l o') := by
  refine ⟨by simp [World.putObj], fun k cs t f _ _ _ hk => ?_⟩
  have hne : k ≠ l := by
    intro e
    subst e
    rw [h] at hk
    injection hk with hk
    subst hk
    simp [Obj.isCells] at ho
  exact (World.putObj_heap_other hne).trans hk
theorem Whole.keeps {x y z g : Nat} {W W' : World} {t : TypeId} {cs : Array Value} (h : Whole W g t cs) (k : Keeps3 x y z W W') (h1 : g ≠ x) (h2 : g ≠ y) (h3 : g ≠ z) : Whole W' g t cs := k.2 g cs t (0, 0) h1 h2 h3 h
theorem Holds.keeps {x y z g n : Nat} {W W' : World} {f : Nat → Nat} (h : Holds W g n f) (k : Keeps3 x y z W W') (h1 : g ≠ x) (h2 : g ≠ y) (h3 : g ≠ z) : Holds W' g n f := let ⟨cs, h, r⟩ := h; ⟨cs, h.keeps k h1 h2 h3, r⟩
/-- What 'all' reads: the board, the two places that it has captured. -/
structure AllAt (b R M X l n cap m B1 K1 K x y z : Nat) (f g : Nat → Nat) (W : World) : Prop where
  brd : Brd W b R M X l n cap m f g
  hB : Whole W B1 25 #[.pointer (some ⟨b, 0, none⟩)]
  hK : Whole W K1 5 #[.int .u8 K]
  ne : ∀ v, v = x ∨ v = y ∨ v = z → b ≠ v ∧ R ≠ v ∧ M ≠ v ∧ (l ≠ 1 → X ≠ v) ∧ B1 ≠ v ∧ K1 ≠ v
theorem AllAt.below {b R M X l n cap m B1 K1 K x y z : Nat} {f g : Nat → Nat} {W W' : World} (h : AllAt b R M X l n cap m B1 K1 K x y z f g W) (hb : Below W.heap.size W W') : AllAt b R M X l n cap m B1 K1 K x y z f g W' :=
  ⟨h.brd.below hb, h.hB.below hb h.hB.lt, h.hK.below hb h.hK.lt, h.ne⟩
theorem AllAt.drew {b R M X l n cap m B1 K1 K x y z : Nat} {f g : Nat → Nat} {W : World} (h : AllAt b R M X l n cap m B1 K1 K x y z f g W) : AllAt b R M X l n cap m B1 K1 K x y z f g W.drew :=
  h.below ⟨rfl, rfl, rfl, Nat.le_refl _, fun _ _ => rfl⟩
theorem AllAt.drewN {b R M X l n cap m B1 K1 K x y z : Nat} {f g : Nat → Nat} {W : World} (h : AllAt b R M X l n cap m B1 K1 K x y z f g W) (q : Nat) : AllAt b R M X l n cap m B1 K1 K x y z f g (W.drewN q) :=
  h.below (below_drewN (Below.refl _ _) q)
theorem AllAt.keeps {b R M X l n cap m B1 K1 K x y z : Nat} {f g : Nat → Nat} {W W' : World} (h : AllAt b R M X l n cap m B1 K1 K x y z f g W) (k : Keeps3 x y z W W') : AllAt b R M X l n cap m B1 K1 K x y z f g W' := by
  obtain ⟨a1, a2, a3, a4, a5, a6⟩ := h.ne x (.inl rfl)
  obtain ⟨b1, b2, b3, b4, b5, b6⟩ := h.ne y (.inr (.inl rfl))
  obtain ⟨c1, c2, c3, c4, c5, c6⟩ := h.ne z (.inr (.inr rfl))
  exact ⟨⟨h.brd.lay, h.brd.head.keeps k a1 b1 c1, h.brd.rom.keeps k a2 b2 c2, h.brd.ram.keeps k a3 b3 c3, fun e => (h.brd.more e).keeps k (a4 e) (b4 e) (c4 e), h.brd.n1, h.brd.n2, h.brd.m2, h.brd.hb, h.brd.hR, h.brd.hX⟩,
    h.hB.keeps k a5 b5 c5, h.hK.keeps k a6 b6 c6, h.ne⟩
/-- What a round is handed: the address, what stands there. -/
def encA (l n m : Nat) (x : Ad) : Array Value := #[.int .u32 (x.1 : Nat), .agg #[.int .u8 ((spot l n m x.1).1 : Nat), .int .i64 ((spot l n m x.1).2 : Nat)]]
theorem field_kind0 (x y : Value) (W : World) : Sem.run Try.prog (Instr.field 33 (.agg #[x, y]) 0) W = .ok x W := by kernel_rfl
theorem all_stops {b R M X l n cap m B1 K1 K x y z : Nat} {f g : Nat → Nat} (w : World) (h : AllAt b R M X l n cap m B1 K1 K x y z f g w) (d : Nat) (hd : 1 ≤ d) :
    SeqStopsK Fence.wide d Try.prog 34 #[.pointer (some ⟨B1, 0, none⟩), .pointer (some ⟨K1, 0, none⟩)] (encA l n m) (Keeps3 x y z)
      (fun xs => xs = upA (fun q => (spot l n m q).1) K 2048) (fun pre => pre <+: upA (fun q => (spot l n m q).1) K 2048) ((upA (fun q => (spot l n m q).1) K 2048).length + 1) w := by
  intro lo J Jx W hW hJ hJx hY h0
  have hS := h.below hW
  have HD := fun q (hq : q < 4294967296) W' (hC : AllAt b R M X l n cap m B1 K1 K x y z f g W') => decode_any q W' hC.brd hq
  simp only [spotV] at HD
  replace HD := Lib.hid HD
  have hf := field_kind0
  replace hY := Lib.hid hY
  clear h hW
  refine callsIn_of_wp Try.func34 rfl trivial ?_ rfl
  simp only [Try.ntmps34, List.size_toArray, List.length_cons, List.length_nil, Nat.reduceAdd, Nat.reduceSub, Array.replicate_succ, Array.replicate_zero, List.push_toArray, List.append_toArray, List.nil_append, List.cons_append]
  gi_wp2_with fail
  gi_loopw [4] (fun s4 wr => ∃ i q : Nat, i ≤ 2048 ∧ s4 = .int .u32 q ∧ Hid (q = 8192 * i) ∧ J (upA (fun q => (spot l n m q).1) K i) wr ∧ AllAt b R M X l n cap m B1 K1 K x y z f g wr) (fun s4 _ => 16777216 - (intOf s4).toNat)
  case atStart => exact ⟨0, 0, by omega, rfl, Lib.hid rfl, h0, hS⟩
  case round =>
    obtain ⟨i, q, hi, rfl, hq, hJi, hSi⟩ := hrel
    clear h0 hS
    by_cases hlt : i < 2048
    · have hqlt := Lib.hid (show q < 16769025 by have := hq.out; omega)
      have t1 : decide ((q : Int) < 16777216) = true := decide_eq_true (by have := hqlt.out; omega)
      have HDq := Lib.hid (HD.out q (by have := hqlt.out; omega))
      have kb := hSi.hB.cell 0
      have kk := hSi.hK.cell 0
      simp only [List.getElem?_toArray, List.getElem?_cons_zero] at kb kk
      have kb' : wr.drew.cell? ⟨B1, 0, none⟩ = some (.pointer (some ⟨b, 0, none⟩)) := kb
      have kk' : wr.drew.cell? ⟨K1, 0, none⟩ = some (.int .u8 K) := kk
      gi_wp2_with fail
      refine wpIn_wide.2 ?_
      have HSi := Lib.hid hSi
      clear hSi
      go_region_held3 (fun W => W.cell? ⟨B1, 0, none⟩ = some (.pointer (some ⟨b, 0, none⟩)) ∧ W.cell? ⟨K1, 0, none⟩ = some (.int .u8 K))
        (first | exact ⟨HSi.out.hB.cell 0, HSi.out.hK.cell 0⟩ | exact ⟨hS1.hB.cell 0, hS1.hK.cell 0⟩ | go_keep)
        (first
          | (go_at_call 13; (with_reducible refine (HDq.out _ ?_).mono ?_); (first | exact HSi.out.drew | exact HSi.out); rintro e W1 ⟨rfl, hB1⟩; have hS1 : AllAt b R M X l n cap m B1 K1 K x y z f g W1 := (HSi.out.drew).below hB1))
      all_goals
        have hB1' : Below wr.heap.size wr W1 := ((Below.refl _ wr).drew).trans hB1
        have hJ1 : J (upA (fun q => (spot l n m q).1) K i) W1 := hJ _ wr W1 none hJi ⟨hB1'.os, hB1'.tape, hB1'.output, hB1'.size, fun k hk _ => hB1'.block k hk⟩ (fun r e => by cases e)
        clear hB1 hB1' HSi kb kk kb' kk' HDq hJi t1
        replace hlt := Lib.hid hlt
        replace hi := Lib.hid hi
        by_cases hk : (spot l n m q).1 = K
        · have t2 : (((spot l n m q).1 : Int) != (K : Int)) = false := by rw [bne_eq_false_iff_eq]; omega
          have HK := Lib.hid hk
          clear hk
          gi_wp2_with fail
          rw [t2]
          clear t2
          gi_loopw [5, 16] (fun _ s16 wi => ∃ a : Nat, Hid (a ≤ 8192) ∧ s16 = .int .u32 a ∧ J (upA (fun q => (spot l n m q).1) K i ++ rowA q a) wi ∧ AllAt b R M X l n cap m B1 K1 K x y z f g wi) (fun _ s16 _ => 8192 - (intOf s16).toNat)
          case atStart => exact ⟨0, Lib.hid (by omega), rfl, by rw [rowA_zero, List.append_nil]; exact hJ1, hS1⟩
          case round =>
            obtain ⟨a, ha, rfl, hJa, hSa⟩ := hrel
            clear hJ1 hS1
            by_cases hal : a < 8192
            · have t3 : decide ((a : Int) < 8192) = true := decide_eq_true (by omega)
              have hqa := Lib.hid (show q + a < 16777216 by have := hqlt.out; omega)
              have HDa := Lib.hid (HD.out (q + a) (by have := hqa.out; omega))
              have hub : (q : Int) + (a : Int) ≤ 4294967295 := by have := hqa.out; omega
              have kb := hSa.hB.cell 0
              simp only [List.getElem?_toArray, List.getElem?_cons_zero] at kb
              replace hal := Lib.hid hal
              gi_wp2_with fail
              refine ⟨trivial, ?_⟩
              have eqa : (q : Int) + (a : Int) = ((q + a : Nat) : Int) := (Int.natCast_add q a).symm
              rw [eqa]
              refine (callsIn_wide.2 (HDa.out _ hSa)).mono ?_
              rintro e W2 ⟨rfl, hB2⟩
              rw [← eqa]
              have hJ2 := hJ _ _ W2 none hJa ⟨hB2.os, hB2.tape, hB2.output, hB2.size, fun k hk _ => hB2.block k hk⟩ (fun r e => by cases e)
              have hS2 := hSa.below hB2
              have hp : ∀ a', a' ≤ 8192 → upA (fun q => (spot l n m q).1) K i ++ rowA q a' <+: upA (fun q => (spot l n m q).1) K 2048 := fun a' h => by
                rw [hq.out]
                exact partA_prefix _ K i a' hlt.out h (by rw [← hq.out]; exact HK.out)
              obtain ⟨fn, tmps, assign, body, hy, hR⟩ := hY.out _ (ad (q + a)) W2 hJ2 (Nat.lt_succ_of_le (hp a (Nat.le_of_lt hal.out)).length_le)
              simp only [encA] at hy
              rw [ad_val hqa.out, ← eqa] at hy
              have hp2 := Lib.hid (hp (a + 1) hal.out)
              clear hJa hSa hB2 hp kb hJ2 eqa HDa
              replace hR := Lib.hid hR
              gi_wp2
              refine hR.out.mono ?_
              rintro e W3 (⟨rfl, hJ3, hk3⟩ | ⟨rfl, hJx3⟩)
              · have hS3 := hS2.keeps hk3
                clear hR hy hS2
                gi_wp2
                go_roundw
                case rel => exact ⟨a + 1, Lib.hid hal.out, by congr 1; have := hal.out; omega, by rw [rowA_step, ← List.append_assoc]; exact hJ3, hS3⟩
                case measure => simp [intOf]; have := hal.out; omega
              · clear hR hy hS2
                gi_wp2
                refine bodyPost_ret (results_none rfl _ _ _) rfl ?_
                exact ⟨⟨_, rfl⟩, .inr ⟨_, by rw [List.append_assoc, ← rowA_step]; exact hp2.out, hJx3⟩⟩
            · obtain rfl : a = 8192 := by have := ha.out; omega
              have hup : upA (fun q => (spot l n m q).1) K (i + 1) = upA (fun q => (spot l n m q).1) K i ++ rowA q 8192 := by
                rw [upA, if_pos (by rw [← hq.out]; exact HK.out), hq.out]
              rw [← hup] at hJa
              have t3 : decide (((8192 : Nat) : Int) < 8192) = false := by decide
              clear hup hal ha
              gi_wp2_with fail
              go_roundw
              case rel => exact ⟨i + 1, q + 8192, by have := hlt.out; omega, by first | go_num | (congr 1; have := hqlt.out; omega), Lib.hid (by rw [hq.out]; omega), hJa, hSa⟩
              case measure => simp [intOf]; have := hqlt.out; omega
        · have t2 : (((spot l n m q).1 : Int) != (K : Int)) = true := by rw [bne_iff_ne]; omega
          have hup : upA (fun q => (spot l n m q).1) K (i + 1) = upA (fun q => (spot l n m q).1) K i := by
            rw [upA, if_neg (by rw [← hq.out]; exact hk), List.append_nil]
          rw [← hup] at hJ1
          clear hk hup
          gi_wp2_with fail
          go_roundw
          case rel => exact ⟨i + 1, q + 8192, by have := hlt.out; omega, by first | go_num | (congr 1; have := hqlt.out; omega), Lib.hid (by rw [hq.out]; omega), hJ1, hS1⟩
          case measure => simp [intOf]; have := hqlt.out; omega
    · obtain rfl : i = 2048 := by omega
      have t1 : decide ((q : Int) < 16777216) = false := decide_eq_false (by have := hq.out; omega)
      gi_wp2_with fail
      go_end0
      exact ⟨⟨_, rfl⟩, .inl ⟨_, rfl, hJi⟩⟩
end Go.Proofs.Ythhahhmdpjchkaa
