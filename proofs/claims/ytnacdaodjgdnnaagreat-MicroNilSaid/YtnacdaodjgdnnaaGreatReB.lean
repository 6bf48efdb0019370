/-
  A walker's places: page, data, indexed; bytes of the direct page and of the stack.
-/
import Derived.Test.YtnacdaodjgdnnaaGreatReA
import Derived.Deep.RegionHeld3
namespace Go.Proofs.YtnacdaodjgdnnaaGreat
open Go.RowKit Go.Shelf
set_option maxRecDepth 100000
set_option maxHeartbeats 1000000
set_option linter.unusedVariables false

theorem directF_lt {D n : Nat} {E : Bool} (hD : D < 65536) : directF D n E < 65536 := by
  unfold directF
  split <;> omega
theorem data_any {W0 w : World} {B b n : Nat} {s : Ws} (h : Wk W0 B b s w) (hn : n < 4294967296) :
    Calls Tryz.prog 284 #[.pointer (some ⟨b, 0, none⟩), .int .u32 (n : Nat)] w fun e w' => e = .returned (.int .u32 ((dataM n s).1 : Nat)) ∧ Wk W0 B b (dataM n s).2 w' ∧ Keeps b w w' ∧ (dataM n s).1 < 16777216 := by
  rw [show dataM n s = (s.r.B * 65536 + n % 65536, s) from rfl]
  obtain ⟨sa, c, lv, hc, _⟩ := h.cells
  have c6 := hc.cell 6
  unfold wkC at c6
  simp only [List.getElem?_toArray, List.getElem?_cons_zero, List.getElem?_cons_succ] at c6
  have hB := h.ok.B
  have HA := address_any s.r.B n w hB hn
  have hlt : s.r.B * 65536 + n % 65536 < 16777216 := by omega
  dsimp only
  generalize s.r.B * 65536 + n % 65536 = v at *
  replace HA := Lib.hid HA
  replace hlt := Lib.hid hlt
  clear hc hB hn
  go_enter Tryz.func284, Tryz.ntmps284
  go_wp2_with fail
  refine HA.out.mono ?_
  rintro e w' ⟨rfl, rfl⟩
  go_wp2_with fail
  go_ret
  exact ⟨rfl, h, Keeps.refl _ _, hlt.out⟩
theorem within_any (a : Nat) (w : World) : Calls Tryz.prog 287 #[.int .u32 (a : Nat)] w fun e w' => e = .returned (plV a true) ∧ Below w.heap.size w w' := by
  unfold plV
  go_enter Tryz.func287, Tryz.ntmps287
  go_wp2_with fail
  exact bodyPost_ret (v := .agg #[.int .u32 a, .bool true]) (by simp [results, Tryz.results287, go_sem]) rfl ⟨rfl, (Below.refl _ _).alloc (Nat.le_refl _) _⟩
theorem across_any (a : Nat) (w : World) (ha : a < 4294967296) : Calls Tryz.prog 283 #[.int .u32 (a : Nat)] w fun e w' => e = .returned (plV (a % 16777216) false) ∧ Below w.heap.size w w' := by
  unfold plV
  have HC := fun W => cut_any a W ha
  generalize a % 16777216 = v at *
  replace HC := Lib.hid HC
  clear ha
  go_enter Tryz.func283, Tryz.ntmps283
  go_wp2_with fail
  refine (HC.out _).mono ?_
  rintro e w' ⟨rfl, rfl⟩
  go_wp2_with fail
  exact bodyPost_ret (v := .agg #[.int .u32 v, .bool false]) (by simp [results, Tryz.results283, go_sem]) rfl ⟨rfl, (Below.refl _ _).alloc (Nat.le_refl _) _⟩
theorem place_end {W0 w W : World} {B b X v : Nat} {bk : Bool} {s : Ws} (h : Wk W0 B b s W) (hX : Whole W X 194 #[.int .u32 0, .bool false]) (hK : Keeps b w W) (hne : X ≠ b) (hB : B ≤ X) (hw : w.heap.size ≤ X) :
    Wk W0 B b s ((W.setCell ⟨X, 0, none⟩ (.int .u32 v)).setCell ⟨X, 1, none⟩ (.bool bk)) ∧ Keeps b w ((W.setCell ⟨X, 0, none⟩ (.int .u32 v)).setCell ⟨X, 1, none⟩ (.bool bk)) := by
  obtain ⟨a, c, lv, h1, h2, h3, h4⟩ := h.cells
  have hv := own_apart h4 hX (by decide)
  refine ⟨⟨h.ok, ⟨a, c, lv, (h1.away (p := ⟨X, 0, none⟩) (by show b ≠ X; omega) _).away (p := ⟨X, 1, none⟩) (by show b ≠ X; omega) _, h2, h3, row_put (row_put h4 (p := ⟨X, 0, none⟩) hv _) (p := ⟨X, 1, none⟩) hv _⟩, h.here, (h.bel.setCell (p := ⟨X, 0, none⟩) hB _).setCell (p := ⟨X, 1, none⟩) hB _, h.base⟩, ?_⟩
  intro x t cs hx ht hc
  have hxl := hc.lt
  exact ((hK x t cs hx ht hc).away (p := ⟨X, 0, none⟩) (by show x ≠ X; omega) _).away (p := ⟨X, 1, none⟩) (by show x ≠ X; omega) _
theorem page_any {W0 w : World} {B b n : Nat} {s : Ws} (h : Wk W0 B b s w) (hn : n < 4294967296) :
    Calls Tryz.prog 280 #[.pointer (some ⟨b, 0, none⟩), .int .u32 (n : Nat)] w fun e w' => e = .returned (plV (pageM n s).1.1 (pageM n s).1.2) ∧ Wk W0 B b (pageM n s).2 w' ∧ Keeps b w w' := by
  rw [show pageM n s = ((directF s.r.D n s.r.E, true), s) from rfl]
  dsimp only
  have h0 := h.alloc (.cells #[.int .u32 0, .bool false] 194)
  have hX := Whole.fresh w 194 #[.int .u32 0, .bool false]
  have hK0 := (Keeps.refl b w).alloc (.cells #[.int .u32 0, .bool false] 194)
  have HD := fun W => direct_any s.r n W h.ok hn
  obtain ⟨sa, c, lv, hc, _⟩ := h0.cells
  have c0 := hc.cell 0
  have c1 := hc.cell 1
  have c2 := hc.cell 2
  have c3 := hc.cell 3
  have c4 := hc.cell 4
  have c5 := hc.cell 5
  have c6 := hc.cell 6
  have c7 := hc.cell 7
  have c8 := hc.cell 8
  have c9 := hc.cell 9
  unfold wkC at c0 c1 c2 c3 c4 c5 c6 c7 c8 c9
  simp only [List.getElem?_toArray, List.getElem?_cons_zero, List.getElem?_cons_succ] at c0 c1 c2 c3 c4 c5 c6 c7 c8 c9
  generalize directF s.r.D n s.r.E = v at *
  unfold Rg.v rgC at HD
  replace HD := Lib.hid HD
  have hlb := h.lt
  have hbw : B ≤ w.heap.size := by have := h.bel.size; have := h.base; omega
  clear hc hn h
  go_enter Tryz.func280, Tryz.ntmps280
  go_upto_region 1 with (fail)
  generalize w.alloc (.cells #[.int .u32 0, .bool false] 194) = W1 at *
  go_wp2_with fail
  refine (HD.out _).mono ?_
  rintro e W2 ⟨rfl, hb2⟩
  have h2 := h0.below hb2
  have hX2 := hX.below hb2 hX.lt
  have hK2 := hK0.trans (Keeps.below hb2)
  clear HD c0 c1 c2 c3 c4 c5 c6 c7 c8 c9 h0 hX hK0 hb2
  go_wp2_with fail
  refine (within_any v _).mono ?_
  rintro e W3 ⟨rfl, hb3⟩
  have h3 := h2.below hb3
  have hX3 := hX2.below hb3 hX2.lt
  have hK3 := hK2.trans (Keeps.below hb3)
  have x0 := hX3.cell 0
  have x1 := hX3.cell 1
  have f0 := hX3.free 0
  have f1 := hX3.free 1
  simp only [List.getElem?_toArray, List.getElem?_cons_zero, List.getElem?_cons_succ] at x0 x1
  have hfin := Lib.hid (place_end (v := v) (bk := true) h3 hX3 hK3 (by omega) hbw (Nat.le_refl _))
  have hX4 := Lib.hid ((hX3.put 0 (.int .u32 v)).put 1 (.bool true))
  unfold plV
  clear h2 hX2 hK2 h3 hX3 hK3 hb3
  go_wp2_with fail
  exact bodyPost_ret (results_cell_row (fn := Tryz.f280) (p := 4) (ty := 194) rfl _ _ _ _ _ (0, 0) _ rfl hX4.out Tryz.underlying194 rfl (by kernel_rfl)) rfl ⟨rfl, hfin.out⟩
theorem ret_bool {x y : Bool} (h : x = y) : Ending.returned (.bool x) = .returned (.bool y) := by rw [h]
theorem crossed_any (a c : Nat) (w : World) (ha : a < 4294967296) (hc : c < 4294967296) : Calls Tryz.prog 306 #[.int .u32 (a : Nat), .int .u32 (c : Nat)] w fun e w' => e = .returned (.bool (decide (a / 256 ≠ c / 256))) ∧ w = w' := by
  have t : ((a : Int) / 256 != (c : Int) / 256) = decide (a / 256 ≠ c / 256) := by rw [Bool.eq_iff_iff]; simp; omega
  go_enter Tryz.func306, Tryz.ntmps306
  go_wp2_with fail
  go_ret
  exact ⟨ret_bool (by simp), rfl⟩
theorem indexed_eq (a x u : Nat) (s : Ws) : indexedM a x u s = (a + x, if u = 2 ∨ u = 3 ∨ s.r.P / 16 % 2 = 0 ∨ a / 256 ≠ (a + x) / 256 then (idleM s).2 else s) := by
  unfold indexedM bindM getM pureM
  dsimp only
  by_cases h : u = 2 ∨ u = 3 ∨ s.r.P / 16 % 2 = 0 ∨ a / 256 ≠ (a + x) / 256
  · rw [if_pos h, if_pos h]
  · rw [if_neg h, if_neg h]
theorem indexed_any {W0 w : World} {B b a x u : Nat} {s : Ws} (h : Wk W0 B b s w) (hl : s.l.length ≤ 99) (ha : a < 16777216) (hx : x < 65536) (hu : u < 256) :
    Calls Tryz.prog 286 #[.pointer (some ⟨b, 0, none⟩), .int .u32 (a : Nat), .int .u16 (x : Nat), .int .u8 (u : Nat)] w fun e w' => e = .returned (.int .u32 ((indexedM a x u s).1 : Nat)) ∧ Wk W0 B b (indexedM a x u s).2 w' ∧ Keeps b w w' ∧ (indexedM a x u s).1 < 16842752 := by
  rw [indexed_eq]
  dsimp only
  have hlt : a + x < 16842752 := by omega
  obtain ⟨z, hz⟩ : ∃ z, a + x = z := ⟨_, rfl⟩
  rw [hz] at hlt ⊢
  have e0 : IntKind.u32.wrap (x : Int) = (x : Int) := by simp only [IntKind.wrap_u32]; omega
  have e1 : (a : Int) + (x : Int) = (z : Int) := by omega
  have e2 : (z : Int) % 4294967296 = (z : Int) := by omega
  have e3 : IntKind.u32.wrap (z : Int) = (z : Int) := by simp only [IntKind.wrap_u32]; omega
  have HC := crossed_any a z w (by omega) (by omega)
  have HI := Lib.hid (fun W (hW : Wk W0 B b s W) => idle_any hW (by omega))
  obtain ⟨sa, c, lv, hc, _⟩ := h.cells
  have c8 := hc.cell 8
  unfold wkC at c8
  simp only [List.getElem?_toArray, List.getElem?_cons_zero, List.getElem?_cons_succ] at c8
  have hb := bit16 s.r.P h.ok.P
  have hP := h.ok.P
  have hb0 : (bits .and .u8 (s.r.P : Int) 16 == 0) = decide (s.r.P / 16 % 2 = 0) := by
    have e : (bits .and .u8 (s.r.P : Int) 16 == 0) = !(bits .and .u8 (s.r.P : Int) 16 != 0) := by simp [bne]
    rw [e, hb]
    by_cases q : s.r.P / 16 % 2 = 1
    · rw [decide_eq_true q, decide_eq_false (by omega)]; rfl
    · rw [decide_eq_false q, decide_eq_true (by omega)]; rfl
  replace hlt := Lib.hid hlt
  have hzh := Lib.hid hz
  clear hc hb hP hl
  have fin : ∀ W, Wk W0 B b (if u = 2 ∨ u = 3 ∨ s.r.P / 16 % 2 = 0 ∨ a / 256 ≠ z / 256 then (idleM s).2 else s) W → Keeps b w W → Wk W0 B b (if u = 2 ∨ u = 3 ∨ s.r.P / 16 % 2 = 0 ∨ a / 256 ≠ z / 256 then (idleM s).2 else s) W ∧ Keeps b w W ∧ z < 16842752 := fun W h1 h2 => ⟨h1, h2, hlt.out⟩
  by_cases hw : u = 2 ∨ u = 3
  · rw [if_pos (show u = 2 ∨ u = 3 ∨ s.r.P / 16 % 2 = 0 ∨ a / 256 ≠ z / 256 by omega)] at fin ⊢
    replace fin := Lib.hid fin
    clear HC ha hx hz
    rcases hw with rfl | rfl
    all_goals
      clear hu
      go_enter Tryz.func286, Tryz.ntmps286
      go_wp2_with fail
      refine (HI.out _ h).mono ?_
      rintro e w1 ⟨rfl, h1, h2⟩
      clear HI c8
      go_wp2_with fail
      go_ret
      exact ⟨rfl, fin.out _ h1 h2⟩
  · have u2 : ((u : Int) == 2) = false := by rw [beq_eq_false_iff_ne]; omega
    have u3 : ((u : Int) == 3) = false := by rw [beq_eq_false_iff_ne]; omega
    by_cases hp : s.r.P / 16 % 2 = 0
    · rw [if_pos (show u = 2 ∨ u = 3 ∨ s.r.P / 16 % 2 = 0 ∨ a / 256 ≠ z / 256 by omega)] at fin ⊢
      rw [decide_eq_true hp] at hb0
      replace fin := Lib.hid fin
      clear HC ha hx hz hw hp hu
      go_enter Tryz.func286, Tryz.ntmps286
      go_wp2_with fail
      refine (HI.out _ h).mono ?_
      rintro e w1 ⟨rfl, h1, h2⟩
      clear HI c8
      go_wp2_with fail
      go_ret
      exact ⟨rfl, fin.out _ h1 h2⟩
    · rw [decide_eq_false hp] at hb0
      by_cases hx2 : a / 256 ≠ z / 256
      · rw [if_pos (show u = 2 ∨ u = 3 ∨ s.r.P / 16 % 2 = 0 ∨ a / 256 ≠ z / 256 by omega)] at fin ⊢
        rw [decide_eq_true hx2] at HC
        replace fin := Lib.hid fin
        replace HC := Lib.hid HC
        clear ha hx hz hw hp hu hx2
        go_enter Tryz.func286, Tryz.ntmps286
        go_wp2_with fail
        refine HC.out.mono ?_
        rintro e w1 ⟨rfl, rfl⟩
        clear HC
        go_wp2_with fail
        refine (HI.out _ h).mono ?_
        rintro e w1 ⟨rfl, h1, h2⟩
        clear HI c8
        go_wp2_with fail
        go_ret
        exact ⟨rfl, fin.out _ h1 h2⟩
      · rw [if_neg (show ¬ (u = 2 ∨ u = 3 ∨ s.r.P / 16 % 2 = 0 ∨ a / 256 ≠ z / 256) by omega)] at fin ⊢
        rw [decide_eq_false hx2] at HC
        replace fin := Lib.hid fin
        replace HC := Lib.hid HC
        clear ha hx hz hw hp hu hx2 HI
        go_enter Tryz.func286, Tryz.ntmps286
        go_wp2_with fail
        refine HC.out.mono ?_
        rintro e w1 ⟨rfl, rfl⟩
        clear HC c8
        go_wp2_with fail
        go_ret
        exact ⟨rfl, fin.out _ h (Keeps.refl _ _)⟩
end Go.Proofs.YtnacdaodjgdnnaaGreat
namespace Go.Proofs.YtnacdaodjgdnnaaGreat
open Go.RowKit Go.Shelf
set_option maxRecDepth 100000
set_option maxHeartbeats 1000000
set_option linter.unusedVariables false

/-- A walker, and two boxes: what points to it, and a number. -/
structure Two (W0 : World) (B b x y n : Nat) (s : Ws) (w W : World) : Prop where
  wk : Wk W0 B b s W
  bx : Whole W x 260 #[.pointer (some ⟨b, 0, none⟩)]
  bn : Whole W y 33 #[.int .u32 (n : Nat)]
  kp : Keeps b w W
theorem Two.below {W0 w W W' : World} {B b x y n : Nat} {s : Ws} (h : Two W0 B b x y n s w W) (hb : Below W.heap.size W W') : Two W0 B b x y n s w W' := ⟨h.wk.below hb, h.bx.below hb h.bx.lt, h.bn.below hb h.bn.lt, h.kp.trans (Keeps.below hb)⟩
theorem Two.drew {W0 w W : World} {B b x y n : Nat} {s : Ws} (h : Two W0 B b x y n s w W) : Two W0 B b x y n s w W.drew := h.below (Below.drew (Below.refl _ _))
theorem Two.drewN {W0 w W : World} {B b x y n : Nat} {s : Ws} (h : Two W0 B b x y n s w W) (q : Nat) : Two W0 B b x y n s w (W.drewN q) := h.below (below_drewN (Below.refl _ _) q)
/-- What a drawn statement loads. -/
def Loads (b x y n : Nat) (r : Rg) (W : World) : Prop :=
  W.cell? ⟨x, 0, none⟩ = some (.pointer (some ⟨b, 0, none⟩)) ∧ W.cell? ⟨y, 0, none⟩ = some (.int .u32 (n : Nat)) ∧ W.cell? ⟨b, 0, none⟩ = some (.int .u16 r.A) ∧ W.cell? ⟨b, 1, none⟩ = some (.int .u16 r.X) ∧ W.cell? ⟨b, 2, none⟩ = some (.int .u16 r.Y) ∧ W.cell? ⟨b, 3, none⟩ = some (.int .u16 r.S) ∧
  W.cell? ⟨b, 4, none⟩ = some (.int .u16 r.D) ∧ W.cell? ⟨b, 5, none⟩ = some (.int .u16 r.PC) ∧ W.cell? ⟨b, 6, none⟩ = some (.int .u8 r.B) ∧ W.cell? ⟨b, 7, none⟩ = some (.int .u8 r.K) ∧ W.cell? ⟨b, 8, none⟩ = some (.int .u8 r.P) ∧ W.cell? ⟨b, 9, none⟩ = some (.bool r.E)
theorem Two.loads {W0 w W : World} {B b x y n : Nat} {s : Ws} (h : Two W0 B b x y n s w W) : Loads b x y n s.r W := by
  obtain ⟨a, c, lv, h1, _⟩ := h.wk.cells
  unfold Loads
  rw [h.bx.cell, h.bn.cell, h1.cell, h1.cell, h1.cell, h1.cell, h1.cell, h1.cell, h1.cell, h1.cell, h1.cell, h1.cell]
  exact ⟨rfl, rfl, rfl, rfl, rfl, rfl, rfl, rfl, rfl, rfl, rfl, rfl⟩
theorem box_ne {W0 w : World} {B b x : Nat} {s : Ws} (q : Whole w x 260 #[.pointer (some ⟨b, 0, none⟩)]) (h : Wk W0 B b s w) : x ≠ b := fun e => by
  subst e
  obtain ⟨a, c, lv, hc, _⟩ := h.cells
  have := (show w.heap[x]? = _ from q).symm.trans hc
  injection this with this
  injection this with h1 h2
  cases h2
theorem num_ne {W0 w : World} {B b y n : Nat} {s : Ws} (q : Whole w y 33 #[.int .u32 (n : Nat)]) (h : Wk W0 B b s w) : y ≠ b := fun e => by
  subst e
  obtain ⟨a, c, lv, hc, _⟩ := h.cells
  have := (show w.heap[y]? = _ from q).symm.trans hc
  injection this with this
  injection this with h1 h2
  cases h2
theorem direct1_any {W0 w : World} {B b x y n i : Nat} {s : Ws} (h : Wk W0 B b s w) (q : Whole w x 260 #[.pointer (some ⟨b, 0, none⟩)]) (q2 : Whole w y 33 #[.int .u32 (n : Nat)]) (hl : s.l.length ≤ 100) (hn : n < 100000) (hi : i < 3) :
    Calls Tryz.prog 305 #[.int .u32 (i : Nat), .pointer (some ⟨x, 0, none⟩), .pointer (some ⟨y, 0, none⟩)] w fun e w' => e = .returned (.int .u8 ((direct1M n i s).1 : Nat)) ∧ Wk W0 B b (direct1M n i s).2 w' ∧ Keeps b w w' ∧ (direct1M n i s).1 < 256 := by
  have hT : Two W0 B b x y n s w w := ⟨h, q, q2, Keeps.refl _ _⟩
  obtain ⟨c0, c1, c2, c3, c4, c5, c6, c7, c8, c9, c10, c11⟩ := hT.drew.loads
  have hDl := directF_lt (n := n + i) (E := s.r.E) h.ok.D
  have HD := Lib.hid (fun W (hW : Two W0 B b x y n s w W) => (direct_any s.r (n + i) W h.ok (by omega)).mono (fun e w' ⟨he, hb⟩ => show e = Ending.returned (.int .u32 (directF s.r.D (n + i) s.r.E : Nat)) ∧ Two W0 B b x y n s w w' from ⟨he, hW.below hb⟩))
  have HR := fun W (hW : Two W0 B b x y n s w W) => (read_any (directF s.r.D (n + i) s.r.E) hW.wk hl (by omega)).mono (fun e w' ⟨he, hb, hk, hlt⟩ => show e = Ending.returned (.int .u8 ((readM (directF s.r.D (n + i) s.r.E) s).1 : Nat)) ∧ Wk W0 B b (readM (directF s.r.D (n + i) s.r.E) s).2 w' ∧ Keeps b w w' ∧ (readM (directF s.r.D (n + i) s.r.E) s).1 < 256 ∧ Loads b x y n s.r w' from
    ⟨he, hb, hW.kp.trans hk, hlt, by
      have h2 : Two W0 B b x y n (readM (directF s.r.D (n + i) s.r.E) s).2 w w' := ⟨hb, hk _ _ _ (box_ne q h) (by decide) hW.bx, hk _ _ _ (num_ne q2 h) (by decide) hW.bn, hW.kp.trans hk⟩
      have h3 := h2.loads
      rwa [read_r] at h3⟩)
  rw [show direct1M n i s = readM (directF s.r.D (n + i) s.r.E) s from rfl]
  generalize readM (directF s.r.D (n + i) s.r.E) s = p1 at *
  obtain ⟨v, s1⟩ := p1
  dsimp only at *
  generalize directF s.r.D (n + i) s.r.E = d at *
  obtain ⟨z, hz⟩ : ∃ z, n + i = z := ⟨_, rfl⟩
  rw [hz] at HD
  have e1 : (n : Int) + (i : Int) = (z : Int) := by omega
  have e2 : (z : Int) % 4294967296 = (z : Int) := by omega
  have e3 : IntKind.u32.wrap (z : Int) = (z : Int) := by simp only [IntKind.wrap_u32]; omega
  unfold Rg.v rgC at HD
  replace HR := Lib.hid HR
  replace hT := Lib.hid hT
  clear h q q2 hl hn hi hDl hz
  go_enter Tryz.func305, Tryz.ntmps305
  go_upto_region 1 with (fail)
  go_region_held3 (fun W => W.cell? ⟨x, 0, none⟩ = some (.pointer (some ⟨b, 0, none⟩)) ∧ W.cell? ⟨y, 0, none⟩ = some (.int .u32 (n : Nat)) ∧ W.cell? ⟨b, 0, none⟩ = some (.int .u16 s.r.A) ∧ W.cell? ⟨b, 1, none⟩ = some (.int .u16 s.r.X) ∧ W.cell? ⟨b, 2, none⟩ = some (.int .u16 s.r.Y) ∧ W.cell? ⟨b, 3, none⟩ = some (.int .u16 s.r.S) ∧
      W.cell? ⟨b, 4, none⟩ = some (.int .u16 s.r.D) ∧ W.cell? ⟨b, 5, none⟩ = some (.int .u16 s.r.PC) ∧ W.cell? ⟨b, 6, none⟩ = some (.int .u8 s.r.B) ∧ W.cell? ⟨b, 7, none⟩ = some (.int .u8 s.r.K) ∧ W.cell? ⟨b, 8, none⟩ = some (.int .u8 s.r.P) ∧ W.cell? ⟨b, 9, none⟩ = some (.bool s.r.E))
    (first | exact hT.out.loads | exact hT.out.drew.loads | exact hT3.loads | exact hS4 | go_keep)
    (first
      | (go_at_call 304; (with_reducible refine (HD.out _ ?_).mono ?_); (repeat' (first | (with_reducible exact hT.out) | (with_reducible refine Two.drew ?_) | (with_reducible refine Two.drewN ?_ _))); rintro e W3 ⟨rfl, hT3⟩)
      | (go_at_call 110; (with_reducible refine (HR.out _ ?_).mono ?_); (repeat' (first | (with_reducible exact hT3) | (with_reducible refine Two.drew ?_) | (with_reducible refine Two.drewN ?_ _))); rintro e W4 ⟨rfl, hw4, hk4, hlt4, hS4⟩))
  all_goals
    clear HD HR c0 c1 c2 c3 c4 c5 c6 c7 c8 c9 c10 c11
    go_wp2_with fail
    go_ret
    exact ⟨rfl, hw4, hk4, hlt4⟩
end Go.Proofs.YtnacdaodjgdnnaaGreat
namespace Go.Proofs.YtnacdaodjgdnnaaGreat
open Go.RowKit Go.Shelf
set_option maxRecDepth 100000
set_option maxHeartbeats 1000000
set_option linter.unusedVariables false

/-- The index registers stay. -/
def Fix {α : Type} (F : M α) : Prop := ∀ s, (F s).2.r.X = s.r.X ∧ (F s).2.r.Y = s.r.Y
theorem Fix.pure {α : Type} (a : α) : Fix (pureM a) := fun _ => ⟨rfl, rfl⟩
theorem Fix.get : Fix getM := fun _ => ⟨rfl, rfl⟩
theorem Fix.inc : Fix incM := fun _ => ⟨rfl, rfl⟩
theorem Fix.idle : Fix idleM := fun s => by unfold idleM Ws.put; dsimp only; split <;> exact ⟨rfl, rfl⟩
theorem Fix.read (a : Nat) : Fix (readM a) := fun s => by rw [read_r]; exact ⟨rfl, rfl⟩
theorem Fix.bind {α β : Type} {F : M α} {G : α → M β} (hF : Fix F) (hG : ∀ v, Fix (G v)) : Fix (bindM F G) := fun s => ⟨((hG _) _).1.trans (hF s).1, ((hG _) _).2.trans (hF s).2⟩
theorem Fix.ite {α : Type} {p : Prop} [Decidable p] {F G : M α} (hF : Fix F) (hG : Fix G) : Fix (if p then F else G) := by split; exact hF; exact hG
theorem Fix.num {F : Nat → M Nat} (h : ∀ k, Fix (F k)) : ∀ m, Fix (numM F m)
  | 0 => Fix.pure 0
  | k + 1 => Fix.bind (Fix.num h k) fun n => Fix.bind (h k) fun v => Fix.pure _
theorem Fix.fetch (m : Nat) : Fix (fetchM m) := Fix.num (fun _ => Fix.bind Fix.get fun r => Fix.bind (Fix.read _) fun v => Fix.bind Fix.inc fun _ => Fix.pure _) m
theorem Fix.direct (n m : Nat) : Fix (directM n m) := Fix.num (fun i => (Fix.bind Fix.get fun r => Fix.read _ : Fix (direct1M n i))) m
theorem Fix.offset : Fix offsetM := Fix.bind (Fix.fetch 1) fun o => Fix.bind Fix.get fun r => Fix.bind (Fix.ite Fix.idle (Fix.pure ())) fun _ => Fix.pure _
theorem Fix.offsetBy (x : Nat) : Fix (offsetByM x) := Fix.bind Fix.offset fun o => Fix.bind Fix.idle fun _ => Fix.pure _
theorem Fix.stack : Fix stackM := Fix.bind (Fix.fetch 1) fun o => Fix.bind Fix.idle fun _ => Fix.bind Fix.get fun r => Fix.pure _
theorem Fix.page (n : Nat) : Fix (pageM n) := fun _ => ⟨rfl, rfl⟩
theorem Fix.data (n : Nat) : Fix (dataM n) := fun _ => ⟨rfl, rfl⟩
theorem Fix.indexed (a x u : Nat) : Fix (indexedM a x u) := Fix.bind Fix.get fun r => Fix.bind (Fix.ite Fix.idle (Fix.pure ())) fun _ => Fix.pure _
/-- A walker between its calls: what points to it (x), the place to be answered (t). -/
structure At (W0 : World) (B b x t X Y : Nat) (w : World) (s : Ws) (W : World) : Prop where
  wk : Wk W0 B b s W
  bt : Whole W t 194 #[.int .u32 0, .bool false]
  kp : Keeps b w W
  hX : s.r.X = X
  hY : s.r.Y = Y
  ht : t ≠ b ∧ B ≤ t ∧ w.heap.size ≤ t
section
variable {W0 w W W' : World} {B b x t X Y : Nat} {s s' : Ws}
theorem At.below (h : At W0 B b x t X Y w s W) (hb : Below W.heap.size W W') : At W0 B b x t X Y w s W' := ⟨h.wk.below hb, h.bt.below hb h.bt.lt, h.kp.trans (Keeps.below hb), h.hX, h.hY, h.ht⟩
theorem At.drew (h : At W0 B b x t X Y w s W) : At W0 B b x t X Y w s W.drew := h.below (Below.drew (Below.refl _ _))
theorem At.drewN (h : At W0 B b x t X Y w s W) (q : Nat) : At W0 B b x t X Y w s (W.drewN q) := h.below (below_drewN (Below.refl _ _) q)
theorem At.step (h : At W0 B b x t X Y w s W) (h1 : Wk W0 B b s' W') (h2 : Keeps b W W') (h3 : s'.r.X = s.r.X ∧ s'.r.Y = s.r.Y) : At W0 B b x t X Y w s' W' :=
  ⟨h1, h2 _ _ _ h.ht.1 (by decide) h.bt, h.kp.trans h2, h3.1.trans h.hX, h3.2.trans h.hY, h.ht⟩
theorem At.loads (h : At W0 B b x t X Y w s W) : W.cell? ⟨b, 1, none⟩ = some (.int .u16 X) ∧ W.cell? ⟨b, 2, none⟩ = some (.int .u16 Y) := by
  obtain ⟨a, c, lv, h1, _⟩ := h.wk.cells
  rw [h1.cell, h1.cell, ← h.hX, ← h.hY]
  exact ⟨rfl, rfl⟩
theorem At.stored (h : At W0 B b x t X Y w s W) (u v : Value) : ((W.setCell ⟨t, 0, none⟩ u).setCell ⟨t, 1, none⟩ v).cell? ⟨b, 1, none⟩ = some (.int .u16 X) ∧ ((W.setCell ⟨t, 0, none⟩ u).setCell ⟨t, 1, none⟩ v).cell? ⟨b, 2, none⟩ = some (.int .u16 Y) := by
  obtain ⟨h2, h3⟩ := h.loads
  obtain ⟨t1, _⟩ := h.ht
  have key : ∀ y, y ≠ t → ((W.setCell ⟨t, 0, none⟩ u).setCell ⟨t, 1, none⟩ v).heap[y]? = W.heap[y]? := fun y hy => (Below.heap_setCell _ _ _ _ hy).trans (Below.heap_setCell _ _ _ _ hy)
  exact ⟨(World.cell?_of_block (key b (fun e => t1 e.symm))).trans h2, (World.cell?_of_block (key b (fun e => t1 e.symm))).trans h3⟩
theorem At.tgt (h : At W0 B b x t X Y w s W) : (W.cell? ⟨t, 0, none⟩ = some (.int .u32 0) ∧ W.cell? ⟨t, 1, none⟩ = some (.bool false)) ∧ W.frozen? ⟨t, 0, none⟩ = false ∧ W.frozen? ⟨t, 1, none⟩ = false := by
  rw [h.bt.cell, h.bt.cell]
  exact ⟨⟨rfl, rfl⟩, h.bt.free 0, h.bt.free 1⟩
theorem At.fin (h : At W0 B b x t X Y w s W) (v : Nat) (bk : Bool) : Whole ((W.setCell ⟨t, 0, none⟩ (.int .u32 v)).setCell ⟨t, 1, none⟩ (.bool bk)) t 194 #[.int .u32 v, .bool bk] ∧
    Wk W0 B b s ((W.setCell ⟨t, 0, none⟩ (.int .u32 v)).setCell ⟨t, 1, none⟩ (.bool bk)) ∧ Keeps b w ((W.setCell ⟨t, 0, none⟩ (.int .u32 v)).setCell ⟨t, 1, none⟩ (.bool bk)) :=
  ⟨(h.bt.put 0 (.int .u32 v)).put 1 (.bool bk), place_end h.wk h.bt h.kp h.ht.1 h.ht.2.1 h.ht.2.2⟩
/-! Each call, between. -/
theorem At.offset (h : At W0 B b x t X Y w s W) (hl : s.l.length ≤ 98) : Calls Tryz.prog 281 #[.pointer (some ⟨b, 0, none⟩)] W fun e w' => e = .returned (.int .u32 ((offsetM s).1 : Nat)) ∧ At W0 B b x t X Y w (offsetM s).2 w' :=
  (offset_any h.wk hl).mono fun e w' ⟨he, h1, h2, _⟩ => ⟨he, h.step h1 h2 (Fix.offset s)⟩
theorem At.offsetBy (h : At W0 B b x t X Y w s W) (hl : s.l.length ≤ 97) (z : Nat) (hz : z < 65536) : Calls Tryz.prog 282 #[.pointer (some ⟨b, 0, none⟩), .int .u16 (z : Nat)] W fun e w' => e = .returned (.int .u32 ((offsetByM z s).1 : Nat)) ∧ At W0 B b x t X Y w (offsetByM z s).2 w' :=
  (offsetBy_any h.wk hl hz).mono fun e w' ⟨he, h1, h2, _⟩ => ⟨he, h.step h1 h2 (Fix.offsetBy z s)⟩
theorem At.fetch (h : At W0 B b x t X Y w s W) (m : Nat) (z : Int) (hz : z = (m : Int)) (hm : m ≤ 3) (hl : s.l.length + m ≤ 100) : Calls Tryz.prog 59 #[.pointer (some ⟨b, 0, none⟩), .int .u32 z] W fun e w' => e = .returned (.int .u32 ((fetchM m s).1 : Nat)) ∧ At W0 B b x t X Y w (fetchM m s).2 w' :=
  hz ▸ (fetch_any h.wk hm hl).mono fun e w' ⟨he, h1, h2, _⟩ => ⟨he, h.step h1 h2 (Fix.fetch m s)⟩
theorem At.stack (h : At W0 B b x t X Y w s W) (hl : s.l.length ≤ 97) : Calls Tryz.prog 288 #[.pointer (some ⟨b, 0, none⟩)] W fun e w' => e = .returned (.int .u32 ((stackM s).1 : Nat)) ∧ At W0 B b x t X Y w (stackM s).2 w' :=
  (stack_any h.wk hl).mono fun e w' ⟨he, h1, h2, _⟩ => ⟨he, h.step h1 h2 (Fix.stack s)⟩
theorem At.idle (h : At W0 B b x t X Y w s W) (hl : s.l.length ≤ 100) : Calls Tryz.prog 117 #[.pointer (some ⟨b, 0, none⟩)] W fun e w' => e = .returned (.tuple #[]) ∧ At W0 B b x t X Y w (idleM s).2 w' :=
  (idle_any h.wk hl).mono fun e w' ⟨he, h1, h2⟩ => ⟨he, h.step h1 h2 (Fix.idle s)⟩
theorem At.page (h : At W0 B b x t X Y w s W) (n : Nat) (hn : n < 4294967296) : Calls Tryz.prog 280 #[.pointer (some ⟨b, 0, none⟩), .int .u32 (n : Nat)] W fun e w' => e = .returned (plV (pageM n s).1.1 (pageM n s).1.2) ∧ At W0 B b x t X Y w (pageM n s).2 w' :=
  (page_any h.wk hn).mono fun e w' ⟨he, h1, h2⟩ => ⟨he, h.step h1 h2 (Fix.page n s)⟩
theorem At.data (h : At W0 B b x t X Y w s W) (n : Nat) (hn : n < 4294967296) : Calls Tryz.prog 284 #[.pointer (some ⟨b, 0, none⟩), .int .u32 (n : Nat)] W fun e w' => e = .returned (.int .u32 ((dataM n s).1 : Nat)) ∧ At W0 B b x t X Y w (dataM n s).2 w' :=
  (data_any h.wk hn).mono fun e w' ⟨he, h1, h2, _⟩ => ⟨he, h.step h1 h2 (Fix.data n s)⟩
theorem At.indexed (h : At W0 B b x t X Y w s W) (a z u : Nat) (hl : s.l.length ≤ 99) (ha : a < 16777216) (hz : z < 65536) (hu : u < 256) : Calls Tryz.prog 286 #[.pointer (some ⟨b, 0, none⟩), .int .u32 (a : Nat), .int .u16 (z : Nat), .int .u8 (u : Nat)] W fun e w' => e = .returned (.int .u32 ((indexedM a z u s).1 : Nat)) ∧ At W0 B b x t X Y w (indexedM a z u s).2 w' :=
  (indexed_any h.wk hl ha hz hu).mono fun e w' ⟨he, h1, h2, _⟩ => ⟨he, h.step h1 h2 (Fix.indexed a z u s)⟩
theorem At.across (h : At W0 B b x t X Y w s W) (a : Nat) (ha : a < 4294967296) : Calls Tryz.prog 283 #[.int .u32 (a : Nat)] W fun e w' => e = .returned (plV (a % 16777216) false) ∧ At W0 B b x t X Y w s w' :=
  (across_any a W ha).mono fun e w' ⟨he, hb⟩ => ⟨he, h.below hb⟩
theorem At.within (h : At W0 B b x t X Y w s W) (a : Nat) : Calls Tryz.prog 287 #[.int .u32 (a : Nat)] W fun e w' => e = .returned (plV a true) ∧ At W0 B b x t X Y w s w' :=
  (within_any a W).mono fun e w' ⟨he, hb⟩ => ⟨he, h.below hb⟩
end
/-! Bounds. -/
theorem fetch_lt {s : Ws} (h : ∀ i, i < s.n → s.f i < 256) (m : Nat) : True := trivial
theorem directw_any {W0 w : World} {B b n m : Nat} {s : Ws} (h : Wk W0 B b s w) (hm : m ≤ 3) (hl : s.l.length + m ≤ 100) (hn : n < 100000) :
    Calls Tryz.prog 285 #[.pointer (some ⟨b, 0, none⟩), .int .u32 (n : Nat), .int .u32 (m : Nat)] w fun e w' => e = .returned (.int .u32 ((directM n m s).1 : Nat)) ∧ Wk W0 B b (directM n m s).2 w' ∧ Keeps b w w' ∧ (directM n m s).1 < 256 ^ m := by
  have hmf := makeF
  have hW := (h.alloc (.cells #[.pointer (some ⟨b, 0, none⟩)] 260)).alloc (.cells #[.int .u32 (n : Nat)] 33)
  have hX := (Whole.fresh w 260 #[.pointer (some ⟨b, 0, none⟩)]).alloc (.cells #[.int .u32 (n : Nat)] 33)
  have hY := Whole.fresh (w.alloc (.cells #[.pointer (some ⟨b, 0, none⟩)] 260)) 33 #[.int .u32 (n : Nat)]
  rw [World.size_alloc] at hY
  have hK := ((Keeps.refl b w).alloc (.cells #[.pointer (some ⟨b, 0, none⟩)] 260)).alloc (.cells #[.int .u32 (n : Nat)] 33)
  have hne : w.heap.size ≠ b := by have := h.lt; omega
  have hne2 : w.heap.size + 1 ≠ b := by have := h.lt; omega
  have HN := number_any (k := 305) (F := direct1M n) (caps := #[.pointer (some ⟨w.heap.size, 0, none⟩), .pointer (some ⟨w.heap.size + 1, 0, none⟩)]) (Q := fun W => Whole W w.heap.size 260 #[.pointer (some ⟨b, 0, none⟩)] ∧ Whole W (w.heap.size + 1) 33 #[.int .u32 (n : Nat)]) hm
    (fun i s w hi hW q hl => direct1_any hW q.1 q.2 hl hn (by omega)) (fun w w' q k => ⟨k _ _ _ hne (by decide) q.1, k _ _ _ hne2 (by decide) q.2⟩) (fun i => (Good.bind (c := 0) (d := 1) Good.get fun r => Good.read _ : Good (direct1M n i) 1)) (enters_of Tryz.func305 (by kernel_rfl) rfl) hW ⟨hX, hY⟩ hl
  change Calls _ _ _ _ (fun e w' => e = .returned (.int .u32 ((directM n m s).1 : Nat)) ∧ Wk W0 B b (directM n m s).2 w' ∧ Keeps b _ w' ∧ (directM n m s).1 < 256 ^ m) at HN
  replace HN := Lib.hid HN
  replace hK := Lib.hid hK
  clear h hX hY hW hl hm
  go_enter Tryz.func285, Tryz.ntmps285
  go_wp2_with fail
  refine HN.out.mono ?_
  rintro e w' ⟨rfl, h1, h2, h3⟩
  clear HN
  go_wp2_with fail
  go_ret
  exact ⟨rfl, h1, hK.out.trans h2, h3⟩
theorem At.direct {W0 w W : World} {B b x t X Y : Nat} {s : Ws} (h : At W0 B b x t X Y w s W) (n m : Nat) (z : Int) (hz : z = (m : Int)) (hn : n < 100000) (hm : m ≤ 3) (hl : s.l.length + m ≤ 100) : Calls Tryz.prog 285 #[.pointer (some ⟨b, 0, none⟩), .int .u32 (n : Nat), .int .u32 z] W fun e w' => e = .returned (.int .u32 ((directM n m s).1 : Nat)) ∧ At W0 B b x t X Y w (directM n m s).2 w' :=
  hz ▸ (directw_any h.wk hm hl hn).mono fun e w' ⟨he, h1, h2, _⟩ => ⟨he, h.step h1 h2 (Fix.direct n m s)⟩
theorem sum_facts {n i z : Nat} (h : n + i = z) (hn : n < 100000) (hi : i < 3) : (n : Int) + (i : Int) = (z : Int) ∧ (z : Int) % 4294967296 = (z : Int) ∧ IntKind.u32.wrap (z : Int) = (z : Int) ∧ IntKind.u32.wrap ((n : Int) + (i : Int)) = (z : Int) ∧ z < 4294967296 := by
  simp only [IntKind.wrap_u32]
  omega
theorem stack1_any {W0 w : World} {B b x z0 y n i : Nat} {s : Ws} (h : Wk W0 B b s w) (q : Whole w x 151 #[.pointer (some ⟨b, 0, none⟩)]) (q1 : Whole w z0 5 #[.int .u8 0]) (q2 : Whole w y 33 #[.int .u32 (n : Nat)]) (hl : s.l.length ≤ 100) (hn : n < 100000) (hi : i < 3) :
    Calls Tryz.prog 227 #[.int .u32 (i : Nat), .pointer (some ⟨x, 0, none⟩), .pointer (some ⟨z0, 0, none⟩), .pointer (some ⟨y, 0, none⟩)] w fun e w' => e = .returned (.int .u8 ((stack1M n i s).1 : Nat)) ∧ Wk W0 B b (stack1M n i s).2 w' ∧ Keeps b w w' ∧ (stack1M n i s).1 < 256 := by
  have hd : Keeps b w w.drew := Keeps.below (Below.drew (Below.refl _ _))
  have d0 := q.drew.cell 0
  have d1 := q2.drew.cell 0
  have d2 := q1.drew.cell 0
  simp only [List.getElem?_toArray, List.getElem?_cons_zero] at d0 d1 d2
  obtain ⟨v, hv⟩ : ∃ v, (n + i) % 65536 = v := ⟨_, rfl⟩
  have HR := read_any v h.drew hl (by omega)
  rw [show stack1M n i s = readM ((n + i) % 65536) s from rfl, hv]
  obtain ⟨z, hz⟩ : ∃ z, n + i = z := ⟨_, rfl⟩
  have hv2 : 0 * 65536 + z % 65536 = v := by rw [Nat.zero_mul, Nat.zero_add, ← hz, hv]
  have HA := fun W => address_v (b := 0) (n := z) (v := v) (x := ((0 : Nat) : Int)) (z := (z : Nat)) W rfl rfl (by omega) (sum_facts hz hn hi).2.2.2.2 hv2
  obtain ⟨e1, e2, e3, e4, e5⟩ := sum_facts hz hn hi
  generalize readM v s = p1 at *
  obtain ⟨y, s1⟩ := p1
  dsimp only at *
  replace HR := Lib.hid HR
  replace HA := Lib.hid HA
  replace hd := Lib.hid hd
  replace e5 := Lib.hid e5
  clear h q q1 q2 hl hn hi hv hz hv2
  go_enter Tryz.func227, Tryz.ntmps227
  go_upto_region 1 with (fail)
  refine wp_region_still_tail 6 (by kernel_rfl) (by kernel_rfl) ?_
  simp only [List.take_succ_cons, List.take_zero, List.drop_succ_cons, List.drop_zero]
  repeat still_step
  still_call ((HA.out _).mono (by rintro e w' ⟨rfl, rfl⟩; exact ⟨rfl, rfl⟩))
  refine wpStill_nil ?_
  show wpList _ _ _ _ _ w.drew
  generalize w.drew = W1 at *
  clear HA
  go_wp2_with fail
  refine HR.out.mono ?_
  rintro e w1 ⟨rfl, h1, h2, h3⟩
  go_wp2_with fail
  go_ret
  exact ⟨rfl, h1, hd.out.trans h2, h3⟩
end Go.Proofs.YtnacdaodjgdnnaaGreat
namespace Go.Proofs.YtnacdaodjgdnnaaGreat
open Go.RowKit Go.Shelf
set_option maxRecDepth 100000
set_option maxHeartbeats 1000000
set_option linter.unusedVariables false

structure Byt (s : Ws) : Prop where
  ok : s.r.Ok
  b : ∀ i, i < s.n → s.f i < 256
theorem Wk.byt {W0 w : World} {B b : Nat} {s : Ws} (h : Wk W0 B b s w) : Byt s := ⟨h.ok, let ⟨_, _, _, _, _, hR, _⟩ := h.cells; hR.1⟩
def Bnd (F : M Nat) (n : Nat) : Prop := ∀ s, Byt s → (F s).1 < n ∧ Byt (F s).2
theorem idle_b {s : Ws} (h : Byt s) : Byt (idleM s).2 := by
  unfold idleM Ws.put
  dsimp only
  split
  · exact h
  · exact ⟨h.ok, h.b⟩
theorem inc_b {s : Ws} (h : Byt s) : Byt (incM s).2 := ⟨⟨h.ok.A, h.ok.X, h.ok.Y, h.ok.S, h.ok.D, Nat.mod_lt _ (by decide), h.ok.B, h.ok.K, h.ok.P⟩, h.b⟩
theorem put_b {s : Ws} (k a : Nat) (h : Byt s) : Byt (s.put k a) := by
  unfold Ws.put
  split
  · exact h
  · exact ⟨h.ok, h.b⟩
theorem read_b (a : Nat) : Bnd (readM a) 256 := fun s h => by
  unfold readM
  have h2 := put_b 1 (a % 16777216) h
  generalize s.put 1 (a % 16777216) = s1 at *
  unfold takeM
  split
  · exact ⟨show (0 : Nat) < 256 by decide, ⟨h2.ok, h2.b⟩⟩
  · exact ⟨h2.b 0 (by omega), ⟨h2.ok, fun i hi => h2.b (i + 1) (by have hi : i < s1.n - 1 := hi; omega)⟩⟩
theorem num_b {F : Nat → M Nat} (h : ∀ k, Bnd (F k) 256) : ∀ m, Bnd (numM F m) (256 ^ m)
  | 0 => fun s hs => ⟨Nat.zero_lt_one, hs⟩
  | k + 1 => fun s hs => by
    obtain ⟨h1, h2⟩ := num_b h k s hs
    obtain ⟨h3, h4⟩ := h k _ h2
    exact ⟨step_lt h1 h3, h4⟩
theorem fetch1_b : Bnd fetch1M 256 := fun s h => by
  obtain ⟨h1, h2⟩ := read_b (s.r.K * 65536 + s.r.PC) s h
  exact ⟨h1, inc_b h2⟩
theorem fetch_b (m : Nat) : Bnd (fetchM m) (256 ^ m) := num_b (fun _ => fetch1_b) m
theorem direct_b (n m : Nat) : Bnd (directM n m) (256 ^ m) := num_b (fun i s h => read_b (directF s.r.D (n + i) s.r.E) s h) m
theorem stack1_b (n m : Nat) : Bnd (numM (stack1M n) m) (256 ^ m) := num_b (fun i => read_b ((n + i) % 65536)) m
theorem offset_b : Bnd offsetM 256 := fun s h => by
  obtain ⟨h1, h2⟩ := fetch_b 1 s h
  rw [offset_eq]
  refine ⟨h1, ?_⟩
  dsimp only
  split
  · exact h2
  · exact idle_b h2
theorem offsetBy_b {x : Nat} (hx : x < 65536) : Bnd (offsetByM x) 65792 := fun s h => by
  obtain ⟨h1, h2⟩ := offset_b s h
  exact ⟨by show (offsetM s).1 + x < 65792; omega, idle_b h2⟩
theorem stack_b : Bnd stackM 65792 := fun s h => by
  obtain ⟨h1, h2⟩ := fetch_b 1 s h
  have h3 := idle_b h2
  refine ⟨?_, h3⟩
  show (idleM (fetchM 1 s).2).2.r.S + (fetchM 1 s).1 < 65792
  have := h3.ok.S
  have h1 : (fetchM 1 s).1 < 256 := h1
  omega
theorem data_b (n : Nat) : Bnd (dataM n) 16777216 := fun s h => ⟨by show s.r.B * 65536 + n % 65536 < 16777216; have := h.ok.B; omega, h⟩
theorem indexed_b {a x : Nat} (u : Nat) (ha : a < 16777216) (hx : x < 65536) : Bnd (indexedM a x u) 16842752 := fun s h => by
  rw [indexed_eq]
  refine ⟨by show a + x < 16842752; omega, ?_⟩
  dsimp only
  split
  · exact idle_b h
  · exact h
theorem u32_sum {a x z : Nat} (h : a + x = z) (ha : a < 16777216) (hx : x < 65536) : IntKind.u32.wrap (x : Int) = (x : Int) ∧ (a : Int) + (x : Int) = (z : Int) ∧ (z : Int) % 4294967296 = (z : Int) ∧ IntKind.u32.wrap (z : Int) = (z : Int) ∧ z < 4294967296 := by
  simp only [IntKind.wrap_u32]
  omega
/-- The world in which an operand's walk begins. -/
theorem at_start {W0 w : World} {B b : Nat} {s : Ws} (h : Wk W0 B b s w) : At W0 B b (w.heap.size + 1) w.heap.size s.r.X s.r.Y w s (w.alloc (.cells #[.int .u32 0, .bool false] 194)) := by
  have hY := Whole.fresh w 194 #[.int .u32 0, .bool false]
  have := h.lt
  have := h.bel.size
  have := h.base
  exact ⟨h.alloc _, hY, (Keeps.refl b w).alloc _, rfl, rfl, by omega, by omega, by omega⟩
end Go.Proofs.YtnacdaodjgdnnaaGreat
