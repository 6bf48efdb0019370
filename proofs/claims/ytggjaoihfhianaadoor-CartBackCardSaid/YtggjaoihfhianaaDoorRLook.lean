/-
  Look, by the document.
-/
import Derived.Test.YtggjaoihfhianaaDoorLooks
namespace Go.Proofs.YtggjaoihfhianaaDoor
open Go.RowKit Go.Shelf
set_option maxRecDepth 100000
set_option maxHeartbeats 1000000

/-- The n bytes of a rom. -/
def RomC (w : World) (b o n : Nat) (f : Nat → Nat) : Prop := ∀ i, i < n → w.cell? ⟨b, o + i, none⟩ = some (.int .u8 (f i : Nat))
theorem RomC.drew {w : World} {b o n : Nat} {f : Nat → Nat} (h : RomC w b o n f) : RomC w.drew b o n f := h
theorem RomC.drewN {w : World} {b o n : Nat} {f : Nat → Nat} (h : RomC w b o n f) (q : Nat) : RomC (w.drewN q) b o n f := h
theorem RomC.away {w : World} {b o n g i : Nat} {f : Nat → Nat} (h : RomC w b o n f) (hne : b ≠ g) (u : Value) : RomC (w.setCell ⟨g, i, none⟩ u) b o n f :=
  fun j hj => (World.cell?_of_block (Below.heap_setCell w ⟨g, i, none⟩ u b hne)).trans (h j hj)
theorem rwordZ_any (b o n c : Nat) (f : Nat → Nat) (hn : n ≤ 8392704) (hb : ∀ i, i < n → f i < 256) (z : Int) (W : World) (hz : 0 ≤ z ∧ z + 1 < n) (h : RomC W b o n f) :
    Calls Tryd.prog 27 #[.slice (some ⟨b, o, none⟩) n c, .int .i64 z] W fun e w' => e = .returned (.int .u16 (wordZ f z)) ∧ ∃ q, w' = W.drewN q := by
  obtain ⟨k, rfl⟩ := Int.eq_ofNat_of_zero_le hz.1
  exact rword_any b o k n c (f k) (f (k + 1)) W (by omega) (by omega) (hb _ (by omega)) (hb _ (by omega)) (h k (by omega)) (h (k + 1) (by omega))
theorem trimN_le (f : Nat → Nat) : ∀ n, trimN f n ≤ n
  | 0 => Nat.le_refl _
  | n + 1 => by
    rw [trimN]
    split
    · exact Nat.le_succ_of_le (trimN_le f n)
    · exact Nat.le_refl _
theorem final_card (f : Nat → Nat) (P k E p21 p22 p24 p28 p30 p60 : Nat) (hN : trimN (at' f P) 21 = k) (hE : E - P = k) (e21 : P + 21 = p21) (e22 : P + 22 = p22) (e24 : P + 24 = p24) (e28 : P + 28 = p28) (e30 : P + 30 = p30) (e60 : P + 60 = p60) :
    Ending.returned (.tuple #[.agg #[.string (strN (at' f P) (E - P)), .int .u8 (f p21 : Nat), .int .u8 (f p22 : Nat), .int .u8 (f p24 : Nat), .int .u16 (wordZ f (p28 : Nat)), .int .u16 (wordZ f (p30 : Nat)), .int .u16 (wordZ f (p60 : Nat))], .int .i64 0]) = .returned (.tuple #[cardV (at' f P), .int .i64 0]) := by
  subst e21 e22 e24 e28 e30 e60
  rw [hE, ← hN]
  rfl
theorem sum_names (P k n : Nat) (z : Int) (hz : z = (k : Nat)) (hP : P ≤ 4259776) (hk : k + 1 < 64) (hn : P + 64 ≤ n) : ∃ p : Nat, Hid (P + k = p) ∧ IntKind.i64.wrap ((P : Int) + z) = (p : Nat) ∧ p < n ∧ (p : Int) < n ∧ (p : Int) + 1 < n :=
  ⟨P + k, Lib.hid rfl, by rw [w64 _ (by omega)]; omega, by omega, by omega, by omega⟩
theorem trimN_pos (f : Nat → Nat) (k : Nat) (h : 0 < k) : trimN f k = if f (k - 1) = 32 then trimN f (k - 1) else k := by
  obtain ⟨j, rfl⟩ : ∃ j, k = j + 1 := ⟨k - 1, by omega⟩
  rfl
theorem rkeep {W : World} {b o n N P c p21 p22 p24 : Nat} {f : Nat → Nat} (hn : P + 64 ≤ n) (hN : N ≤ 21) (h1 : p21 < n) (h2 : p22 < n) (h3 : p24 < n) (h : RomC W b o n f) : W.cell? ⟨b, o + p21, none⟩ = some (.int .u8 (f p21 : Nat)) ∧ W.cell? ⟨b, o + p22, none⟩ = some (.int .u8 (f p22 : Nat)) ∧ W.cell? ⟨b, o + p24, none⟩ = some (.int .u8 (f p24 : Nat)) ∧
    (convert 25 9 (.slice (some ⟨b, o + P, none⟩) N c)).run Tryd.prog W = .ok (.string (strN (at' f P) N)) W :=
  ⟨h _ (by omega), h _ (by omega), h _ (by omega), conv_any b (o + P) N c (at' f P) W (fun i hi => by rw [Nat.add_assoc]; exact h (P + i) (by omega))⟩
set_option maxHeartbeats 8000000 in
theorem rlookP_any (l P n cap b o : Nat) (f : Nat → Nat) (w : World) (hn : n ≤ 8392704) (hP : P ≤ 4259776) (HA : Hid (∀ W : World, Calls Tryd.prog 26 #[.int .u8 l] W fun e w' => e = .returned (.int .i64 (P : Nat)) ∧ w' = W)) (hn2 : P + 64 ≤ n) (hcap : n ≤ cap) (hbl : b < w.heap.size) (hb : ∀ i, i < n → f i < 256) (h : RomC w b o n f) :
    Calls Tryd.prog 14 #[.slice (some ⟨b, o, none⟩) n cap, .int .u8 l] w fun e w' => e = .returned (.tuple #[cardV (at' f P), .int .i64 0]) ∧ Below w.heap.size w w' := by
  obtain ⟨p21, E21, w21, b21, c21, d21⟩ := sum_names P 21 n 21 rfl hP (by decide) hn2
  obtain ⟨p22, E22, w22, b22, c22, d22⟩ := sum_names P 22 n 22 rfl hP (by decide) hn2
  obtain ⟨p24, E24, w24, b24, c24, d24⟩ := sum_names P 24 n 24 rfl hP (by decide) hn2
  obtain ⟨p28, E28, w28, b28, c28, d28⟩ := sum_names P 28 n 28 rfl hP (by decide) hn2
  obtain ⟨p30, E30, w30, b30, c30, d30⟩ := sum_names P 30 n 30 rfl hP (by decide) hn2
  obtain ⟨p60, E60, w60, b60, c60, d60⟩ := sum_names P 60 n 60 rfl hP (by decide) hn2
  have HW := Lib.hid (rwordZ_any b o n cap f hn hb)
  have hne : b ≠ w.heap.size := by omega
  go_enter Tryd.func14, Tryd.ntmps14
  go_wp2_with fail
  have hX := Whole.fresh w 39 #[Value.string { data := #[] }, Value.int IntKind.u8 0, Value.int IntKind.u8 0, Value.int IntKind.u8 0, Value.int IntKind.u16 0, Value.int IntKind.u16 0, Value.int IntKind.u16 0]
  have hB0 : Below w.heap.size w (w.alloc (Obj.cells #[Value.string { data := #[] }, Value.int IntKind.u8 0, Value.int IntKind.u8 0, Value.int IntKind.u8 0, Value.int IntKind.u16 0, Value.int IntKind.u16 0, Value.int IntKind.u16 0] 39)) := (Below.refl _ w).alloc (Nat.le_refl _) _
  generalize (w.alloc (Obj.cells #[Value.string { data := #[] }, Value.int IntKind.u8 0, Value.int IntKind.u8 0, Value.int IntKind.u8 0, Value.int IntKind.u16 0, Value.int IntKind.u16 0, Value.int IntKind.u16 0] 39)) = W0 at hX hB0 ⊢
  have hC : RomC W0 b o n f := fun i hi => (hB0.cell (p := ⟨b, o + i, none⟩) hbl).trans (h i hi)
  have HC := Lib.hid hC
  clear h hC
  refine (HA.out W0).mono ?_
  rintro e w1 ⟨rfl, rfl⟩
  have i0 : (P : Int) + 64 ≤ n := by omega
  go_wp2_with fail
  go_loop [7] (fun x => ∃ k : Nat, k ≤ 21 ∧ x = .int .i64 k ∧ Hid (trimN (at' f P) k = trimN (at' f P) 21)) (fun x => (intOf x).toNat)
  case atStart => exact ⟨21, by decide, rfl, Lib.hid rfl⟩
  case round =>
    obtain ⟨k, hk, rfl, hrel⟩ := hrel
    have i1 : (k : Int) ≤ 21 := by omega
    by_cases hgo : 0 < k ∧ at' f P (k - 1) = 32
    · obtain ⟨hk0, hk1⟩ := hgo
      obtain ⟨t, ht⟩ : ∃ t, P + (k - 1) = t := ⟨_, rfl⟩
      have s1 : (P : Int) + k - 1 = (t : Nat) := by omega
      have ck := HC.out t (by omega)
      have e32 : f t = 32 := by rw [← ht]; exact hk1
      have hst : trimN (at' f P) k = trimN (at' f P) (k - 1) := by
        rw [trimN_pos _ k hk0, if_pos hk1]
      have hnew := Lib.hid (hst.symm.trans hrel.out)
      rw [e32] at ck
      have htn : t < n := by omega
      clear hst hrel hk1 e32 ht
      go_wp2_with fail
      refine ⟨⟨k - 1, by omega, by congr 1; omega, hnew⟩, ?_⟩
      simp only [intOf]
      omega
    · have hN : trimN (at' f P) 21 = k := by
        rw [← hrel.out]
        rcases Nat.eq_zero_or_pos k with h0 | h0
        · rw [h0]; rfl
        · rw [trimN_pos _ k h0, if_neg (fun e => hgo ⟨h0, e⟩)]
      clear hrel
      by_cases hk0 : 0 < k
      · obtain ⟨t, ht⟩ : ∃ t, P + (k - 1) = t := ⟨_, rfl⟩
        have s1 : (P : Int) + k - 1 = (t : Nat) := by omega
        have ck := HC.out t (by omega)
        have e32 : ((f t : Nat) : Int) ≠ 32 := fun e => hgo ⟨hk0, by show f (P + (k - 1)) = 32; rw [ht]; omega⟩
        have b32 : (((f t : Nat) : Int) == 32) = false := beq_eq_false_iff_ne.2 e32
        have htn : t < n := by omega
        clear hgo ht e32
        go_wp2_with fail
        obtain ⟨E, hE⟩ : ∃ E, P + k = E := ⟨_, rfl⟩
        have s2 : (P : Int) + k = (E : Nat) := by omega
        have s3 : IntKind.i64.wrap ((P : Int) + k) = (E : Nat) := by rw [w64 _ (by clear s2 hE; omega), s2]
        have s4 : (P : Int) ≤ E := by omega
        have s5 : (E : Int) ≤ n := by omega
        have s6 : (n : Int) ≤ cap := by omega
        have s7 : (E : Int) ≤ cap := by omega
        have hEk : E - P = k := by omega
        clear s2
        have fx := hX.free
        have y0 := hX.cell 0
        have y1 := hX.cell 1
        have y2 := hX.cell 2
        have y3 := hX.cell 3
        have y4 := hX.cell 4
        have y5 := hX.cell 5
        have y6 := hX.cell 6
        have HE := Lib.hid hE
        have HN := Lib.hid hN
        have HEk := Lib.hid hEk
        clear hE hN hEk
        have hE21 : E - P ≤ 21 := by rw [HEk.out]; exact hk
        obtain ⟨x21, x22, x24, xcv⟩ := rkeep (c := cap - P) hn2 hE21 b21 b22 b24 HC.out
        clear HA
        have hcp : ¬ cap = P := by omega
        go_region_held3 (fun W => W.cell? ⟨b, o + p21, none⟩ = some (.int .u8 (f p21 : Nat)) ∧ W.cell? ⟨b, o + p22, none⟩ = some (.int .u8 (f p22 : Nat)) ∧ W.cell? ⟨b, o + p24, none⟩ = some (.int .u8 (f p24 : Nat)) ∧
            (convert 25 9 (.slice (some ⟨b, o + P, none⟩) (E - P) (cap - P))).run Tryd.prog W = .ok (.string (strN (at' f P) (E - P))) W)
          (first | (refine rkeep hn2 hE21 b21 b22 b24 ?_; (repeat' (first | (with_reducible exact HC.out) | (with_reducible refine RomC.drew ?_) | (with_reducible refine RomC.drewN ?_ _) | (with_reducible refine RomC.away ?_ hne _))); done) | go_keep)
          (first
            | (go_at_call 27; refine (HW.out _ _ ?_ ?_).mono ?_; exact ⟨Int.natCast_nonneg _, by assumption⟩; (repeat' (first | (with_reducible exact HC.out) | (with_reducible refine RomC.drew ?_) | (with_reducible refine RomC.drewN ?_ _))); rintro e W1 ⟨rfl, q1, rfl⟩))
        go_wp2_with fail
        refine bodyPost_ret (results_pair (fn := Tryd.f14) (p := 4) (u := 5) (ty := 39) rfl _ _ w.heap.size _ _ _ ?_ ((((((((hX.drewN _).put 0 _).put 1 _).put 2 _).put 3 _).put 4 _).put 5 _).put 6 _) Tryd.underlying39 rfl ?_) ?_ ⟨?_, ?_⟩
        · rfl
        · kernel_rfl
        · rfl
        · exact final_card f P k E p21 p22 p24 p28 p30 p60 HN.out HEk.out E21.out E22.out E24.out E28.out E30.out E60.out
        · exact ((((((((below_drewN hB0 _).setCell (p := ⟨w.heap.size, 0, none⟩) (Nat.le_refl _) _).setCell (p := ⟨w.heap.size, 1, none⟩) (Nat.le_refl _) _).setCell (p := ⟨w.heap.size, 2, none⟩) (Nat.le_refl _) _).setCell (p := ⟨w.heap.size, 3, none⟩) (Nat.le_refl _) _).setCell (p := ⟨w.heap.size, 4, none⟩) (Nat.le_refl _) _).setCell (p := ⟨w.heap.size, 5, none⟩) (Nat.le_refl _) _).setCell (p := ⟨w.heap.size, 6, none⟩) (Nat.le_refl _) _)
      · clear hgo
        go_wp2_with fail
        obtain ⟨E, hE⟩ : ∃ E, P + k = E := ⟨_, rfl⟩
        have s2 : (P : Int) + k = (E : Nat) := by omega
        have s3 : IntKind.i64.wrap ((P : Int) + k) = (E : Nat) := by rw [w64 _ (by clear s2 hE; omega), s2]
        have s4 : (P : Int) ≤ E := by omega
        have s5 : (E : Int) ≤ n := by omega
        have s6 : (n : Int) ≤ cap := by omega
        have s7 : (E : Int) ≤ cap := by omega
        have hEk : E - P = k := by omega
        clear s2
        have fx := hX.free
        have y0 := hX.cell 0
        have y1 := hX.cell 1
        have y2 := hX.cell 2
        have y3 := hX.cell 3
        have y4 := hX.cell 4
        have y5 := hX.cell 5
        have y6 := hX.cell 6
        have HE := Lib.hid hE
        have HN := Lib.hid hN
        have HEk := Lib.hid hEk
        clear hE hN hEk
        have hE21 : E - P ≤ 21 := by rw [HEk.out]; exact hk
        obtain ⟨x21, x22, x24, xcv⟩ := rkeep (c := cap - P) hn2 hE21 b21 b22 b24 HC.out
        clear HA
        have hcp : ¬ cap = P := by omega
        go_region_held3 (fun W => W.cell? ⟨b, o + p21, none⟩ = some (.int .u8 (f p21 : Nat)) ∧ W.cell? ⟨b, o + p22, none⟩ = some (.int .u8 (f p22 : Nat)) ∧ W.cell? ⟨b, o + p24, none⟩ = some (.int .u8 (f p24 : Nat)) ∧
            (convert 25 9 (.slice (some ⟨b, o + P, none⟩) (E - P) (cap - P))).run Tryd.prog W = .ok (.string (strN (at' f P) (E - P))) W)
          (first | (refine rkeep hn2 hE21 b21 b22 b24 ?_; (repeat' (first | (with_reducible exact HC.out) | (with_reducible refine RomC.drew ?_) | (with_reducible refine RomC.drewN ?_ _) | (with_reducible refine RomC.away ?_ hne _))); done) | go_keep)
          (first
            | (go_at_call 27; refine (HW.out _ _ ?_ ?_).mono ?_; exact ⟨Int.natCast_nonneg _, by assumption⟩; (repeat' (first | (with_reducible exact HC.out) | (with_reducible refine RomC.drew ?_) | (with_reducible refine RomC.drewN ?_ _))); rintro e W1 ⟨rfl, q1, rfl⟩))
        go_wp2_with fail
        refine bodyPost_ret (results_pair (fn := Tryd.f14) (p := 4) (u := 5) (ty := 39) rfl _ _ w.heap.size _ _ _ ?_ ((((((((hX.drewN _).put 0 _).put 1 _).put 2 _).put 3 _).put 4 _).put 5 _).put 6 _) Tryd.underlying39 rfl ?_) ?_ ⟨?_, ?_⟩
        · rfl
        · kernel_rfl
        · rfl
        · exact final_card f P k E p21 p22 p24 p28 p30 p60 HN.out HEk.out E21.out E22.out E24.out E28.out E30.out E60.out
        · exact ((((((((below_drewN hB0 _).setCell (p := ⟨w.heap.size, 0, none⟩) (Nat.le_refl _) _).setCell (p := ⟨w.heap.size, 1, none⟩) (Nat.le_refl _) _).setCell (p := ⟨w.heap.size, 2, none⟩) (Nat.le_refl _) _).setCell (p := ⟨w.heap.size, 3, none⟩) (Nat.le_refl _) _).setCell (p := ⟨w.heap.size, 4, none⟩) (Nat.le_refl _) _).setCell (p := ⟨w.heap.size, 5, none⟩) (Nat.le_refl _) _).setCell (p := ⟨w.heap.size, 6, none⟩) (Nat.le_refl _) _)
end Go.Proofs.YtggjaoihfhianaaDoor
