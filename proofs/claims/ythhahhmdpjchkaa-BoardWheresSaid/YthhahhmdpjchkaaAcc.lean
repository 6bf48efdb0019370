/-
  A board's calls: Read, Write, Ram.
-/
import Derived.Test.YthhahhmdpjchkaaDec
import Derived.Test.YthhahhmdpjchkaaClone
namespace Go.Proofs.Ythhahhmdpjchkaa
open Go.RowKit Go.Shelf
set_option maxRecDepth 100000
set_option maxHeartbeats 1000000

/-- What is read at a spot. -/
def readN (s : Nat × Nat) (f g : Nat → Nat) : Nat := if s.1 = 1 then f s.2 else if s.1 = 2 then g s.2 else 0
/-- The memory behind a write at a spot. -/
def wrote (s : Nat × Nat) (g : Nat → Nat) (x : Nat) : Nat → Nat := if s.1 = 2 then upd g s.2 x else g
theorem below_only {B : Nat} {a w w' : World} {M : Nat} (h : Below B a w) (k : w.grownBy w' (some M)) (hM : B ≤ M) (hB : B ≤ w.heap.size) : Below B a w' :=
  h.trans ⟨k.os, k.tape, k.output, k.size, fun i hi => k.block i (by omega) (fun e => by injection e with e; omega)⟩
theorem only_trans {a b c : World} {M : Nat} (h : a.grownBy b (some M)) (k : b.grownBy c (some M)) : a.grownBy c (some M) :=
  ⟨k.os.trans h.os, k.tape.trans h.tape, k.output.trans h.output, Nat.le_trans h.size k.size, fun i hi hne => (k.block i (Nat.lt_of_lt_of_le hi h.size) hne).trans (h.block i hi hne)⟩
theorem bytes_any {b R M X l n cap m : Nat} {f g : Nat → Nat} (k : Nat) (w : World) (h : Brd w b R M X l n cap m f g) :
    Calls Try.prog 28 #[.pointer (some ⟨b, 0, none⟩), .int .u8 k] w fun e w' => e = .returned (if k = 1 then .slice (some ⟨R, 0, none⟩) n cap else if k = 2 then .slice (some ⟨M, 0, none⟩) m m else .slice none 0 0) ∧ w' = w := by
  obtain ⟨d4, d5⟩ := h.slots
  clear h
  by_cases k1 : k = 1
  · subst k1
    go_enter Try.func28, Try.ntmps28
    go_wp2
    go_ret
    exact ⟨rfl, rfl⟩
  by_cases k2 : k = 2
  · subst k2
    go_enter Try.func28, Try.ntmps28
    go_wp2
    go_ret
    exact ⟨rfl, rfl⟩
  have t1 : ((k : Int) == 1) = false := by rw [beq_eq_false_iff_ne]; omega
  have t2 : ((k : Int) == 2) = false := by rw [beq_eq_false_iff_ne]; omega
  rw [if_neg k1, if_neg k2]
  clear k1 k2
  go_enter Try.func28, Try.ntmps28
  go_wp2
  go_ret
  exact ⟨rfl, rfl⟩
theorem ram_any {b R M X l n cap m : Nat} {f g : Nat → Nat} (w : World) (h : Brd w b R M X l n cap m f g) :
    Calls Try.prog 16 #[.pointer (some ⟨b, 0, none⟩)] w fun e w' => ∃ G c, e = .returned (.slice (some ⟨G, 0, none⟩) m c) ∧ m ≤ c ∧ Holds w' G m g ∧ w.heap.size ≤ G ∧ Below w.heap.size w w' := by
  have H1 := Lib.hid (bytes_any 2 w h)
  have H2 := Lib.hid (clone_any M 0 m m g w h.ram.row (by have := h.m2; omega))
  clear h
  go_enter Try.func16, Try.ntmps16
  go_wp2_with (first | (go_at_call 28; refine H1.out.mono ?_; rintro e w1 ⟨rfl, rfl⟩) | (go_at_call 29; refine H2.out.mono ?_; rintro e w1 ⟨G, c, rfl, q1, q2, q3, q4⟩))
  go_ret
  exact ⟨G, c, rfl, q1, q2, q3, q4⟩
theorem read_any {b R M X l n cap m : Nat} {f g : Nat → Nat} (a : Nat) (w : World) (h : Brd w b R M X l n cap m f g) (ha : a < 4294967296) :
    Calls Try.prog 14 #[.pointer (some ⟨b, 0, none⟩), .int .u32 a] w fun e w' => e = .returned (.tuple #[.int .u8 (readN (spot l n m a) f g : Nat), .bool (decide ((spot l n m a).1 ≠ 0))]) ∧ Below w.heap.size w w' := by
  have HD := decode_any a w h ha
  have HS1 := spot_rom l n m a h.n1 (by have := h.n2; omega)
  have HS2 := spot_ram l n m a
  have HK := spot_kind l n m a
  generalize spot l n m a = s at *
  obtain ⟨K, A⟩ := s
  simp only [spotV] at *
  replace HD := Lib.hid HD
  have hlt := h.head.lt
  rcases HK with rfl | rfl | rfl
  · clear HS1 HS2
    have hv : readN (0, A) f g = 0 := rfl
    rw [hv]
    go_enter Try.func14, Try.ntmps14
    go_wp2_with (go_at_call 13; refine HD.out.mono ?_; rintro e w1 ⟨rfl, hB1⟩)
    go_ret2
    exact ⟨rfl, hB1.alloc hB1.size _⟩
  · have hA := HS1 rfl
    clear HS1 HS2
    have hA1 : (A : Int) < (n : Int) := by omega
    have hv : readN (1, A) f g = f A := rfl
    rw [hv]
    go_enter Try.func14, Try.ntmps14
    go_wp2_with (go_at_call 13; refine HD.out.mono ?_; rintro e w1 ⟨rfl, hB1⟩)
    have h2 := (h.below hB1).alloc (.cells #[.int .u8 1, .int .i64 A] 33)
    have hX := Whole.fresh w1 33 #[.int .u8 1, .int .i64 A]
    have hB2 := hB1.alloc hB1.size (.cells #[.int .u8 1, .int .i64 A] 33)
    have hbt := Lib.hid (fun W hW => bytes_any (g := g) (f := f) (b := b) (R := R) (M := M) (X := X) (l := l) (n := n) (cap := cap) (m := m) 1 W hW)
    obtain ⟨G, hG⟩ : ∃ G, w1.heap.size = G := ⟨_, rfl⟩
    generalize (w1.alloc (Obj.cells #[Value.int IntKind.u8 1, Value.int IntKind.i64 A] 33)) = W2 at *
    rw [hG] at hX ⊢
    have y0 := hX.cell 0
    have y1 := hX.cell 1
    simp only [List.getElem?_toArray, List.getElem?_cons_zero, List.getElem?_cons_succ] at y0 y1
    have yA := h2.rom.cell A hA
    have hb := h2.rom.byte A hA
    replace hA := Lib.hid hA
    replace h2 := Lib.hid h2
    obtain ⟨v, hv2⟩ : ∃ v, f A = v := ⟨_, rfl⟩
    rw [hv2] at yA hb
    replace hv2 := Lib.hid hv2
    clear hX h hB1 hG hlt hv HD
    go_region_held3 (fun W => W.cell? ⟨G, 0, none⟩ = some (.int .u8 1) ∧ W.cell? ⟨G, 1, none⟩ = some (.int .i64 A) ∧ W.cell? ⟨R, A, none⟩ = some (.int .u8 (v : Nat))) (go_keep)
      (first | (go_at_call 28; refine (hbt.out _ (by first | exact h2.out | exact h2.out.drew | exact h2.out.drewN _)).mono ?_; rintro e w' ⟨rfl, rfl⟩))
    go_wp2_with fail
    go_ret2
    exact ⟨by rw [hv2.out]; rfl, below_drewN hB2 _⟩
  · have hA := HS2 rfl
    clear HS1 HS2
    have hA1 : (A : Int) < (m : Int) := by omega
    have hv : readN (2, A) f g = g A := rfl
    rw [hv]
    go_enter Try.func14, Try.ntmps14
    go_wp2_with (go_at_call 13; refine HD.out.mono ?_; rintro e w1 ⟨rfl, hB1⟩)
    have h2 := (h.below hB1).alloc (.cells #[.int .u8 2, .int .i64 A] 33)
    have hX := Whole.fresh w1 33 #[.int .u8 2, .int .i64 A]
    have hB2 := hB1.alloc hB1.size (.cells #[.int .u8 2, .int .i64 A] 33)
    have hbt := Lib.hid (fun W hW => bytes_any (g := g) (f := f) (b := b) (R := R) (M := M) (X := X) (l := l) (n := n) (cap := cap) (m := m) 2 W hW)
    obtain ⟨G, hG⟩ : ∃ G, w1.heap.size = G := ⟨_, rfl⟩
    generalize (w1.alloc (Obj.cells #[Value.int IntKind.u8 2, Value.int IntKind.i64 A] 33)) = W2 at *
    rw [hG] at hX ⊢
    have y0 := hX.cell 0
    have y1 := hX.cell 1
    simp only [List.getElem?_toArray, List.getElem?_cons_zero, List.getElem?_cons_succ] at y0 y1
    have yA := h2.ram.cell A hA
    have hb := h2.ram.byte A hA
    replace hA := Lib.hid hA
    replace h2 := Lib.hid h2
    obtain ⟨v, hv2⟩ : ∃ v, g A = v := ⟨_, rfl⟩
    rw [hv2] at yA hb
    replace hv2 := Lib.hid hv2
    clear hX h hB1 hG hlt hv HD
    go_region_held3 (fun W => W.cell? ⟨G, 0, none⟩ = some (.int .u8 2) ∧ W.cell? ⟨G, 1, none⟩ = some (.int .i64 A) ∧ W.cell? ⟨M, A, none⟩ = some (.int .u8 (v : Nat))) (go_keep)
      (first | (go_at_call 28; refine (hbt.out _ (by first | exact h2.out | exact h2.out.drew | exact h2.out.drewN _)).mono ?_; rintro e w' ⟨rfl, rfl⟩))
    go_wp2_with fail
    go_ret2
    exact ⟨by rw [hv2.out]; rfl, below_drewN hB2 _⟩
theorem write_any {b R M X l n cap m : Nat} {f g : Nat → Nat} (a x : Nat) (w : World) (h : Brd w b R M X l n cap m f g) (ha : a < 4294967296) (hx : x < 256) :
    Calls Try.prog 15 #[.pointer (some ⟨b, 0, none⟩), .int .u32 a, .int .u8 x] w fun e w' => e = .returned (.bool (decide ((spot l n m a).1 ≠ 0))) ∧ Brd w' b R M X l n cap m f (wrote (spot l n m a) g x) ∧ w.grownBy w' (some M) := by
  have HD := decode_any a w h ha
  have HS2 := spot_ram l n m a
  have HK := spot_kind l n m a
  generalize spot l n m a = s at *
  obtain ⟨K, A⟩ := s
  simp only [spotV] at *
  replace HD := Lib.hid HD
  have hlt := h.head.lt
  rcases HK with rfl | rfl | rfl
  · clear HS2
    go_enter Try.func15, Try.ntmps15
    go_wp2_with (go_at_call 13; refine HD.out.mono ?_; rintro e w1 ⟨rfl, hB1⟩)
    go_ret
    exact ⟨rfl, (h.below hB1).alloc _, Below.only (hB1.alloc hB1.size _) M⟩
  · clear HS2
    go_enter Try.func15, Try.ntmps15
    go_wp2_with (go_at_call 13; refine HD.out.mono ?_; rintro e w1 ⟨rfl, hB1⟩)
    go_ret
    exact ⟨rfl, (h.below hB1).alloc _, Below.only (hB1.alloc hB1.size _) M⟩
  · have hA := HS2 rfl
    clear HS2
    have hA1 : (A : Int) < (m : Int) := by omega
    have hv : wrote (2, A) g x = upd g A x := rfl
    rw [hv]
    go_enter Try.func15, Try.ntmps15
    go_wp2_with (go_at_call 13; refine HD.out.mono ?_; rintro e w1 ⟨rfl, hB1⟩)
    have h2 := (h.below hB1).alloc (.cells #[.int .u8 2, .int .i64 A] 33)
    have hX := Whole.fresh w1 33 #[.int .u8 2, .int .i64 A]
    have hB2 := hB1.alloc hB1.size (.cells #[.int .u8 2, .int .i64 A] 33)
    have hMl := (h.below hB1).ram.lt
    obtain ⟨G, hG⟩ : ∃ G, w1.heap.size = G := ⟨_, rfl⟩
    have hne : G ≠ M := by omega
    generalize (w1.alloc (Obj.cells #[Value.int IntKind.u8 2, Value.int IntKind.i64 A] 33)) = W2 at *
    rw [hG] at hX ⊢
    have y0 := hX.cell 0
    have y1 := hX.cell 1
    simp only [List.getElem?_toArray, List.getElem?_cons_zero, List.getElem?_cons_succ] at y0 y1
    obtain ⟨_, y5⟩ := h2.slots
    have yA := h2.ram.cell A hA
    have yf := h2.ram.free A
    have hP := h2.drew.put A x hx
    have hO := only_set (Below.only hB2.drew M) A (.int .u8 (x : Nat))
    have y0' : W2.drew.cell? ⟨G, 0, none⟩ = some (.int .u8 2) := y0
    have y1' : W2.drew.cell? ⟨G, 1, none⟩ = some (.int .i64 A) := y1
    have y5' : W2.drew.cell? ⟨b, 5, none⟩ = some (.slice (some ⟨M, 0, none⟩) m m) := y5
    generalize g A = v at *
    have yA' : W2.drew.cell? ⟨M, A, none⟩ = some (.int .u8 (v : Nat)) := yA
    have yf' : W2.drew.frozen? ⟨M, A, none⟩ = false := yf
    clear h hB1 hG hlt hv HD hMl hX h2 hB2
    go_still_tail 8, (by kernel_rfl)
    show wpList _ _ _ _ _ W2.drew
    generalize W2.drew = W3 at *
    have z0 := (cell_away (w := W3) hne 0 A (.int .u8 (x : Nat))).trans y0'
    go_wp2_with fail
    go_ret
    exact ⟨rfl, hP, hO⟩
end Go.Proofs.Ythhahhmdpjchkaa
