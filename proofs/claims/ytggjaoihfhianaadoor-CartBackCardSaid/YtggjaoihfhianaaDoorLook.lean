/-
  A card in a rom: what the code reads.
-/
import Derived.Test.YtggjaoihfhianaaDoorPlan
import Derived.Test.YtggjaoihfhianaaDoorLib
import Derived.Deep.RegionHeld3
import Derived.Laws.BytesArg
namespace Go.Proofs.YtggjaoihfhianaaDoor
open Go.RowKit Go.Shelf
set_option maxRecDepth 100000
set_option maxHeartbeats 1000000

theorem or_word (x y : Nat) (hx : x < 256) : x ||| (y * 256) = x + y * 256 := by
  have h := Nat.two_pow_add_eq_or_of_lt (i := 8) (b := x) hx y
  rw [Nat.or_comm, Nat.mul_comm y 256, show (256 : Nat) = 2 ^ 8 from rfl, ← h]
  omega
theorem w64 (z : Int) (h : 0 ≤ z ∧ z < 1000000000) : IntKind.i64.wrap z = z := by rw [IntKind.wrap_i64]; omega
theorem word_any (b o at_ n c x y : Nat) (w : World) (ha : at_ + 1 < n) (hn : n ≤ 8392704) (hx : x < 256) (hy : y < 256) (h0 : w.cell? ⟨b, o + at_, none⟩ = some (.int .u8 (x : Nat))) (h1 : w.cell? ⟨b, o + (at_ + 1), none⟩ = some (.int .u8 (y : Nat))) :
    Calls Tryd.prog 38 #[.slice (some ⟨b, o, none⟩) n c, .int .i64 at_] w fun e w' => e = .returned (.int .u16 (x + y * 256 : Nat)) ∧ ∃ q, w' = w.drewN q := by
  have a1 : at_ < n := by omega
  obtain ⟨k2, hk2⟩ : ∃ k2, at_ + 1 = k2 := ⟨_, rfl⟩
  have s1 : IntKind.i64.wrap ((at_ : Int) + 1) = (k2 : Nat) := by rw [IntKind.wrap_i64]; omega
  rw [hk2] at h1 ha
  clear hk2
  go_enter Tryd.func38, Tryd.ntmps38
  go_wp2_with fail
  go_quiet (fail)
  go_wp2_with fail
  go_ret
  refine ⟨?_, nq, rfl⟩
  have e1 : bits .or .u16 (IntKind.u16.wrap (x : Int)) (IntKind.u16.wrap (IntKind.u16.wrap (y : Int) * 256)) = (x + y * 256 : Nat) := by
    rw [IntKind.wrap_u16, IntKind.wrap_u16, IntKind.wrap_u16, show (x : Int) % 65536 = ((x : Nat) : Int) by omega, show (y : Int) % 65536 * 256 % 65536 = ((y * 256 : Nat) : Int) by omega, u16_or_nat x (y * 256) (by omega) (by omega), or_word x y hx]
  rw [← e1]
  rfl
theorem rword_any (b o at_ n c x y : Nat) (w : World) (ha : at_ + 1 < n) (hn : n ≤ 8392704) (hx : x < 256) (hy : y < 256) (h0 : w.cell? ⟨b, o + at_, none⟩ = some (.int .u8 (x : Nat))) (h1 : w.cell? ⟨b, o + (at_ + 1), none⟩ = some (.int .u8 (y : Nat))) :
    Calls Tryd.prog 27 #[.slice (some ⟨b, o, none⟩) n c, .int .i64 at_] w fun e w' => e = .returned (.int .u16 (x + y * 256 : Nat)) ∧ ∃ q, w' = w.drewN q := by
  have a1 : at_ < n := by omega
  obtain ⟨k2, hk2⟩ : ∃ k2, at_ + 1 = k2 := ⟨_, rfl⟩
  have s1 : IntKind.i64.wrap ((at_ : Int) + 1) = (k2 : Nat) := by rw [IntKind.wrap_i64]; omega
  rw [hk2] at h1 ha
  clear hk2
  go_enter Tryd.func27, Tryd.ntmps27
  go_wp2_with fail
  go_quiet (fail)
  go_wp2_with fail
  go_ret
  refine ⟨?_, nq, rfl⟩
  have e1 : (IntKind.u16.wrap (IntKind.i64.wrap (IntKind.i64.wrap (x : Int) + IntKind.i64.wrap (256 * IntKind.i64.wrap (y : Int))))) = (x + y * 256 : Nat) := by
    rw [w64 x (by omega), w64 y (by omega), w64 (256 * (y : Int)) (by omega), w64 ((x : Int) + 256 * y) (by omega), IntKind.wrap_u16]
    omega
  rw [← e1]
  rfl

/-- The string of the first n bytes. -/
def strN (f : Nat → Nat) (n : Nat) : ByteArray := strOfNums ((List.range n).map fun i => (f i : Int))
theorem conv_any (b o n c : Nat) (f : Nat → Nat) (w : World) (h : ∀ i, i < n → w.cell? ⟨b, o + i, none⟩ = some (.int .u8 (f i : Nat))) :
    (convert 25 9 (.slice (some ⟨b, o, none⟩) n c)).run Tryd.prog w = .ok (.string (strN f n)) w :=
  run_convert_bytes_arg w 25 5 Tryd.underlying25 Tryd.underlying5 b o n c _ (by simp) (fun i hi => by rw [h i hi]; simp [List.getD, hi]) 9 Tryd.underlying9
/-- How long a title is without the blanks at its end. -/
def trimN (f : Nat → Nat) : Nat → Nat
  | 0 => 0
  | k + 1 => if f k = 32 then trimN f k else k + 1
def titleS (f : Nat → Nat) : ByteArray := strN f (trimN f 21)
/-- A card. -/
def cardV (f : Nat → Nat) : Value := .agg #[.string (titleS f), .int .u8 (f 21 : Nat), .int .u8 (f 22 : Nat), .int .u8 (f 24 : Nat), .int .u16 (f 28 + f 29 * 256 : Nat), .int .u16 (f 30 + f 31 * 256 : Nat), .int .u16 (f 60 + f 61 * 256 : Nat)]
/-- The 64 bytes of a card. -/
def Card64 (w : World) (b o : Nat) (f : Nat → Nat) : Prop := ∀ i, i < 64 → w.cell? ⟨b, o + i, none⟩ = some (.int .u8 (f i : Nat))
def wordZ (f : Nat → Nat) (z : Int) : Int := (f z.toNat + f (z.toNat + 1) * 256 : Nat)
theorem wordZ_any (b o c : Nat) (f : Nat → Nat) (hb : ∀ i, i < 64 → f i < 256) (z : Int) (W : World) (hz : 0 ≤ z ∧ z < 63) (h : Card64 W b o f) :
    Calls Tryd.prog 38 #[.slice (some ⟨b, o, none⟩) 64 c, .int .i64 z] W fun e w' => e = .returned (.int .u16 (wordZ f z)) ∧ ∃ q, w' = W.drewN q := by
  obtain ⟨k, rfl⟩ := Int.eq_ofNat_of_zero_le hz.1
  exact word_any b o k 64 c (f k) (f (k + 1)) W (by omega) (by omega) (hb _ (by omega)) (hb _ (by omega)) (h k (by omega)) (h (k + 1) (by omega))
theorem Card64.drew {w : World} {b o : Nat} {f : Nat → Nat} (h : Card64 w b o f) : Card64 w.drew b o f := h
theorem Card64.drewN {w : World} {b o : Nat} {f : Nat → Nat} (h : Card64 w b o f) (q : Nat) : Card64 (w.drewN q) b o f := h
theorem Card64.away {w : World} {b o g i : Nat} {f : Nat → Nat} (h : Card64 w b o f) (hne : b ≠ g) (u : Value) : Card64 (w.setCell ⟨g, i, none⟩ u) b o f :=
  fun j hj => (World.cell?_of_block (Below.heap_setCell w ⟨g, i, none⟩ u b hne)).trans (h j hj)
theorem keep4 {W : World} {b o c : Nat} {f : Nat → Nat} (h : Card64 W b o f) : W.cell? ⟨b, o + 21, none⟩ = some (.int .u8 (f 21 : Nat)) ∧ W.cell? ⟨b, o + 22, none⟩ = some (.int .u8 (f 22 : Nat)) ∧ W.cell? ⟨b, o + 24, none⟩ = some (.int .u8 (f 24 : Nat)) ∧ (convert 25 9 (.slice (some ⟨b, o, none⟩) 21 c)).run Tryd.prog W = .ok (.string (strN f 21)) W :=
  ⟨h 21 (by decide), h 22 (by decide), h 24 (by decide), conv_any b o 21 c f W (fun i hi => h i (by omega))⟩
theorem strN_list (f : Nat → Nat) (n : Nat) : (strN f n).data.toList = (List.range n).map fun i => UInt8.ofNat (f i) := by
  simp [strN, strOfNums]
theorem trim_snoc (l : List UInt8) (x c : UInt8) : Lib.trimRightB (l ++ [x]) c = if x == c then Lib.trimRightB l c else l ++ [x] := by
  unfold Lib.trimRightB
  rw [List.reverse_append, List.reverse_singleton, List.singleton_append, List.dropWhile_cons]
  split <;> simp
theorem byte_eq (x : Nat) (hx : x < 256) : (UInt8.ofNat x == 32) = decide (x = 32) := by
  rw [Bool.eq_iff_iff, beq_iff_eq, decide_eq_true_eq, ← UInt8.toNat_inj]
  simp [Nat.mod_eq_of_lt hx]
theorem trim_list (f : Nat → Nat) : ∀ n, (∀ i, i < n → f i < 256) → Lib.trimRightB ((List.range n).map fun i => UInt8.ofNat (f i)) 32 = (List.range (trimN f n)).map fun i => UInt8.ofNat (f i)
  | 0, _ => rfl
  | n + 1, h => by
    rw [List.range_succ, List.map_append, List.map_singleton, trim_snoc, byte_eq _ (h n (by omega)), trimN]
    by_cases e : f n = 32
    · rw [if_pos e, decide_eq_true e, if_pos rfl]
      exact trim_list f n (fun i hi => h i (by omega))
    · rw [if_neg e, decide_eq_false e, if_neg (by decide), List.range_succ, List.map_append, List.map_singleton]
theorem trim_title (f : Nat → Nat) (h : ∀ i, i < 64 → f i < 256) : (⟨(Lib.trimRightB (strN f 21).data.toList 32).toArray⟩ : ByteArray) = titleS f := by
  rw [strN_list, trim_list f 21 (fun i hi => h i (by omega)), ← strN_list]
  rfl
theorem cardOf_any (b o c : Nat) (f : Nat → Nat) (w : World) (hcap : 64 ≤ c) (h : Card64 w b o f) (hb : ∀ i, i < 64 → f i < 256) (hlt : b < w.heap.size) :
    Calls Tryd.prog 30 #[.slice (some ⟨b, o, none⟩) 64 c] w fun e w' => e = .returned (cardV f) ∧ Below w.heap.size w w' := by
  have HT := Lib.hid (fun W => Tryd.strings_TrimRight_one (strN f 21) 32 (by decide) W (by simp [strN, strOfNums, ByteArray.size]))
  have HW := Lib.hid (wordZ_any b o c f hb)
  have hcv : ∀ W, Card64 W b o f → (convert 25 9 (.slice (some ⟨b, o, none⟩) 21 c)).run Tryd.prog W = .ok (.string (strN f 21)) W := fun W hW => conv_any b o 21 c f W (fun i hi => hW i (by omega))
  go_enter Tryd.func30, Tryd.ntmps30
  go_wp2_with fail
  have hC : Card64 (w.alloc (Obj.cells #[Value.string { data := #[] }, Value.int IntKind.u8 0, Value.int IntKind.u8 0, Value.int IntKind.u8 0, Value.int IntKind.u16 0, Value.int IntKind.u16 0, Value.int IntKind.u16 0] 39)) b o f :=
    fun i hi => (((Below.refl _ w).alloc (Nat.le_refl _) _).cell (p := ⟨b, o + i, none⟩) hlt).trans (h i hi)
  have hB0 : Below w.heap.size w (w.alloc (Obj.cells #[Value.string { data := #[] }, Value.int IntKind.u8 0, Value.int IntKind.u8 0, Value.int IntKind.u8 0, Value.int IntKind.u16 0, Value.int IntKind.u16 0, Value.int IntKind.u16 0] 39)) := (Below.refl _ w).alloc (Nat.le_refl _) _
  have hX := Whole.fresh w 39 #[Value.string { data := #[] }, Value.int IntKind.u8 0, Value.int IntKind.u8 0, Value.int IntKind.u8 0, Value.int IntKind.u16 0, Value.int IntKind.u16 0, Value.int IntKind.u16 0]
  generalize (w.alloc (Obj.cells #[Value.string { data := #[] }, Value.int IntKind.u8 0, Value.int IntKind.u8 0, Value.int IntKind.u8 0, Value.int IntKind.u16 0, Value.int IntKind.u16 0, Value.int IntKind.u16 0] 39)) = W0 at hC hB0 hX ⊢
  have x21 := hC 21 (by decide)
  have x22 := hC 22 (by decide)
  have x24 := hC 24 (by decide)
  have fx := hX.free
  have y0 := hX.cell 0
  have y1 := hX.cell 1
  have y2 := hX.cell 2
  have y3 := hX.cell 3
  have y4 := hX.cell 4
  have y5 := hX.cell 5
  have y6 := hX.cell 6
  have HC := Lib.hid hC
  clear hcv
  have hne : b ≠ w.heap.size := by omega
  have k1 : (21 : Int) ≤ (c : Int) := by omega
  have k2 : (64 : Int) ≤ (c : Int) := by omega
  clear hC h
  go_region_held3 (fun W => W.cell? ⟨b, o + 21, none⟩ = some (.int .u8 (f 21 : Nat)) ∧ W.cell? ⟨b, o + 22, none⟩ = some (.int .u8 (f 22 : Nat)) ∧ W.cell? ⟨b, o + 24, none⟩ = some (.int .u8 (f 24 : Nat)) ∧ (convert 25 9 (.slice (some ⟨b, o, none⟩) 21 c)).run Tryd.prog W = .ok (.string (strN f 21)) W)
    (first | (refine keep4 ?_; (repeat' (first | (with_reducible exact HC.out) | (with_reducible refine Card64.drew ?_) | (with_reducible refine Card64.drewN ?_ _) | (with_reducible refine Card64.away ?_ hne _))); done) | go_keep)
    (first
      | (go_at_call 37; refine (HT.out _).mono ?_; rintro e W1 ⟨rfl, rfl⟩)
      | (go_at_call 38; refine (HW.out _ _ ?_ ?_).mono ?_; exact ⟨by decide, by decide⟩; (repeat' (first | (with_reducible exact HC.out) | (with_reducible refine Card64.drew ?_) | (with_reducible refine Card64.drewN ?_ _))); rintro e W1 ⟨rfl, q1, rfl⟩))
  go_wp2_with fail
  refine bodyPost_ret (results_cell_row (fn := Tryd.f30) (p := 2) (ty := 39) rfl _ _ _ _ _ (0, 0) _ ?_ ((((((((hX.drewN _).put 0 _).put 1 _).put 2 _).put 3 _).put 4 _).put 5 _).put 6 _) Tryd.underlying39 rfl ?_) ?_ ⟨?_, ?_⟩
  · rfl
  · kernel_rfl
  · rfl
  · rw [trim_title f hb]
    rfl
  · exact ((((((((below_drewN hB0 _).setCell (p := ⟨w.heap.size, 0, none⟩) (Nat.le_refl _) _).setCell (p := ⟨w.heap.size, 1, none⟩) (Nat.le_refl _) _).setCell (p := ⟨w.heap.size, 2, none⟩) (Nat.le_refl _) _).setCell (p := ⟨w.heap.size, 3, none⟩) (Nat.le_refl _) _).setCell (p := ⟨w.heap.size, 4, none⟩) (Nat.le_refl _) _).setCell (p := ⟨w.heap.size, 5, none⟩) (Nat.le_refl _) _).setCell (p := ⟨w.heap.size, 6, none⟩) (Nat.le_refl _) _)
end Go.Proofs.YtggjaoihfhianaaDoor
