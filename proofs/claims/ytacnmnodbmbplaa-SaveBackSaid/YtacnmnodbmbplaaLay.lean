/-
  A number laid into a row, its lowest byte first.
-/
import Derived.Test.YtacnmnodbmbplaaNum
import Derived.Deep.DeepCutAuto
namespace Go.Proofs.Ytacnmnodbmbplaa
open Go.RowKit Go.Shelf
set_option maxRecDepth 100000
set_option maxHeartbeats 1000000

/-- Byte i of a number. -/
def byteAt (v i : Nat) : Nat := v / 2 ^ (8 * i) % 256
theorem byteAt_lt (v i : Nat) : byteAt v i < 256 := Nat.mod_lt _ (by decide)
theorem byteAt_cast (v i : Nat) : (v : Int) / 2 ^ (8 * i) % 256 = ((byteAt v i : Nat) : Int) := by
  unfold byteAt
  rw [Int.natCast_emod, Int.natCast_ediv, Int.natCast_pow]
  rfl
theorem byteAt_one {v i : Nat} (hv : v < 256) (hi : i = 0) : (v : Int) / 2 ^ (8 * i) = ((byteAt v i : Nat) : Int) := by
  subst hi
  unfold byteAt
  rw [show 8 * 0 = 0 by rfl, Nat.pow_zero, Nat.div_one, Nat.mod_eq_of_lt hv]
  simp
/-- Block g: as it was in cs, but for the first k cells from o on, which hold the bytes of v. -/
structure Laid (w : World) (g o k v : Nat) (cs : Array Value) (W : World) : Prop where
  now : ∃ ds, Whole W g 5 ds ∧ ds.size = cs.size ∧ (∀ i, i < k → ds[o + i]? = some (.int .u8 (byteAt v i : Nat))) ∧ ∀ j, j < o ∨ o + k ≤ j → ds[j]? = cs[j]?
  only : w.grownBy W (some g)
theorem Laid.start {w : World} {g o v : Nat} {cs : Array Value} (h : Whole w g 5 cs) : Laid w g o 0 v cs w :=
  ⟨⟨cs, h, rfl, fun i hi => by omega, fun _ _ => rfl⟩, ⟨rfl, rfl, rfl, Nat.le_refl _, fun _ _ _ => rfl⟩⟩
theorem Laid.step {w W : World} {g o k v : Nat} {cs : Array Value} (h : Laid w g o k v cs W) (hk : o + k < cs.size) : Laid w g o (k + 1) v cs (W.setCell ⟨g, o + k, none⟩ (.int .u8 (byteAt v k : Nat))) := by
  obtain ⟨⟨ds, hw, hs, h1, h2⟩, ho⟩ := h
  refine ⟨⟨_, hw.put (o + k) _, by simp [hs], fun i hi => ?_, fun j hj => ?_⟩, ?_⟩
  · by_cases e : i = k
    · subst e
      rw [Array.getElem?_setIfInBounds_self_of_lt (by omega)]
    · rw [Array.getElem?_setIfInBounds_ne (by omega)]
      exact h1 i (by omega)
  · rw [Array.getElem?_setIfInBounds_ne (by omega)]
    exact h2 j (by omega)
  · exact ⟨ho.os, ho.tape, ho.output, by simp [World.setCell]; exact ho.size, fun j hj hne => (Below.heap_setCell _ _ _ _ (fun e => hne (by rw [e]))).trans (ho.block j hj hne)⟩
theorem Laid.cell {w W : World} {g o k v : Nat} {cs : Array Value} (h : Laid w g o k v cs W) (j : Nat) (hj : j < cs.size) : ∃ x, W.cell? ⟨g, j, none⟩ = some x ∧ W.frozen? ⟨g, j, none⟩ = false := by
  obtain ⟨⟨ds, hw, hs, _⟩, _⟩ := h
  exact ⟨ds[j]'(by omega), by rw [hw.cell]; exact Array.getElem?_eq_getElem (by omega), hw.free j⟩
theorem lay_uint8 (g o len c v : Nat) (cs : Array Value) (w : World) (h : Whole w g 5 cs) (hv : v < 256) (hl : 1 ≤ len) (ho : o + 1 ≤ cs.size) :
    Calls Try.prog 71 #[.slice (some ⟨g, o, none⟩) len c, .int .u8 v] w fun e w' => e = .returned (.tuple #[]) ∧ Laid w g o 1 v cs w' := by
  have hlen : (1 : Int) ≤ len := by omega
  have HV := Lib.hid hv
  have HO := Lib.hid ho
  clear hv ho hl
  go_enter Try.func71, Try.ntmps71
  go_wp2_with (go_at_call 85; refine (size_uint8 _).mono ?_; rintro e w' ⟨rfl, rfl⟩)
  go_loopw [6] (fun s6 wr => ∃ i : Nat, i ≤ 1 ∧ s6 = .int .i64 i ∧ Laid w g o i v cs wr) (fun s6 _ => 1 - (intOf s6).toNat)
  case atStart => exact ⟨0, Nat.zero_le _, rfl, Laid.start h⟩
  case round =>
    obtain ⟨i, hi, rfl, hL⟩ := hrel
    by_cases hlt : i < 1
    · obtain ⟨x, hx, hf⟩ := hL.cell (o + i) (by have := HO.out; omega)
      have hlt2 : (i : Int) < 1 := by omega
      have hil : (i : Int) < len := by omega
      clear h
      go_wp2_with fail
      go_roundw
      case rel => exact ⟨i + 1, by omega, by congr 1, by rw [byteAt_one HV.out (by omega)]; exact hL.step (by have := HO.out; omega)⟩
      case measure => simp [intOf]; omega
    · obtain rfl : i = 1 := by omega
      clear h
      go_wp2_with fail
      go_end0
      exact ⟨rfl, hL⟩
theorem lay_uint16 (g o len c v : Nat) (cs : Array Value) (w : World) (h : Whole w g 5 cs) (hv : v < 65536) (hl : 2 ≤ len) (ho : o + 2 ≤ cs.size) :
    Calls Try.prog 86 #[.slice (some ⟨g, o, none⟩) len c, .int .u16 v] w fun e w' => e = .returned (.tuple #[]) ∧ Laid w g o 2 v cs w' := by
  have hlen : (2 : Int) ≤ len := by omega
  have HV := Lib.hid hv
  have HO := Lib.hid ho
  clear hv ho hl
  go_enter Try.func86, Try.ntmps86
  go_wp2_with (go_at_call 87; refine (size_uint16 _).mono ?_; rintro e w' ⟨rfl, rfl⟩)
  go_loopw [6] (fun s6 wr => ∃ i : Nat, i ≤ 2 ∧ s6 = .int .i64 i ∧ Laid w g o i v cs wr) (fun s6 _ => 2 - (intOf s6).toNat)
  case atStart => exact ⟨0, Nat.zero_le _, rfl, Laid.start h⟩
  case round =>
    obtain ⟨i, hi, rfl, hL⟩ := hrel
    by_cases hlt : i < 2
    · obtain ⟨x, hx, hf⟩ := hL.cell (o + i) (by have := HO.out; omega)
      have hlt2 : (i : Int) < 2 := by omega
      have hil : (i : Int) < len := by omega
      clear h
      go_wp2_with fail
      go_roundw
      case rel => exact ⟨i + 1, by omega, by congr 1, by rw [byteAt_cast]; exact hL.step (by have := HO.out; omega)⟩
      case measure => simp [intOf]; omega
    · obtain rfl : i = 2 := by omega
      clear h
      go_wp2_with fail
      go_end0
      exact ⟨rfl, hL⟩
theorem lay_uint32 (g o len c v : Nat) (cs : Array Value) (w : World) (h : Whole w g 5 cs) (hv : v < 4294967296) (hl : 4 ≤ len) (ho : o + 4 ≤ cs.size) :
    Calls Try.prog 58 #[.slice (some ⟨g, o, none⟩) len c, .int .u32 v] w fun e w' => e = .returned (.tuple #[]) ∧ Laid w g o 4 v cs w' := by
  have hlen : (4 : Int) ≤ len := by omega
  have HV := Lib.hid hv
  have HO := Lib.hid ho
  clear hv ho hl
  go_enter Try.func58, Try.ntmps58
  go_wp2_with (go_at_call 84; refine (size_uint32 _).mono ?_; rintro e w' ⟨rfl, rfl⟩)
  go_loopw [6] (fun s6 wr => ∃ i : Nat, i ≤ 4 ∧ s6 = .int .i64 i ∧ Laid w g o i v cs wr) (fun s6 _ => 4 - (intOf s6).toNat)
  case atStart => exact ⟨0, Nat.zero_le _, rfl, Laid.start h⟩
  case round =>
    obtain ⟨i, hi, rfl, hL⟩ := hrel
    by_cases hlt : i < 4
    · obtain ⟨x, hx, hf⟩ := hL.cell (o + i) (by have := HO.out; omega)
      have hlt2 : (i : Int) < 4 := by omega
      have hil : (i : Int) < len := by omega
      clear h
      go_wp2_with fail
      go_roundw
      case rel => exact ⟨i + 1, by omega, by congr 1, by rw [byteAt_cast]; exact hL.step (by have := HO.out; omega)⟩
      case measure => simp [intOf]; omega
    · obtain rfl : i = 4 := by omega
      clear h
      go_wp2_with fail
      go_end0
      exact ⟨rfl, hL⟩
theorem lay_uint64 (g o len c v : Nat) (cs : Array Value) (w : World) (h : Whole w g 5 cs) (hv : v < 18446744073709551616) (hl : 8 ≤ len) (ho : o + 8 ≤ cs.size) :
    Calls Try.prog 88 #[.slice (some ⟨g, o, none⟩) len c, .int .u64 v] w fun e w' => e = .returned (.tuple #[]) ∧ Laid w g o 8 v cs w' := by
  have hlen : (8 : Int) ≤ len := by omega
  have HV := Lib.hid hv
  have HO := Lib.hid ho
  clear hv ho hl
  go_enter Try.func88, Try.ntmps88
  go_wp2_with (go_at_call 89; refine (size_uint64 _).mono ?_; rintro e w' ⟨rfl, rfl⟩)
  go_loopw [6] (fun s6 wr => ∃ i : Nat, i ≤ 8 ∧ s6 = .int .i64 i ∧ Laid w g o i v cs wr) (fun s6 _ => 8 - (intOf s6).toNat)
  case atStart => exact ⟨0, Nat.zero_le _, rfl, Laid.start h⟩
  case round =>
    obtain ⟨i, hi, rfl, hL⟩ := hrel
    by_cases hlt : i < 8
    · obtain ⟨x, hx, hf⟩ := hL.cell (o + i) (by have := HO.out; omega)
      have hlt2 : (i : Int) < 8 := by omega
      have hil : (i : Int) < len := by omega
      clear h
      go_wp2_with fail
      go_roundw
      case rel => exact ⟨i + 1, by omega, by congr 1, by rw [byteAt_cast]; exact hL.step (by have := HO.out; omega)⟩
      case measure => simp [intOf]; omega
    · obtain rfl : i = 8 := by omega
      clear h
      go_wp2_with fail
      go_end0
      exact ⟨rfl, hL⟩
end Go.Proofs.Ytacnmnodbmbplaa
