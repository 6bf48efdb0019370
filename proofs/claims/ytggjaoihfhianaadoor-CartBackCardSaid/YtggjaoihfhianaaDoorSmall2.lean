/-
  Small calls of Read: the chip by a kind, what lies ahead of a rom, whether cartridges are the same.
-/
import Derived.Test.YtggjaoihfhianaaDoorSmall
import Derived.Test.YtggjaoihfhianaaDoorImg
namespace Go.Proofs.YtggjaoihfhianaaDoor
open Go.RowKit Go.Shelf
set_option maxRecDepth 100000
set_option maxHeartbeats 2000000

/-- The chip by a kind; 255: not known. -/
def chipN (k : Nat) : Nat := if k % 16 < 3 then 0 else if k / 16 = 0 then 1 else if k / 16 = 3 then 2 else 255
theorem and15 : ∀ m : Fin 256, bits .and .u8 (m.val : Int) 15 = (m.val % 16 : Nat) := by decide +kernel
theorem chipOf_any (k : Nat) (w : World) (hk : k < 256) : Calls Tryd.prog 23 #[.int .u8 k] w fun e w' => (chipN k = 255 ∧ e = .returned (.tuple #[.int .u8 0, .bool false]) ∨ chipN k ≤ 2 ∧ e = .returned (.tuple #[.int .u8 (chipN k : Nat), .bool true])) ∧ w' = w := by
  have e1 := and15 ⟨k, hk⟩
  simp only at e1
  obtain ⟨q, hq⟩ : ∃ q, k % 16 = q := ⟨_, rfl⟩
  obtain ⟨d, hd⟩ : ∃ d, k / 16 = d := ⟨_, rfl⟩
  have e2 : (k : Int) / 16 = (d : Nat) := by omega
  rw [hq] at e1
  by_cases h3 : q < 3
  · have hv : chipN k = 0 := by unfold chipN; rw [if_pos (by omega)]
    rw [hv]
    clear hv hq hd
    go_enter Tryd.func23, Tryd.ntmps23
    go_wp2
    go_ret2
    exact ⟨.inr ⟨by decide, rfl⟩, rfl⟩
  by_cases h0 : d = 0
  · have hv : chipN k = 1 := by unfold chipN; rw [if_neg (by omega), if_pos (by omega)]
    rw [hv]
    clear hv hq hd
    subst h0
    go_enter Tryd.func23, Tryd.ntmps23
    go_wp2
    go_ret2
    exact ⟨.inr ⟨by decide, rfl⟩, rfl⟩
  by_cases h33 : d = 3
  · have hv : chipN k = 2 := by unfold chipN; rw [if_neg (by omega), if_neg (by omega), if_pos (by omega)]
    rw [hv]
    clear hv hq hd
    subst h33
    go_enter Tryd.func23, Tryd.ntmps23
    go_wp2
    go_ret2
    exact ⟨.inr ⟨by decide, rfl⟩, rfl⟩
  · have hv : chipN k = 255 := by unfold chipN; rw [if_neg (by omega), if_neg (by omega), if_neg (by omega)]
    rw [hv]
    clear hv hq hd
    have n0 : ((d : Int) == 0) = false := beq_eq_false_iff_ne.2 (by omega)
    have n3 : ((d : Int) == 3) = false := beq_eq_false_iff_ne.2 (by omega)
    go_enter Tryd.func23, Tryd.ntmps23
    go_wp2
    go_ret2
    exact ⟨.inl ⟨by simp, rfl⟩, rfl⟩

/-- How many bytes lie ahead of the rom. -/
def headN (n : Nat) : Nat := if n % 1024 = 512 then 512 else 0
def at2 (f : Nat → Nat) (p : Nat) : Nat → Nat := fun i => f (p + i)
theorem Row.from {w : World} {b o n : Nat} {f : Nat → Nat} (h : Row w (some ⟨b, o, none⟩) n f) (p : Nat) (hp : p ≤ n) : Row w (some ⟨b, o + p, none⟩) (n - p) (at2 f p) := by
  rcases h with ⟨hb, h0 | ⟨b', o', e, hlt, hc⟩⟩
  · exact ⟨fun i hi => by omega, .inl (by omega)⟩
  · injection e with e
    injection e with e1 e2
    subst e1 e2
    exact ⟨fun i hi => hb (p + i) (by omega), .inr ⟨_, _, rfl, hlt, fun i hi => by rw [Nat.add_assoc]; exact hc (p + i) (by omega)⟩⟩
theorem head_any (b o n c : Nat) (f : Nat → Nat) (w : World) (hc : n ≤ c) (hr : Row w (some ⟨b, o, none⟩) n f) : Calls Tryd.prog 21 #[.slice (some ⟨b, o, none⟩) n c] w fun e w' =>
    (∃ b' o' c', n - headN n ≤ c' ∧ Row w (some ⟨b', o', none⟩) (n - headN n) (at2 f (headN n)) ∧ e = .returned (.slice (some ⟨b', o', none⟩) (n - headN n) c')) ∧ w' = w := by
  by_cases h : n % 1024 = 512
  · have hv : headN n = 512 := by unfold headN; rw [if_pos h]
    have h1 : ((n : Int) % 1024 == 512) = true := by rw [beq_iff_eq]; omega
    have h2 : (512 : Int) ≤ n := by omega
    have h3 : (n : Int) ≤ c := by omega
    have hR := hr.from 512 (by omega)
    rw [hv]
    replace hv := Lib.hid hv
    replace hR := Lib.hid hR
    clear hr
    by_cases h4 : c = 512
    · go_enter Tryd.func21, Tryd.ntmps21
      go_wp2
      go_ret
      exact ⟨⟨b, o, 0, by omega, by rw [show n - 512 = 0 by omega]; exact Row.nil _ _ _, rfl⟩, rfl⟩
    · go_enter Tryd.func21, Tryd.ntmps21
      go_wp2
      go_ret
      exact ⟨⟨b, o + 512, c - 512, by omega, hR.out, rfl⟩, rfl⟩
  · have hv : headN n = 0 := by unfold headN; rw [if_neg h]
    have h1 : ((n : Int) % 1024 == 512) = false := by rw [beq_eq_false_iff_ne]; omega
    have hR := hr.from 0 (by omega)
    rw [hv]
    replace hR := Lib.hid hR
    clear hr
    go_enter Tryd.func21, Tryd.ntmps21
    go_wp2
    go_ret
    exact ⟨⟨b, o, c, by omega, hR.out, rfl⟩, rfl⟩

def cartA (l c : Nat) (R : Value) (ram : Int) (t : ByteArray) (z : Nat) (fast : Bool) (S : Value) : Value := .agg #[.int .u8 l, .int .u8 c, R, .int .i64 ram, .string t, .int .u16 z, .bool fast, S]
theorem csame_any (l c : Nat) (ram : Int) (t : ByteArray) (z : Nat) (fast : Bool) (ra rb sa sb : Option Addr) (n ca cb m da db : Nat) (f g : Nat → Nat) (w : World) (hn : n ≤ 140737488355328) (hm : m ≤ 140737488355328)
    (h1 : Row w ra n f) (h2 : Row w rb n f) (h3 : Row w sa m g) (h4 : Row w sb m g) :
    Calls Tryd.prog 13 #[cartA l c (.slice ra n ca) ram t z fast (.slice sa m da), cartA l c (.slice rb n cb) ram t z fast (.slice sb m db)] w fun e w' => e = .returned (.bool true) ∧ Below w.heap.size w w' := by
  unfold cartA
  have HK1 := Lib.hid (fun W (hW : Below w.heap.size w W) => same_any ra rb n ca cb f W (h1.below hW) (h2.below hW) hn)
  have HK2 := Lib.hid (fun W (hW : Below w.heap.size w W) => same_any sa sb m da db g W (h3.below hW) (h4.below hW) hm)
  clear h1 h2 h3 h4
  have hB0 : Below w.heap.size w ((w.alloc (Obj.cells #[.int .u8 l, .int .u8 c, .slice ra n ca, .int .i64 ram, .string t, .int .u16 z, .bool fast, .slice sa m da] 29)).alloc (Obj.cells #[.int .u8 l, .int .u8 c, .slice rb n cb, .int .i64 ram, .string t, .int .u16 z, .bool fast, .slice sb m db] 29)) :=
    ((Below.refl _ w).alloc (Nat.le_refl _) _).alloc (by simp) _
  go_enter Tryd.func13, Tryd.ntmps13
  go_wp2_with fail
  refine (HK1.out _ hB0).mono ?_
  rintro e w' ⟨rfl, q, rfl⟩
  go_wp2_with fail
  refine (HK2.out _ (below_drewN hB0 q)).mono ?_
  rintro e w' ⟨rfl, q2, rfl⟩
  go_wp2_with fail
  go_ret
  exact ⟨rfl, below_drewN hB0 _⟩
end Go.Proofs.YtggjaoihfhianaaDoor
