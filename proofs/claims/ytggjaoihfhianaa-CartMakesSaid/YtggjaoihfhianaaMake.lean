/-
  A cartridge's bytes.
-/
import Derived.Test.YtggjaoihfhianaaSeal
namespace Go.Proofs.Ytggjaoihfhianaa
open Go.RowKit Go.Shelf
set_option maxRecDepth 100000
set_option maxHeartbeats 4000000

theorem onlyBelow {B g : Nat} {w W : World} (o : w.grownBy W (some g)) (hB : B ≤ g) (hs : B ≤ w.heap.size) : Below B w W := ⟨o.os, o.tape, o.output, o.size, fun k hk => o.block k (Nat.lt_of_lt_of_le hk hs) (fun e => by injection e with e; omega)⟩
def makeF (f : Nat → Nat) (n l c : Nat) (ram : Int) (t : ByteArray) (z : Nat) (fast : Bool) : Nat → Nat :=
  sealF (layF f (posOf l) l c ram t z fast) (posOf l) (sumTo (layF f (posOf l) l c ram t z fast) n)
theorem may_parts {l c n : Nat} {ram : Int} {t : ByteArray} {z : Nat} (h : mayB l c n ram t z = true) :
    (1 ≤ l ∧ l ≤ 3) ∧ c ≤ 2 ∧ sizeN ram ≤ 9 ∧ 32768 ≤ n ∧ n ≤ 8388608 ∧ n % 1024 = 0 ∧ posOf l + 64 ≤ n ∧ t.size ≤ 21 ∧ seenB t = true ∧ Lib.hasSuffix t.data.toList [32] = false ∧ 32768 ≤ z := by
  unfold mayB partsB romB titleB at h
  simp only [Bool.and_eq_true, decide_eq_true_eq, Bool.not_eq_true'] at h
  obtain ⟨⟨⟨⟨hl, hc, hs⟩, ⟨⟨⟨h1, h2⟩, h3⟩, h4⟩⟩, ⟨h5, h6⟩, h7⟩, hz⟩ := h
  exact ⟨hl, hc, hs, h1, h2, h3, h4, h5, h6, h7, hz⟩

theorem makeNo_any (l c n cap : Nat) (ra : Option Addr) (ram : Int) (t : ByteArray) (z : Nat) (fast : Bool) (Sg : Value) (w : World) (hl : l < 256) (hc : c < 256) (ht : t.size ≤ 9223372036854775807) (hno : mayB l c n ram t z = false) :
    Calls Try.prog 9 #[.agg (cartC l c (.slice ra n cap) ram t z fast Sg)] w fun e w' => e = .returned (.tuple #[.slice none 0 0, .int .i64 2]) ∧ Below w.heap.size w w' := by
  have HU := Lib.hid (fun W => unmakable_any l c n cap ra ram t z fast Sg W hl hc ht)
  rw [hno] at HU
  clear hno hl hc ht
  unfold cartC at *
  go_enter Try.func9, Try.ntmps9
  go_wp2_with fail
  have hB : Below w.heap.size w (w.alloc (Obj.cells #[.int .u8 l, .int .u8 c, .slice ra n cap, .int .i64 ram, .string t, .int .u16 z, .bool fast, Sg] 28)) := (Below.refl _ w).alloc (Nat.le_refl _) _
  generalize (w.alloc (Obj.cells #[.int .u8 l, .int .u8 c, .slice ra n cap, .int .i64 ram, .string t, .int .u16 z, .bool fast, Sg] 28)) = W0 at hB ⊢
  refine (HU.out W0).mono ?_
  rintro e w1 ⟨rfl, hB1⟩
  go_wp2_with fail
  go_ret2
  exact ⟨rfl, hB.trans (hB1.mono hB.size)⟩

theorem make_any (l c n cap : Nat) (ra : Option Addr) (ram : Int) (t : ByteArray) (z : Nat) (fast : Bool) (Sg : Value) (f : Nat → Nat) (w : World) (hl : l < 256) (hc : c < 256) (hz : z < 65536) (hR : Row w ra n f) (hok : mayB l c n ram t z = true) :
    Calls Try.prog 9 #[.agg (cartC l c (.slice ra n cap) ram t z fast Sg)] w fun e w' => ∃ G cap', e = .returned (.tuple #[.slice (some ⟨G, 0, none⟩) n cap', .int .i64 0]) ∧ n ≤ cap' ∧ Holds w' G n (makeF f n l c ram t z fast) ∧ w.heap.size ≤ G ∧ Below w.heap.size w w' := by
  obtain ⟨⟨h1, h3⟩, hc2, hram, hn1, hn2, _, hpos, ht, _, _, hz1⟩ := may_parts hok
  have HU := Lib.hid (fun W => unmakable_any l c n cap ra ram t z fast Sg W hl hc (by omega))
  rw [hok] at HU
  have HP := Lib.hid (fun W => planOf_any l W hl)
  have HL := Lib.hid (fun R M cp W hcp (hH : Holds W R n f) (hM : Whole W M 5 (modesOf l)) hne => lay_any R l M cp n c n cap ra ram t z fast Sg f W hpos hcp hc hz ht hram hH hM hne)
  have HS := Lib.hid (fun R ca cp W (hH : Holds W R n (layF f (posOf l) l c ram t z fast)) => seal_any R (posOf l) n ca cp (layF f (posOf l) l c ram t z fast) W (by omega) hpos hH)
  obtain ⟨b, o, rfl⟩ : ∃ b o, ra = some ⟨b, o, none⟩ := by
    rcases hR.2 with h0 | ⟨b, o, h, _⟩
    · omega
    · exact ⟨b, o, h⟩
  have HC := Lib.hid (fun W (hW : Row W (some ⟨b, o, none⟩) n f) => clone_any b o n cap f W hW (by omega))
  unfold planV cartC at *
  unfold makeF
  obtain ⟨F1, hF1⟩ : ∃ F, layF f (posOf l) l c ram t z fast = F := ⟨_, rfl⟩
  rw [hF1] at HL HS ⊢
  obtain ⟨p, hp⟩ : ∃ p, posOf l = p := ⟨_, rfl⟩
  rw [hp] at HL HS HP hpos ⊢
  obtain ⟨F2, hF2⟩ : ∃ F, sealF F1 p (sumTo F1 n) = F := ⟨_, rfl⟩
  rw [hF2] at HS ⊢
  replace hn1 := Lib.hid hn1
  replace hn2 := Lib.hid hn2
  generalize modeLen l = ml at *
  have hpn : (p : Int) ≤ (n : Int) := by omega
  clear hF1 hp hF2 hl hc hz hz1 ht hram hok hc2
  go_enter Try.func9, Try.ntmps9
  go_wp2_with fail
  have hX := Whole.fresh w 28 #[.int .u8 l, .int .u8 c, .slice (some ⟨b, o, none⟩) n cap, .int .i64 ram, .string t, .int .u16 z, .bool fast, Sg]
  have hB : Below w.heap.size w (w.alloc (Obj.cells #[.int .u8 l, .int .u8 c, .slice (some ⟨b, o, none⟩) n cap, .int .i64 ram, .string t, .int .u16 z, .bool fast, Sg] 28)) := (Below.refl _ w).alloc (Nat.le_refl _) _
  generalize (w.alloc (Obj.cells #[.int .u8 l, .int .u8 c, .slice (some ⟨b, o, none⟩) n cap, .int .i64 ram, .string t, .int .u16 z, .bool fast, Sg] 28)) = W0 at hX hB ⊢
  refine (HU.out W0).mono ?_
  rintro e w1 ⟨rfl, hB1⟩
  have hX1 := hX.below hB1 hX.lt
  have hBa := hB.trans (hB1.mono hB.size)
  clear hX hB hB1 HU
  have x0 := hX1.cell 0
  simp only [List.getElem?_toArray, List.getElem?_cons_zero] at x0
  go_wp2_with fail
  refine (HP.out w1).mono ?_
  rintro e w2 (⟨_, _, M, rfl, hM, hMge, hB2⟩ | ⟨hno, _⟩)
  case inr => exact absurd ⟨h1, h3⟩ hno
  have hX2 := hX1.below hB2 hX1.lt
  have hBb := hBa.trans (hB2.mono hBa.size)
  clear hX1 hBa hB2 HP x0 h1 h3
  go_upto_region 4 with (fail)
  have hX3 := hX2.alloc (Obj.cells #[.int .u8 l, .int .i64 (p : Nat), .slice (some ⟨M, 0, none⟩) ml ml] 47)
  have hP3 := Whole.fresh w2 47 #[.int .u8 l, .int .i64 (p : Nat), .slice (some ⟨M, 0, none⟩) ml ml]
  have hM3 := hM.alloc (Obj.cells #[.int .u8 l, .int .i64 (p : Nat), .slice (some ⟨M, 0, none⟩) ml ml] 47)
  have hBc := hBb.alloc hBb.size (Obj.cells #[.int .u8 l, .int .i64 (p : Nat), .slice (some ⟨M, 0, none⟩) ml ml] 47)
  generalize (w2.alloc (Obj.cells #[.int .u8 l, .int .i64 (p : Nat), .slice (some ⟨M, 0, none⟩) ml ml] 47)) = W3 at hX3 hP3 hM3 hBc ⊢
  generalize w2.heap.size = P at *
  have hR3 := hR.below hBc
  have x2 := hX3.cell 2
  simp only [List.getElem?_toArray, List.getElem?_cons_zero, List.getElem?_cons_succ] at x2
  clear hX2 hBb hM hR hMge
  go_wp2_with fail
  refine (HC.out W3 hR3).mono ?_
  rintro e w4 ⟨G, cap', rfl, hcap, hH, hGe, hB4⟩
  have hX4 := hX3.below hB4 hX3.lt
  have hP4 := hP3.below hB4 hP3.lt
  have hM4 := hM3.below hB4 hM3.lt
  have hBd := hBc.trans (hB4.mono hBc.size)
  have hXl := hX3.lt
  have hPl := hP3.lt
  have hMl := hM3.lt
  have hwW := hBc.size
  have hXG : w.heap.size ≠ G := by omega
  have hPG : P ≠ G := by omega
  have hMG : M ≠ G := by omega
  have hwG : w.heap.size ≤ G := by omega
  have hS4 := hBd.size
  clear hX3 hP3 hM3 hBc hB4 HC hR3 x2 hXl hPl hMl hwW hGe
  have p1 := hP4.cell 1
  have xx0 := hX4.cell 0
  have xx1 := hX4.cell 1
  have xx2 := hX4.cell 2
  have xx3 := hX4.cell 3
  have xx4 := hX4.cell 4
  have xx5 := hX4.cell 5
  have xx6 := hX4.cell 6
  have xx7 := hX4.cell 7
  have pp0 := hP4.cell 0
  have pp2 := hP4.cell 2
  simp only [List.getElem?_toArray, List.getElem?_cons_zero, List.getElem?_cons_succ] at p1 xx0 xx1 xx2 xx3 xx4 xx5 xx6 xx7 pp0 pp2
  have c1 : (64 : Int) ≤ (cap' : Int) - (p : Int) := by omega
  have c2 : (p : Int) ≤ (cap' : Int) := by omega
  have c3 : 64 ≤ cap' - p := by omega
  have hn9 := hn2.out
  have hL1 := Lib.hid (HL.out G M (cap' - p) w4 c3 hH hM4 hMG)
  clear hn9 HL
  go_wp2_with fail
  refine hL1.out.mono ?_
  rintro e w5 ⟨⟨v, rfl⟩, hH5, hG5⟩
  have hBe := hBd.trans (onlyBelow hG5 hwG hS4)
  have hS5 := hG5.size
  clear p1 xx0 xx1 xx2 xx3 xx4 xx5 xx6 xx7 pp0 pp2 hL1 hX4 hP4 hM4 hH hBd hG5
  go_wp2_with fail
  refine (HS.out G cap' (cap' - p) w5 hH5).mono ?_
  rintro e w6 ⟨⟨v2, rfl⟩, hH6, hG6⟩
  go_wp2_with fail
  go_ret2
  exact ⟨G, cap', rfl, hcap, hH6, hwG, hBe.trans (onlyBelow hG6 hwG (Nat.le_trans hS4 hS5))⟩
end Go.Proofs.Ytggjaoihfhianaa
