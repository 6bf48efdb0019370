/-
  CartMakes: the walk.
-/
import Derived.Test.YtggjaoihfhianaaRMakeW
import Derived.Test.YtggjaoihfhianaaImg
namespace Go.Proofs.Ytggjaoihfhianaa
open Go.RowKit Go.Shelf
set_option maxRecDepth 100000
set_option maxHeartbeats 4000000

namespace cartMakes
theorem walkN (size : Int) (kb : Nat) (a : Option Addr) (len cap : Nat) (ps : Nat → Patch1) (l c : Nat) (R S : Value) (ram : Int) (t : ByteArray) (z : Nat) (fast : Bool) (w : World) (hs0 : -9223372036854775808 ≤ size) (hs1 : size ≤ 9223372036854775807) (hkb : kb < 256) (h : Patches w a len ps)
    (hl : l < 256) (hc : c < 256) (ht : t.size ≤ 9223372036854775807) (hz : z < 65536) :
    Calls Try.prog 3 #[.agg #[.int .i64 size, .int .u8 kb, .slice a len cap], .agg #[.int .u8 l, .int .u8 c, R, .int .i64 ram, .string t, .int .u16 z, .bool fast, S]] w fun e w' => e = .returned (.bool true) ∧ Below w.heap.size w w' := by
  have HI := Lib.hid (fun W (hW : Patches W a len ps) => img_any size kb a len cap ps W hs0 hs1 hkb hW)
  have hn := imgN_le size
  generalize imgN size = n at *
  generalize img kb ps len = f at *
  replace hn := Lib.hid hn
  go_enter Try.func3, Try.ntmps3
  replace hl := Lib.hid hl
  replace hc := Lib.hid hc
  replace ht := Lib.hid ht
  replace hz := Lib.hid hz
  clear hs0 hs1 hkb
  have hB0 : Below w.heap.size w ((w.alloc (Obj.cells #[.int .i64 size, .int .u8 kb, .slice a len cap] 24)).alloc (Obj.cells #[.int .u8 l, .int .u8 c, R, .int .i64 ram, .string t, .int .u16 z, .bool fast, S] 28)) := ((Below.refl _ w).alloc (Nat.le_refl _) _).alloc (by simp) _
  have hI0 := (Whole.fresh w 24 #[.int .i64 size, .int .u8 kb, .slice a len cap]).alloc (Obj.cells #[.int .u8 l, .int .u8 c, R, .int .i64 ram, .string t, .int .u16 z, .bool fast, S] 28)
  have hX0 := Whole.fresh (w.alloc (Obj.cells #[.int .i64 size, .int .u8 kb, .slice a len cap] 24)) 28 #[.int .u8 l, .int .u8 c, R, .int .i64 ram, .string t, .int .u16 z, .bool fast, S]
  rw [World.alloc_heap_size] at hX0
  have hP := h.below hB0
  have i0 := hI0.cell 0
  have i1 := hI0.cell 1
  have i2 := hI0.cell 2
  simp only [List.getElem?_toArray, List.getElem?_cons_zero, List.getElem?_cons_succ] at i0 i1 i2
  go_upto_region 1 with (fail)
  generalize ((w.alloc (Obj.cells #[.int .i64 size, .int .u8 kb, .slice a len cap] 24)).alloc (Obj.cells #[.int .u8 l, .int .u8 c, R, .int .i64 ram, .string t, .int .u16 z, .bool fast, S] 28)) = W0 at hB0 hI0 hX0 hP i0 i1 i2 ⊢
  have h0 := Lib.hid h
  clear h
  obtain ⟨X, hXe⟩ : ∃ X, w.heap.size + 1 = X := ⟨_, rfl⟩
  rw [hXe] at hX0 ⊢
  have hXw : w.heap.size ≤ X := by omega
  have hXI : X ≠ w.heap.size := by omega
  replace hXe := Lib.hid hXe
  go_wp2_with fail
  refine (HI.out W0 hP).mono ?_
  rintro e w2 ⟨G, rfl, hG, hGe, hB2⟩
  have hI2 := hI0.below hB2 hI0.lt
  have hX2 := hX0.below hB2 hX0.lt
  have hBb := hB0.trans (hB2.mono hB0.size)
  have hP2 := hP.below (hB2.mono (Nat.le_refl _))
  have hXG : X ≠ G := by have := hX0.lt; omega
  have hIG : w.heap.size ≠ G := by have := hI0.lt; omega
  have fr := hX2.free
  have q2 := hX2.cell 2
  simp only [List.getElem?_toArray, List.getElem?_cons_zero, List.getElem?_cons_succ] at q2
  clear hX0 hI0 hP hB0 hB2 i0 i1 i2 hGe
  go_upto_region 2 with (fail)
  have hX3 : Whole _ X 28 #[.int .u8 l, .int .u8 c, (.slice (some ⟨G, 0, none⟩) n n), .int .i64 ram, .string t, .int .u16 z, .bool fast, S] := hX2.put 2 (.slice (some ⟨G, 0, none⟩) n n)
  have hG3 := hG.away (p := ⟨X, 2, none⟩) (Ne.symm hXG) (.slice (some ⟨G, 0, none⟩) n n)
  have hI3 := hI2.away (p := ⟨X, 2, none⟩) (Ne.symm hXI) (.slice (some ⟨G, 0, none⟩) n n)
  have hBc := hBb.setCell (p := ⟨X, 2, none⟩) hXw (.slice (some ⟨G, 0, none⟩) n n)
  have hP3 := h0.out.below hBc
  generalize (w2.setCell ⟨X, 2, none⟩ (.slice (some ⟨G, 0, none⟩) n n)) = W3 at hX3 hG3 hI3 hBc hP3 ⊢
  clear hX2 hG hBb fr q2 hI2 hP2
  by_cases hok : mayB l c n ram t z = true
  · have HM := Lib.hid (rmake_any l c n n (some ⟨G, 0, none⟩) ram t z fast S f W3 hl.out hz.out hG3.row hok)
    have HM2 := Lib.hid (fun C W (hW : Row W (some ⟨C, 0, none⟩) n f) => make_any l c n n (some ⟨C, 0, none⟩) ram t z fast S f W hl.out hc.out hz.out hW hok)
    generalize makeF f n l c ram t z fast = F at *
    unfold cartC at HM HM2
    clear hok
    have x0 := hX3.cell 0
    have x1 := hX3.cell 1
    have x2 := hX3.cell 2
    have x3 := hX3.cell 3
    have x4 := hX3.cell 4
    have x5 := hX3.cell 5
    have x6 := hX3.cell 6
    have x7 := hX3.cell 7
    simp only [List.getElem?_toArray, List.getElem?_cons_zero, List.getElem?_cons_succ] at x0 x1 x2 x3 x4 x5 x6 x7
    go_wp2_with fail
    refine HM.out.mono ?_
    rintro e w4 ⟨G1, rfl, hW4, hG1e, hB4⟩
    have hX4 := hX3.below hB4 hX3.lt
    have hG4 := hG3.below hB4 hG3.lt
    have hI4 := hI3.below hB4 hI3.lt
    have hBd := hBc.trans (hB4.mono hBc.size)
    have hXl := hX3.lt
    have hIl := hI3.lt
    have hXG1 : X ≠ G1 := by omega
    have hG1l := hW4.lt
    clear hX3 hG3 hI3 hBc hB4 HM hP3 x0 x1 x2 x3 x4 x5 x6 x7
    have x2 := hX4.cell 2
    simp only [List.getElem?_toArray, List.getElem?_cons_zero, List.getElem?_cons_succ] at x2
    go_wp2_with fail
    refine (copy_any (some ⟨G, 0, none⟩) n n f w4 hG4.row (by have := hn.out; omega)).mono ?_
    rintro e w5 ⟨C, rfl, hC5, hCe, hB5⟩
    have hX5 := hX4.below hB5 hX4.lt
    have hI5 := hI4.below hB5 hI4.lt
    have hBe := hBd.trans (hB5.mono hBd.size)
    have hXC : X ≠ C := by have := hX4.lt; omega
    have hIC : w.heap.size ≠ C := by have := hI4.lt; omega
    have hwC : w.heap.size ≤ C := by have := hBd.size; omega
    have hW5 := hW4.below hB5 hG1l
    have hG1C : G1 ≠ C := by omega
    clear hW4
    clear hX4 hG4 hI4 hBd hB5 x2
    have fr := hX5.free
    have x2 := hX5.cell 2
    simp only [List.getElem?_toArray, List.getElem?_cons_zero, List.getElem?_cons_succ] at x2
    go_upto_region 5 with (fail)
    have hX6 : Whole _ X 28 #[.int .u8 l, .int .u8 c, (.slice (some ⟨C, 0, none⟩) n n), .int .i64 ram, .string t, .int .u16 z, .bool fast, S] := hX5.put 2 (.slice (some ⟨C, 0, none⟩) n n)
    have hC6 := hC5.away (p := ⟨X, 2, none⟩) (Ne.symm hXC) (.slice (some ⟨C, 0, none⟩) n n)
    have hI6 := hI5.away (p := ⟨X, 2, none⟩) (Ne.symm hXI) (.slice (some ⟨C, 0, none⟩) n n)
    have hBf := hBe.setCell (p := ⟨X, 2, none⟩) hXw (.slice (some ⟨C, 0, none⟩) n n)
    have hW6 := hW5.away (p := ⟨X, 2, none⟩) (Ne.symm hXG1) (.slice (some ⟨C, 0, none⟩) n n)
    generalize (w5.setCell ⟨X, 2, none⟩ (.slice (some ⟨C, 0, none⟩) n n)) = W6 at hX6 hC6 hI6 hBf hW6 ⊢
    clear hX5 hC5 hI5 hBe fr x2 hW5
    have x0 := hX6.cell 0
    have x1 := hX6.cell 1
    have x2 := hX6.cell 2
    have x3 := hX6.cell 3
    have x4 := hX6.cell 4
    have x5 := hX6.cell 5
    have x6 := hX6.cell 6
    have x7 := hX6.cell 7
    simp only [List.getElem?_toArray, List.getElem?_cons_zero, List.getElem?_cons_succ] at x0 x1 x2 x3 x4 x5 x6 x7
    go_wp2_with fail
    refine (HM2.out C W6 hC6.row).mono ?_
    rintro e w7 ⟨G2, cap2, rfl, _, hT7, hG2e, hB7⟩
    have hC7 := hC6.below hB7 hC6.lt
    have hI7 := hI6.below hB7 hI6.lt
    have hBg := hBf.trans (hB7.mono hBf.size)
    have hW7 := hW6.below hB7 hW6.lt
    have hG2C : G2 ≠ C := by have := hC6.lt; omega
    clear hW6
    clear hX6 hC6 hI6 hBf hB7 HM2 x0 x1 x2 x3 x4 x5 x6 x7
    go_wp2_with fail
    refine (same_any (some ⟨G2, 0, none⟩) (some ⟨G1, 0, none⟩) n cap2 n F w7 hT7.row hW7.row (by have := hn.out; omega)).mono ?_
    rintro e w8 ⟨rfl, q1, rfl⟩
    have hC8 := hC7.drewN q1
    have hI8 := hI7.drewN q1
    have hBh := below_drewN hBg q1
    have hT8 := hT7.drewN q1
    have hW8 := hW7.drewN q1
    generalize w7.drewN q1 = W8 at hC8 hI8 hBh hT8 hW8 ⊢
    clear hC7 hI7 hBg hT7 hW7
    have hP8 := h0.out.below hBh
    have i0 := hI8.cell 0
    have i1 := hI8.cell 1
    have i2 := hI8.cell 2
    simp only [List.getElem?_toArray, List.getElem?_cons_zero, List.getElem?_cons_succ] at i0 i1 i2
    go_wp2_with fail
    refine (HI.out W8 hP8).mono ?_
    rintro e w9 ⟨G3, rfl, hG9, hG3e, hB9⟩
    have hC9 := hC8.below hB9 hC8.lt
    have hBi := hBh.trans (hB9.mono hBh.size)
    have hT9 := hT8.below hB9 hT8.lt
    have hW9 := hW8.below hB9 hW8.lt
    clear hC8 hI8 hBh hB9 hP8 i0 i1 i2 hT8 hW8
    go_wp2_with fail
    refine (same_any (some ⟨C, 0, none⟩) (some ⟨G3, 0, none⟩) n n n f w9 hC9.row hG9.row (by have := hn.out; omega)).mono ?_
    rintro e wa ⟨rfl, q2, rfl⟩
    have hCa := hC9.drewN q2
    have hBj := below_drewN hBi q2
    have hTa := hT9.drewN q2
    have hWa := hW9.drewN q2
    generalize w9.drewN q2 = Wa at hCa hBj hTa hWa ⊢
    clear hC9 hBi hG9 hT9 hW9
    go_wp2_with fail
    refine (spoil_any C n n f Wa (by have := hn.out; omega) hCa).mono ?_
    rintro e wb ⟨⟨v, rfl⟩, hO⟩
    have hBk := hBj.trans (onlyBelow hO hwC hBj.size)
    have hTb := hTa.only hO hG2C
    have hWb := hWa.only hO hG1C
    go_wp2_with fail
    refine (same_any (some ⟨G2, 0, none⟩) (some ⟨G1, 0, none⟩) n cap2 n F wb hTb.row hWb.row (by have := hn.out; omega)).mono ?_
    rintro e wd ⟨rfl, q3, rfl⟩
    go_wp2_with fail
    go_ret
    exact ⟨rfl, below_drewN hBk q3⟩
  · have hno : mayB l c n ram t z = false := by simpa using hok
    have HM := Lib.hid (rmakeNo_any l c n n (some ⟨G, 0, none⟩) ram t z fast S W3 hl.out hn.out ht.out hno)
    have HM2 := Lib.hid (fun C W => makeNo_any l c n n (some ⟨C, 0, none⟩) ram t z fast S W hl.out hc.out ht.out hno)
    clear hno
    unfold cartC at HM HM2
    clear hok
    have x0 := hX3.cell 0
    have x1 := hX3.cell 1
    have x2 := hX3.cell 2
    have x3 := hX3.cell 3
    have x4 := hX3.cell 4
    have x5 := hX3.cell 5
    have x6 := hX3.cell 6
    have x7 := hX3.cell 7
    simp only [List.getElem?_toArray, List.getElem?_cons_zero, List.getElem?_cons_succ] at x0 x1 x2 x3 x4 x5 x6 x7
    go_wp2_with fail
    refine HM.out.mono ?_
    rintro e w4 ⟨rfl, hB4⟩
    have hX4 := hX3.below hB4 hX3.lt
    have hG4 := hG3.below hB4 hG3.lt
    have hI4 := hI3.below hB4 hI3.lt
    have hBd := hBc.trans (hB4.mono hBc.size)
    have hXl := hX3.lt
    have hIl := hI3.lt
    clear hX3 hG3 hI3 hBc hB4 HM hP3 x0 x1 x2 x3 x4 x5 x6 x7
    have x2 := hX4.cell 2
    simp only [List.getElem?_toArray, List.getElem?_cons_zero, List.getElem?_cons_succ] at x2
    go_wp2_with fail
    refine (copy_any (some ⟨G, 0, none⟩) n n f w4 hG4.row (by have := hn.out; omega)).mono ?_
    rintro e w5 ⟨C, rfl, hC5, hCe, hB5⟩
    have hX5 := hX4.below hB5 hX4.lt
    have hI5 := hI4.below hB5 hI4.lt
    have hBe := hBd.trans (hB5.mono hBd.size)
    have hXC : X ≠ C := by have := hX4.lt; omega
    have hIC : w.heap.size ≠ C := by have := hI4.lt; omega
    have hwC : w.heap.size ≤ C := by have := hBd.size; omega
    clear hX4 hG4 hI4 hBd hB5 x2
    have fr := hX5.free
    have x2 := hX5.cell 2
    simp only [List.getElem?_toArray, List.getElem?_cons_zero, List.getElem?_cons_succ] at x2
    go_upto_region 5 with (fail)
    have hX6 : Whole _ X 28 #[.int .u8 l, .int .u8 c, (.slice (some ⟨C, 0, none⟩) n n), .int .i64 ram, .string t, .int .u16 z, .bool fast, S] := hX5.put 2 (.slice (some ⟨C, 0, none⟩) n n)
    have hC6 := hC5.away (p := ⟨X, 2, none⟩) (Ne.symm hXC) (.slice (some ⟨C, 0, none⟩) n n)
    have hI6 := hI5.away (p := ⟨X, 2, none⟩) (Ne.symm hXI) (.slice (some ⟨C, 0, none⟩) n n)
    have hBf := hBe.setCell (p := ⟨X, 2, none⟩) hXw (.slice (some ⟨C, 0, none⟩) n n)
    generalize (w5.setCell ⟨X, 2, none⟩ (.slice (some ⟨C, 0, none⟩) n n)) = W6 at hX6 hC6 hI6 hBf ⊢
    clear hX5 hC5 hI5 hBe fr x2 
    have x0 := hX6.cell 0
    have x1 := hX6.cell 1
    have x2 := hX6.cell 2
    have x3 := hX6.cell 3
    have x4 := hX6.cell 4
    have x5 := hX6.cell 5
    have x6 := hX6.cell 6
    have x7 := hX6.cell 7
    simp only [List.getElem?_toArray, List.getElem?_cons_zero, List.getElem?_cons_succ] at x0 x1 x2 x3 x4 x5 x6 x7
    go_wp2_with fail
    refine (HM2.out C W6).mono ?_
    rintro e w7 ⟨rfl, hB7⟩
    have hC7 := hC6.below hB7 hC6.lt
    have hI7 := hI6.below hB7 hI6.lt
    have hBg := hBf.trans (hB7.mono hBf.size)
    clear hX6 hC6 hI6 hBf hB7 HM2 x0 x1 x2 x3 x4 x5 x6 x7
    go_wp2_with fail
    refine (same_any none none 0 0 0 (fun _ => 0) w7 (Row.nil _ _ _) (Row.nil _ _ _) (by decide)).mono ?_
    rintro e w8 ⟨rfl, q1, rfl⟩
    have hC8 := hC7.drewN q1
    have hI8 := hI7.drewN q1
    have hBh := below_drewN hBg q1
    generalize w7.drewN q1 = W8 at hC8 hI8 hBh ⊢
    clear hC7 hI7 hBg 
    have hP8 := h0.out.below hBh
    have i0 := hI8.cell 0
    have i1 := hI8.cell 1
    have i2 := hI8.cell 2
    simp only [List.getElem?_toArray, List.getElem?_cons_zero, List.getElem?_cons_succ] at i0 i1 i2
    go_wp2_with fail
    refine (HI.out W8 hP8).mono ?_
    rintro e w9 ⟨G3, rfl, hG9, hG3e, hB9⟩
    have hC9 := hC8.below hB9 hC8.lt
    have hBi := hBh.trans (hB9.mono hBh.size)
    clear hC8 hI8 hBh hB9 hP8 i0 i1 i2 
    go_wp2_with fail
    refine (same_any (some ⟨C, 0, none⟩) (some ⟨G3, 0, none⟩) n n n f w9 hC9.row hG9.row (by have := hn.out; omega)).mono ?_
    rintro e wa ⟨rfl, q2, rfl⟩
    have hCa := hC9.drewN q2
    have hBj := below_drewN hBi q2
    generalize w9.drewN q2 = Wa at hCa hBj ⊢
    clear hC9 hBi hG9 
    go_wp2_with fail
    refine (spoil_any C n n f Wa (by have := hn.out; omega) hCa).mono ?_
    rintro e wb ⟨⟨v, rfl⟩, hO⟩
    have hBk := hBj.trans (onlyBelow hO hwC hBj.size)
    go_wp2_with fail
    refine (same_any none none 0 0 0 (fun _ => 0) wb (Row.nil _ _ _) (Row.nil _ _ _) (by decide)).mono ?_
    rintro e wd ⟨rfl, q3, rfl⟩
    go_wp2_with fail
    go_ret
    exact ⟨rfl, below_drewN hBk q3⟩
end cartMakes
end Go.Proofs.Ytggjaoihfhianaa
