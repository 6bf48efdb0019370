/-
  A made cartridge is read again; the one that is known to be made and read.
-/
import Derived.Test.YtggjaoihfhianaaDoorCardF
import Derived.Test.YtggjaoihfhianaaDoorReadsTwo
namespace Go.Proofs.YtggjaoihfhianaaDoor
open Go.RowKit Go.Shelf
set_option maxRecDepth 100000
set_option maxHeartbeats 4000000

theorem made (f : Nat → Nat) (n l c : Nat) (ram : Int) (t : ByteArray) (z : Nat) (fast : Bool) (hok : mayB l c n ram t z = true) :
    titleS (at' (makeF f n l c ram t z fast) (posOf l)) = t ∧ at' (makeF f n l c ram t z fast) (posOf l) 21 = modeN l fast ∧ at' (makeF f n l c ram t z fast) (posOf l) 22 = kindN c ∧ at' (makeF f n l c ram t z fast) (posOf l) 24 = sizeN ram ∧
    at' (makeF f n l c ram t z fast) (posOf l) 60 + at' (makeF f n l c ram t z fast) (posOf l) 61 * 256 = z ∧ scN (makeF f n l c ram t z fast) l = 9 := by
  obtain ⟨h13, _, _, _, _, _, _, ht, hsb, hsu, hz1⟩ := may_parts hok
  have hs := sumTo_lt (layF f (posOf l) l c ram t z fast) n
  unfold makeF
  generalize sumTo (layF f (posOf l) l c ram t z fast) n = s at *
  have e1 := title_back (at' (sealF (layF f (posOf l) l c ram t z fast) (posOf l) s) (posOf l)) t ht hsu (fun i hi => card_lo _ _ _ _ _ _ _ _ _ i hi ht)
  have e6 : at' (sealF (layF f (posOf l) l c ram t z fast) (posOf l) s) (posOf l) 60 + at' (sealF (layF f (posOf l) l c ram t z fast) (posOf l) s) (posOf l) 61 * 256 = z := by
    rw [card60, card61]
    omega
  refine ⟨e1, card21 .., card22 .., card24 .., e6, ?_⟩
  unfold scN
  simp only
  rw [e1, e6, card21, card28, card29, card30, card31]
  exact score9 t l s z fast h13 hs hsb hz1

theorem made_read (f : Nat → Nat) (n l c sl : Nat) (ram : Int) (t : ByteArray) (z : Nat) (fast : Bool) (hok : mayB l c n ram t z = true) (hb : bestN n (makeF f n l c ram t z fast) = l) :
    readE n (makeF f n l c ram t z fast) sl = (if c = 1 ∧ sl ≠ 8192 then 34 else 0) ∧ chipN (gotG n (makeF f n l c ram t z fast) 22) = c ∧ ∀ R S, readV n (makeF f n l c ram t z fast) R S = cartA l c R ram t z fast S := by
  obtain ⟨h13, hc, hr, hn1, hn2, _⟩ := may_parts hok
  obtain ⟨e1, e2, e3, e4, e5, _⟩ := made f n l c ram t z fast hok
  generalize makeF f n l c ram t z fast = F at *
  have hG : gotG n F = at' F (posOf l) := by unfold gotG; rw [hb]
  refine ⟨?_, ?_, fun R S => ?_⟩
  · unfold readE
    rw [hG, e3, e4, chip_back c hc, if_neg (by omega), if_neg (by omega), if_neg (by omega), if_neg (by omega)]
  · rw [hG, e3, chip_back c hc]
  · unfold readV
    rw [hG, hb, e1, e2, e3, e4, e5, chip_back c hc, ram_back ram hr, fast_back l fast h13]

theorem blankB : mayB 1 0 32768 0 ⟨#[65]⟩ 32768 = true := by decide +kernel
theorem blank_best (F : Nat → Nat) : bestN 32768 F = 1 := by
  have h2 : best2 32768 F = 1 := by unfold best2; rw [if_neg (fun h => absurd h.1 (by decide))]
  unfold bestN
  rw [h2, if_neg (fun h => absurd h.1 (by decide))]
theorem head0 {n : Nat} (f : Nat → Nat) (h : n % 1024 = 0) : n - headN n = n ∧ at2 f (headN n) = f := by
  have : headN n = 0 := by unfold headN; rw [if_neg (by omega)]
  rw [this]
  refine ⟨rfl, ?_⟩
  funext i
  unfold at2
  rw [Nat.zero_add]
theorem blank_any (w : World) : Calls Tryd.prog 18 #[] w fun e w' => e = .returned (.bool true) ∧ Below w.heap.size w w' := by
  have hmk : ∀ W, (Instr.makeSlice 25 (.int .i64 32768) (.int .i64 32768)).run Tryd.prog W = .ok (.slice (some ⟨W.heap.size, 0, none⟩) 32768 32768) (W.alloc (Obj.cells (madeCells #[Value.int .u8 0] 32768) 5)) := fun W => run_make_row' (P := Tryd.prog) 25 5 (.int .u8 0) 1 Tryd.underlying25 (by kernel_rfl) rfl .i64 .i64 32768 (by decide) (by decide) W
  have HM := Lib.hid (fun W B (hW : Row W (some ⟨B, 0, none⟩) 32768 (fun _ => 0)) => make_any 1 0 32768 32768 (some ⟨B, 0, none⟩) 0 ⟨#[65]⟩ 32768 false (.slice none 0 0) (fun _ => 0) W (by decide) (by decide) (by decide) hW blankB)
  have e0 : makeF (fun _ => 0) 32768 1 0 0 ⟨#[65]⟩ 32768 false 32704 = 65 := card_lo _ _ _ _ _ _ _ _ _ 0 (by decide) (by decide)
  have e1 : makeF (fun _ => 0) 32768 1 0 0 ⟨#[65]⟩ 32768 false 32705 = 32 := card_lo _ _ _ _ _ _ _ _ _ 1 (by decide) (by decide)
  obtain ⟨hE, hC, hV⟩ := made_read (fun _ => 0) 32768 1 0 0 0 ⟨#[65]⟩ 32768 false blankB (blank_best _)
  generalize makeF (fun _ => 0) 32768 1 0 0 ⟨#[65]⟩ 32768 false = F at *
  have hd := head0 (n := 32768) F rfl
  have HR := Lib.hid (fun W G cap (hcap : 32768 ≤ cap) (hW : Row W (some ⟨G, 0, none⟩) 32768 F) => readNo_any G 0 32768 cap 0 0 none F W (by decide) hcap hW (by rw [hd.1, hd.2, hC]; decide) (by rw [hd.1, hd.2, hE]; rfl))
  simp only [hd.1, hd.2, hV] at HR
  unfold cartA at HR
  unfold cartC at HM
  clear hV hE hC hd
  go_enter Tryd.func18, Tryd.ntmps18
  go_wp2_with fail
  have hB0 : Below w.heap.size w (w.alloc (Obj.cells (madeCells #[Value.int .u8 0] 32768) 5)) := (Below.refl _ w).alloc (Nat.le_refl _) _
  have hH0 := holds_of_made (Whole.fresh w 5 (madeCells #[Value.int .u8 0] 32768))
  generalize (w.alloc (Obj.cells (madeCells #[Value.int .u8 0] 32768) 5)) = W0 at hB0 hH0 ⊢
  clear hmk
  refine (HM.out W0 w.heap.size hH0.row).mono ?_
  rintro e w1 ⟨G, cap, rfl, hcap, hH, hGe, hB1⟩
  have hBa := hB0.trans (hB1.mono hB0.size)
  have c0 := hH.cell 32704 (by decide)
  have c1 := hH.cell 32705 (by decide)
  rw [e0] at c0
  rw [e1] at c1
  have HR1 := Lib.hid (HR.out w1 G cap hcap hH.row)
  replace hcap := Lib.hid hcap
  clear hB0 hH0 hB1 HM HR hH
  go_wp2_with fail
  refine HR1.out.mono ?_
  rintro e w2 ⟨G1, cap1, rfl, hB2, _, _⟩
  have hBb := hBa.trans (hB2.mono hBa.size)
  clear HR1 c0 c1 hBa hB2
  go_upto_region 5 with (fail)
  have hX := Whole.fresh w2 29 #[.int .u8 1, .int .u8 0, .slice (some ⟨G1, 0, none⟩) 32768 cap1, .int .i64 0, .string ⟨#[65]⟩, .int .u16 32768, .bool false, .slice none 0 0]
  have hBc := hBb.alloc hBb.size (Obj.cells #[.int .u8 1, .int .u8 0, .slice (some ⟨G1, 0, none⟩) 32768 cap1, .int .i64 0, .string ⟨#[65]⟩, .int .u16 32768, .bool false, .slice none 0 0] 29)
  generalize (w2.alloc (Obj.cells #[.int .u8 1, .int .u8 0, .slice (some ⟨G1, 0, none⟩) 32768 cap1, .int .i64 0, .string ⟨#[65]⟩, .int .u16 32768, .bool false, .slice none 0 0] 29)) = W3 at hX hBc ⊢
  have x0 := hX.cell 0
  have x3 := hX.cell 3
  have x4 := hX.cell 4
  have x5 := hX.cell 5
  simp only [List.getElem?_toArray, List.getElem?_cons_zero, List.getElem?_cons_succ] at x0 x3 x4 x5
  generalize w2.heap.size = X at *
  clear hX hBb
  go_wp2_with fail
  go_ret
  exact ⟨rfl, hBc⟩
end Go.Proofs.YtggjaoihfhianaaDoor
