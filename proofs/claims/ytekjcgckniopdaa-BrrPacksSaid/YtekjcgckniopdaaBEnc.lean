/-
  Encode: by the code, by the document.
-/
import Derived.Test.YtekjcgckniopdaaBNbk
import Derived.Test.YtekjcgckniopdaaBBlk
namespace Go.Proofs.Ytekjcgckniopdaa
open Go.RowKit Go.Shelf
set_option maxRecDepth 100000
set_option maxHeartbeats 2000000
set_option linter.unusedVariables false
set_option linter.unusedSimpArgs false

/-- The bytes of the nearest block. -/
def bytD (s : Nat → Int) (p q : Int) (t : Nat) : Nat → Nat := blkB s p q (t % 13) (t / 13)
def encB (s : Nat → Int) (p q : Int) : Nat → Nat := bytD s p q (topF s p q 51)
theorem bytD_lt (s : Nat → Int) (p q : Int) (t i : Nat) (ht : t < 52) : bytD s p q t i < 256 := putF_lt _ _ _ _ _ (by omega) (by omega)
theorem attD_bytes (s : Nat → Int) (p q : Int) (t : Nat) : ∃ F M P Q, attD s p q t = attA F M P Q (bytD s p q t) := ⟨_, _, _, _, rfl⟩
theorem cencode_no (w : World) (a : Option Addr) (n c : Nat) (p q : Int) (hn : n ≠ 16) : Calls Try.prog 21 #[.slice a n c, .int .i16 p, .int .i16 q] w fun e w' => e = .returned (.tuple #[.slice none 0 0, .int .i64 2]) ∧ w' = w := by
  have hd : ((n : Int) == 16) = false := beq_eq_false_iff_ne.2 (by omega)
  go_enter Try.func21, Try.ntmps21
  go_wp2_with fail
  exact bodyPost_ret (results_tmp2 rfl _ _ _) rfl ⟨rfl, rfl⟩
theorem rencode_no (w : World) (a : Option Addr) (n c : Nat) (p q : Int) (hn : n ≠ 16) : Calls Try.prog 20 #[.slice a n c, .int .i16 p, .int .i16 q] w fun e w' => e = .returned (.tuple #[.slice none 0 0, .int .i64 2]) ∧ w' = w := by
  have hd : ((n : Int) == 16) = false := beq_eq_false_iff_ne.2 (by omega)
  go_enter Try.func20, Try.ntmps20
  go_wp2_with fail
  exact bodyPost_ret (results_tmp2 rfl _ _ _) rfl ⟨rfl, rfl⟩
theorem cencode_any (w : World) (a : Option Addr) (c : Nat) (s : Nat → Int) (p q : Int) (hR : IRow w a 16 s) (hs : ∀ i, Smp (s i)) (hp : Smp p) (hq : Smp q) :
    Calls Try.prog 21 #[.slice a 16 c, .int .i16 p, .int .i16 q] w fun e w' => ∃ G, e = .returned (.tuple #[.slice (some ⟨G, 4, none⟩) 9 9, .int .i64 0]) ∧ Row w' (some ⟨G, 4, none⟩) 9 (encB s p q) ∧ Below w.heap.size w w' := by
  have HN := Lib.hid (nearestBlock_any w a c s p q hR hs hp hq)
  obtain ⟨F, M, P, Q, hD⟩ := attD_bytes s p q (topF s p q 51)
  have hlt : ∀ i, bytD s p q (topF s p q 51) i < 256 := fun i => bytD_lt s p q _ i (by have := topF_le s p q 51; omega)
  rw [hD] at HN
  have cV : attA F M P Q (bytD s p q (topF s p q 51)) = #[.int .i64 F, .int .i64 M, .int .i64 P, .int .i64 Q, .int .u8 (bytD s p q (topF s p q 51) 0 : Nat), .int .u8 (bytD s p q (topF s p q 51) 1 : Nat), .int .u8 (bytD s p q (topF s p q 51) 2 : Nat), .int .u8 (bytD s p q (topF s p q 51) 3 : Nat), .int .u8 (bytD s p q (topF s p q 51) 4 : Nat), .int .u8 (bytD s p q (topF s p q 51) 5 : Nat), .int .u8 (bytD s p q (topF s p q 51) 6 : Nat), .int .u8 (bytD s p q (topF s p q 51) 7 : Nat), .int .u8 (bytD s p q (topF s p q 51) 8 : Nat)] := rfl
  have hE : encB s p q = bytD s p q (topF s p q 51) := rfl
  generalize bytD s p q (topF s p q 51) = g at *
  rw [cV] at HN
  replace cV := Lib.hid cV
  replace hE := Lib.hid hE
  unfold Smp at hp hq
  clear hR hD hs
  go_enter Try.func21, Try.ntmps21
  go_wp2_with fail
  refine HN.out.mono ?_
  rintro e w' ⟨rfl, hB⟩
  have hA := Lib.hid (Whole.fresh w' 69 (attA F M P Q g))
  have hB2 := Lib.hid (hB.alloc hB.size (.cells (attA F M P Q g) 69))
  rw [cV.out] at hB2
  clear hB HN
  go_wp2_with fail
  refine bodyPost_ret (results_tmp2 rfl _ _ _) rfl ⟨w'.heap.size, rfl, ?_, hB2.out⟩
  rw [hE.out]
  refine ⟨fun i _ => hlt i, .inr ⟨_, _, rfl, ?_, fun i hi => ?_⟩⟩
  · have := hA.out.lt
    rw [cV.out] at this
    exact this
  · have := hA.out.cell (4 + i)
    rw [attA_at F M P Q g i hi, cV.out] at this
    exact this
theorem eql_nil1 (w : World) : (binOp .eql 22 (.slice none 0 0) (.slice none 0 0)).run Try.prog w = .ok (.bool true) w := by kernel_rfl
theorem eql_nil2 (ad : Addr) (n c : Nat) (w : World) : (binOp .eql 22 (.slice (some ad) n c) (.slice none 0 0)).run Try.prog w = .ok (.bool false) w := by kernel_rfl
/-- What is kept amid the document's search. -/
def Rb (w : World) (s : Nat → Int) (p q : Int) (V : World) (m : Nat) (s8 s9 : Value) : Prop :=
  Below w.heap.size w V ∧ ((m = 0 ∧ s8 = .slice none 0 0 ∧ s9 = .int .i64 0) ∨ (0 < m ∧ ∃ G, s8 = .slice (some ⟨G, 0, none⟩) 9 9 ∧ Holds V G 9 (bytD s p q (topF s p q (m - 1))) ∧ w.heap.size ≤ G ∧ s9 = .int .i64 (blkF s p q (topF s p q (m - 1)))))
theorem rencode_any (w : World) (a : Option Addr) (c : Nat) (s : Nat → Int) (p q : Int) (hR : IRow w a 16 s) (hs : ∀ i, Smp (s i)) (hp : Smp p) (hq : Smp q) :
    Calls Try.prog 20 #[.slice a 16 c, .int .i16 p, .int .i16 q] w fun e w' => ∃ G, e = .returned (.tuple #[.slice (some ⟨G, 0, none⟩) 9 9, .int .i64 0]) ∧ Holds w' G 9 (encB s p q) ∧ w.heap.size ≤ G ∧ Below w.heap.size w w' := by
  have hRh := Lib.hid hR
  have HB := Lib.hid (fun W sh f (h : IRow W a 16 s) (h1 : sh < 13) (h2 : f < 4) => rblock_any W a c sh f s p q h hs h1 h2 hp hq)
  have HD := Lib.hid (fun W G sh f (h : Row W (some ⟨G, 0, none⟩) 9 (blkB s p q sh f)) => rdecode_any W (some ⟨G, 0, none⟩) 9 (blkB s p q sh f) p q h hp hq)
  have HA := Lib.hid (fun W b d sh f (hf : f < 4) (h1 : IRow W b 16 (fun i => (stB (blkB s p q sh f) p q (i + 1)).1)) (h2 : IRow W a 16 s) => rapart_any W b a 16 d c _ s h1 h2 (by decide) (fun i hi => (stF_smp _ _ _ p q hp hq (i + 1)).1) (fun i _ => hs i))
  have hfar := Lib.hid (fun sh f (hf : f < 4) => blkB_far s p q sh f hf 16 (Nat.le_refl _))
  have hbnd := Lib.hid (blkF_bnd s p q hs)
  clear hR
  go_enter Try.func20, Try.ntmps20
  go_wp2_with fail
  go_loopw [8, 9, 10] (fun s8 s9 s10 wr => ∃ fi : Nat, fi ≤ 4 ∧ s10 = .int .u8 (fi : Nat) ∧ Rb w s p q wr (13 * fi) s8 s9) (fun _ _ s10 _ => 4 - (intOf s10).toNat)
  case atStart => exact ⟨0, by omega, rfl, Below.refl _ _, .inl ⟨rfl, rfl, rfl⟩⟩
  case round =>
    obtain ⟨fi, hfi, rfl, hRb⟩ := hrel
    by_cases hlt : fi < 4
    · have hd4 : decide ((fi : Int) < 4) = true := decide_eq_true (by omega)
      replace hRb := Lib.hid hRb
      go_wp2_with fail
      obtain ⟨wo, rfl⟩ : ∃ wo, wo = wr := ⟨_, rfl⟩
      go_loopw [8, 9, 11] (fun s8 s9 s11 wr => ∃ sh : Nat, sh ≤ 13 ∧ s11 = .int .u8 (sh : Nat) ∧ Rb w s p q wr (13 * fi + sh) s8 s9) (fun _ _ s11 _ => 13 - (intOf s11).toNat)
      case atStart => exact ⟨0, by omega, rfl, hRb.out⟩
      case round =>
        obtain ⟨sh, hsh, rfl, hRb⟩ := hrel
        by_cases hlt2 : sh < 13
        · have hI := hRh.out.below hRb.1
          have HBk := Lib.hid (HB.out wr sh fi hI hlt2 hlt)
          have hRb' := Lib.hid hRb
          clear hRb
          go_wp2_with fail
          refine HBk.out.mono ?_
          rintro e W1 ⟨G, rfl, hG, hGl, hB1⟩
          have HDk := Lib.hid (HD.out W1 G sh fi hG.row)
          have hh := Lib.hid (And.intro hG (And.intro hGl hB1))
          clear hG hGl hB1 HBk
          go_wp2_with fail
          refine HDk.out.mono ?_
          rintro e W2 ⟨s1, rfl, hO, hB2⟩
          obtain ⟨hG, hGl, hB1⟩ := hh.out
          obtain ⟨a1, c1, rfl, hI1⟩ := own_irow (f := fun i => (stB (blkB s p q sh fi) p q (i + 1)).1) hO (fun i hi => outL_at _ p q 16 i hi)
          have hBB := hRb'.out.1.trans ((hB1.mono hRb'.out.1.size).trans (hB2.mono (Nat.le_trans hRb'.out.1.size hB1.size)))
          have HAk := HA.out W2 a1 c1 sh fi hlt hI1 (hRh.out.below hBB)
          rw [hfar.out sh fi hlt] at HAk
          have hm : (encF sh fi s p q 16).2.2 = blkF s p q (13 * fi + sh) := by
            unfold blkF
            rw [show (13 * fi + sh) % 13 = sh by omega, show (13 * fi + sh) / 13 = fi by omega]
          have hby : blkB s p q sh fi = bytD s p q (13 * fi + sh) := by
            unfold bytD
            rw [show (13 * fi + sh) % 13 = sh by omega, show (13 * fi + sh) / 13 = fi by omega]
          rw [hm] at HAk
          rw [hby] at hG
          have hG2 := hG.below hB2 hG.lt
          have hwG : w.heap.size ≤ G := Nat.le_trans hRb'.out.1.size hGl
          have hrb := hRb'.out.2
          have hkeep : ∀ G' g, Holds wr G' 9 g → Holds W2 G' 9 g := fun G' g h => (h.below hB1 h.lt).below hB2 (Nat.lt_of_lt_of_le h.lt hB1.size)
          replace HAk := Lib.hid HAk
          have hh2 := Lib.hid (And.intro hG2 (And.intro hwG hBB))
          replace hkeep := Lib.hid hkeep
          clear hG hGl hB1 hO hB2 hI1 hBB hG2 hm hby hh HDk hI hwG hRb'
          go_wp2_with fail
          refine HAk.out.mono ?_
          rintro e W3 ⟨rfl, hB3⟩
          obtain ⟨hG2, hwG, hBB⟩ := hh2.out
          have hG3 := hG2.below hB3 hG2.lt
          have hBB3 := hBB.trans (hB3.mono hBB.size)
          have hst : ∀ m, topF s p q (m + 1) = if blkF s p q (m + 1) < blkF s p q (topF s p q m) then m + 1 else topF s p q m := fun m => rfl
          generalize hme : 13 * fi + sh = m at *
          have hnew : Rb w s p q W3 (m + 1) (.slice (some ⟨G, 0, none⟩) 9 9) (.int .i64 (blkF s p q m)) ∨ True := .inr trivial
          have key : ∀ (H : topF s p q m = m), Rb w s p q W3 (m + 1) (.slice (some ⟨G, 0, none⟩) 9 9) (.int .i64 (blkF s p q m)) := fun H => ⟨hBB3, .inr ⟨Nat.succ_pos _, G, rfl, by rw [Nat.add_sub_cancel, H]; exact hG3, hwG, by rw [Nat.add_sub_cancel, H]⟩⟩
          clear hnew
          rcases hrb with ⟨hm0, rfl, rfl⟩ | ⟨hm0, G', rfl, hG', hwG', rfl⟩
          · have hk := Lib.hid (key (by rw [hm0]; rfl))
            clear key hG3 hBB3 hG2 hwG hBB hB3 hst HAk hkeep hh2
            generalize blkF s p q m = F at *
            have en := eql_nil1
            go_wp2_with fail
            go_roundw
            case rel => exact ⟨sh + 1, by omega, by go_num, by rw [← Nat.add_assoc, hme]; exact hk.out⟩
            case measure => simp [intOf]; omega
          · obtain ⟨m', rfl⟩ : ∃ m', m = m' + 1 := ⟨m - 1, by omega⟩
            rw [Nat.add_sub_cancel] at hG' ⊢
            have hst2 := hst m'
            by_cases hc : blkF s p q (m' + 1) < blkF s p q (topF s p q m')
            · rw [if_pos hc] at hst2
              have hk := Lib.hid (key hst2)
              have hdc : decide (blkF s p q (m' + 1) < blkF s p q (topF s p q m')) = true := decide_eq_true hc
              clear key hG3 hBB3 hG2 hwG hBB hB3 hst HAk hkeep hh2 hst2 hG' hwG'
              generalize blkF s p q (m' + 1) = F at *
              generalize blkF s p q (topF s p q m') = F' at *
              have en := eql_nil2 ⟨G', 0, none⟩ 9 9
              go_wp2_with fail
              go_roundw
              case rel => exact ⟨sh + 1, by omega, by go_num, by rw [← Nat.add_assoc, hme]; exact hk.out⟩
              case measure => simp [intOf]; omega
            · rw [if_neg hc] at hst2
              have hold : Rb w s p q W3 (m' + 1 + 1) (.slice (some ⟨G', 0, none⟩) 9 9) (.int .i64 (blkF s p q (topF s p q m'))) := by
                have h5 := hkeep.out G' _ hG'
                have h6 := h5.below hB3 h5.lt
                exact ⟨hBB3, .inr ⟨Nat.succ_pos _, G', rfl, by rw [Nat.add_sub_cancel, hst2]; exact h6, hwG', by rw [Nat.add_sub_cancel, hst2]⟩⟩
              replace hold := Lib.hid hold
              have hdc : decide (blkF s p q (m' + 1) < blkF s p q (topF s p q m')) = false := decide_eq_false hc
              clear key hG3 hBB3 hG2 hwG hBB hB3 hst HAk hkeep hh2 hst2 hG' hwG'
              generalize blkF s p q (m' + 1) = F at *
              generalize blkF s p q (topF s p q m') = F' at *
              have en := eql_nil2 ⟨G', 0, none⟩ 9 9
              go_wp2_with fail
              go_roundw
              case rel => exact ⟨sh + 1, by omega, by go_num, by rw [← Nat.add_assoc, hme]; exact hold.out⟩
              case measure => simp [intOf]; omega
        · obtain rfl : sh = 13 := by omega
          replace hRb := Lib.hid hRb
          go_wp2_with fail
          go_roundw
          case rel => exact ⟨fi + 1, by omega, by go_num, by have := hRb.out; rw [show 13 * (fi + 1) = 13 * fi + 13 by omega]; exact this⟩
          case measure => simp [intOf]; omega
    · obtain rfl : fi = 4 := by omega
      obtain ⟨hB, ⟨h, _, _⟩ | ⟨_, G, rfl, hG, hwG, rfl⟩⟩ := hRb
      · omega
      have hh := Lib.hid (And.intro hG (And.intro hwG hB))
      clear hG hwG hB
      go_wp2_with fail
      exact bodyPost_ret (results_tmp2 rfl _ _ _) rfl ⟨G, rfl, hh.out.1, hh.out.2.1, hh.out.2.2⟩
end Go.Proofs.Ytekjcgckniopdaa
