/-
  CodesBack: the walk.
-/
import Derived.Test.YtmbpkpideepghaaDoorBack
import Derived.Test.YtmbpkpideepghaaDoorCpy
namespace Go.Proofs.YtmbpkpideepghaaDoor.codesBack
open Go.RowKit
set_option maxRecDepth 1000000
set_option maxHeartbeats 1000000
set_option linter.unusedVariables false

theorem listF_len (g : Nat → Nat) : ∀ k, (listF g k).length = k
  | 0 => rfl
  | k + 1 => by simp [listF, listF_len g k]
theorem listF_lt (g : Nat → Nat) : ∀ k, (∀ i, i < k → g i < 256) → ∀ x ∈ listF g k, x < 256
  | 0, _, x, hx => by cases hx
  | k + 1, h, x, hx => by
    rw [listF, List.mem_append, List.mem_singleton] at hx
    rcases hx with hx | rfl
    · exact listF_lt g k (fun i hi => h i (by omega)) x hx
    · exact h k (by omega)
/-- The bytes of a row, as they are taken back. -/
theorem row_back (W : World) (a : Option Addr) (n k : Nat) (f : Nat → Nat) (h : Row W a n f) (hk : 1 + k ≤ n) : Row W a (1 + k) (fun i => (f 0 :: listF (fun j => f (j + 1)) k).getD i 0) := by
  have e : ∀ i, i < 1 + k → (f 0 :: listF (fun j => f (j + 1)) k).getD i 0 = f i := by
    intro i hi
    cases i with
    | zero => rfl
    | succ i =>
      rw [List.getD_cons_succ]
      exact listF_get _ k i (by omega)
  rcases h with ⟨hb, h0 | ⟨b, o, rfl, hbl, hc⟩⟩
  · omega
  · exact ⟨fun i hi => by show (f 0 :: listF (fun j => f (j + 1)) k).getD i 0 < 256; rw [e i hi]; exact hb i (by omega), .inr ⟨b, o, rfl, hbl, fun i hi => by show _ = some (Value.int .u8 (((f 0 :: listF (fun j => f (j + 1)) k).getD i 0 : Nat) : Int)); rw [e i hi]; exact hc i (by omega)⟩⟩
attribute [local irreducible] bytesN modeF nameF widthF operN withL textL dolL namesOf digF cutA cutB goR bytesR listF
theorem walk (a : Option Addr) (n cap : Nat) (f : Nat → Nat) (pc p : Nat) (w : World) (hR : Row w a n f) (hcap : n ≤ cap) (hn : n ≤ 140737488351232) (hpc : pc < 65536) (hp : p < 256) :
    Calls Tryd.prog 7 #[.slice a n cap, .int .u16 pc, .int .u8 p] w fun e w' => e = .returned (.bool true) ∧ Below w.heap.size w w' := by
  have HC := copied_any a n cap f w hR (by omega)
  have HT := fun (W : World) (G : Nat) (hH : Holds W G n f) => text_any (some ⟨G, 0, none⟩) n n f pc p W hH.row (Nat.le_refl _) (by omega) hpc hp
  have HA := Lib.hid awake_any
  by_cases h0 : n = 0
  · subst h0
    have : txOk 0 f p = false := by unfold txOk; simp
    rw [this] at HT
    unfold txtV at HT
    replace HC := Lib.hid HC
    replace HT := Lib.hid HT
    clear hR
    go_enter Tryd.func7, Tryd.ntmps7
    go_wp2_with fail
    refine HC.out.mono ?_
    rintro e W1 ⟨G, rfl, hG, _, hb1⟩
    go_wp2_with fail
    refine (HT.out _ _ hG).mono ?_
    rintro e W2 ⟨rfl, hb2⟩
    have hbw := hb1.trans (hb2.mono hb1.size)
    clear hb1 hb2 hG HC HT
    go_wp2_with fail
    refine (HA.out _).mono ?_
    rintro e W3 ⟨rfl, hb3⟩
    replace hbw := hbw.trans (hb3.mono hbw.size)
    go_wp2_with fail
    go_ret
    exact ⟨rfl, hbw⟩
  have hx := hR.1 0 (by omega)
  have hk := operN_le (f 0) p
  have HS := fun W => size_any (f 0) p W hx hp
  rw [show 1 + opF (modeF (f 0)) (widthF (nameF (f 0)).toList) p = 1 + operN (f 0) p by unfold operN; rfl] at HS
  have hok : txOk n f p = decide (1 + operN (f 0) p ≤ n) := by unfold txOk; simp [h0]
  rw [hok] at HT
  obtain ⟨hb, h | ⟨b, o, rfl, hbl, hcl⟩⟩ := hR
  · exact absurd h h0
  have c0 := hcl 0 (by omega)
  rw [Nat.add_zero] at c0
  have hbw0 : ∀ W, Below w.heap.size w W → W.cell? ⟨b, o, none⟩ = some (.int .u8 (f 0 : Nat)) := fun W hB => (hB.cell (p := ⟨b, o, none⟩) hbl).trans c0
  by_cases hle : 1 + operN (f 0) p ≤ n
  · rw [decide_eq_true hle] at HT
    unfold txtV at HT
    have hgf : ∀ i, i < operN (f 0) p → f (i + 1) < 256 := fun i hi => hb (i + 1) (by omega)
    have hBk := text_back (f 0) pc p (fun j => f (j + 1)) hx hpc hgf
    have htl : (textL (f 0) (operN (f 0) p) (fun i => f (i + 1)) pc).length ≤ 60 := by
      have h1 := piecesL_len (operN (f 0) p) (fun i => f (i + 1)) (tgN (modeF (f 0)) (operN (f 0) p) (fun i => f (i + 1)) pc) (formL (modeF (f 0))) hk
      have h2 := formL_len _ (modeF_lt _ hx)
      have h3 := nameL_len (f 0) hx
      unfold textL opL
      rw [List.length_append]
      split
      · simp; omega
      · rw [List.length_cons]; omega
    have hts : (bytesN (textL (f 0) (operN (f 0) p) (fun i => f (i + 1)) pc)).size ≤ 60 := by rw [bytesN_size]; exact htl
    have HB := fun W => bytes_any (bytesN (textL (f 0) (operN (f 0) p) (fun i => f (i + 1)) pc)) pc p W (by omega) hpc hp
    rw [hBk] at HB
    have hrow := fun W (hB : Below w.heap.size w W) => row_back W (some ⟨b, o, none⟩) n (operN (f 0) p) f ((show Row w (some ⟨b, o, none⟩) n f from ⟨hb, .inr ⟨b, o, rfl, hbl, hcl⟩⟩).below hB) hle
    have hll : (f 0 :: listF (fun j => f (j + 1)) (operN (f 0) p)).length = 1 + operN (f 0) p := by rw [List.length_cons, listF_len]; omega
    have hlt : ∀ x ∈ (f 0 :: listF (fun j => f (j + 1)) (operN (f 0) p)), x < 256 := by
      intro x hx'
      rw [List.mem_cons] at hx'
      rcases hx' with rfl | hx'
      · exact hx
      · exact listF_lt _ _ hgf x hx'
    simp only [hll] at HB
    generalize bytesN (textL (f 0) (operN (f 0) p) (fun i => f (i + 1)) pc) = TX at *
    generalize (f 0 :: listF (fun j => f (j + 1)) (operN (f 0) p)) = BL at *
    have HM := fun W x y d (h1 : Row W x (1 + operN (f 0) p) (fun i => BL.getD i 0)) (h2 : Row W y (1 + operN (f 0) p) (fun i => BL.getD i 0)) => same_any x y (1 + operN (f 0) p) d cap (fun i => BL.getD i 0) W h1 h2 (by omega)
    generalize operN (f 0) p = k at *
    generalize f 0 = x at *
    clear hgf hBk htl hts hok hcl hb
    replace HC := Lib.hid HC
    replace HT := Lib.hid HT
    replace HB := Lib.hid HB
    replace HS := Lib.hid HS
    replace HM := Lib.hid HM
    replace hrow := Lib.hid hrow
    replace hlt := Lib.hid hlt
    replace hbw0 := Lib.hid hbw0
    have hll := Lib.hid hll
    go_enter Tryd.func7, Tryd.ntmps7
    go_wp2_with fail
    refine HC.out.mono ?_
    rintro e W1 ⟨G, rfl, hG, _, hb1⟩
    replace hG := Lib.hid hG
    go_wp2_with fail
    refine (HT.out _ _ hG.out).mono ?_
    rintro e W2 ⟨rfl, hb2⟩
    have hbw := hb1.trans (hb2.mono hb1.size)
    clear hb1 hb2 hG HC HT
    have c2 := hbw0.out _ hbw
    go_wp2_with fail
    refine (HS.out _).mono ?_
    rintro e W3 ⟨rfl, rfl⟩
    go_wp2_with fail
    refine (HB.out _).mono ?_
    rintro e W3 ⟨v, rfl, ho, hb3⟩
    have hbw3 := hbw.trans (hb3.mono hbw.size)
    obtain ⟨a', cap', rfl, hRow, _⟩ := own_row ho hll.out.symm hlt.out
    rw [hll.out] at hRow
    have hMM := Lib.hid (HM.out W3 a' (some ⟨b, o, none⟩) cap' hRow (hrow.out _ hbw3))
    rw [hll.out] at ho
    clear HB HM hRow ho hb3 hbw
    go_wp2_with fail
    refine hMM.out.mono ?_
    rintro e W4 ⟨rfl, hb4⟩
    have hbw4 := hbw3.trans (hb4.mono hbw3.size)
    clear hb4 hbw3 hMM
    go_wp2_with fail
    refine (HA.out _).mono ?_
    rintro e W5 ⟨rfl, hb5⟩
    replace hbw4 := hbw4.trans (hb5.mono hbw4.size)
    go_wp2_with fail
    go_ret
    exact ⟨rfl, hbw4⟩
  · rw [decide_eq_false hle] at HT
    unfold txtV at HT
    generalize operN (f 0) p = k at *
    generalize f 0 = x at *
    clear hok hcl hb
    replace HC := Lib.hid HC
    replace HT := Lib.hid HT
    replace HS := Lib.hid HS
    replace hbw0 := Lib.hid hbw0
    go_enter Tryd.func7, Tryd.ntmps7
    go_wp2_with fail
    refine HC.out.mono ?_
    rintro e W1 ⟨G, rfl, hG, _, hb1⟩
    go_wp2_with fail
    refine (HT.out _ _ hG).mono ?_
    rintro e W2 ⟨rfl, hb2⟩
    have hbw := hb1.trans (hb2.mono hb1.size)
    clear hb1 hb2 hG HC HT
    have c2 := hbw0.out _ hbw
    go_wp2_with fail
    refine (HS.out _).mono ?_
    rintro e W3 ⟨rfl, rfl⟩
    go_wp2_with fail
    refine (HA.out _).mono ?_
    rintro e W3 ⟨rfl, hb3⟩
    replace hbw := hbw.trans (hb3.mono hbw.size)
    go_wp2_with fail
    go_ret
    exact ⟨rfl, hbw⟩
end Go.Proofs.YtmbpkpideepghaaDoor.codesBack
