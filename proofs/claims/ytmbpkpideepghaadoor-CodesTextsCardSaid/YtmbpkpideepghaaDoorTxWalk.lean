/-
  CodesTexts: the walk.
-/
import Derived.Test.YtmbpkpideepghaaDoorRTxt
import Derived.Test.YtmbpkpideepghaaDoorAwk
import Derived.Test.YtmbpkpideepghaaDoorCpy
namespace Go.Proofs.YtmbpkpideepghaaDoor.codesTexts
open Go.RowKit
set_option maxRecDepth 1000000
set_option maxHeartbeats 1000000
set_option linter.unusedVariables false

attribute [local irreducible] bytesN textL operN txOk
theorem walk (a : Option Addr) (n cap : Nat) (g : Nat → Nat) (pc p : Nat) (w : World) (hR : Row w a n g) (hnc : n ≤ cap) (hn : n ≤ 140737488355328) (hpc : pc < 65536) (hp : p < 256) :
    Calls Tryd.prog 5 #[.slice a n cap, .int .u16 pc, .int .u8 p] w fun e w' => e = .returned (.bool true) ∧ Below w.heap.size w w' := by
  have H1 := rtext_any a n cap g pc p w hR hn hpc hp
  have H2 := fun W (hW : Below w.heap.size w W) => copied_any a n cap g W (hR.below hW) hn
  have H3 := fun (W : World) (G : Nat) (hG : Holds W G n g) => text_any (some ⟨G, 0, none⟩) n n g pc p W hG.row (Nat.le_refl _) hn hpc hp
  have H4 := fun (W : World) (G : Nat) (hW : Below w.heap.size w W) (hG : Holds W G n g) => same_any (some ⟨G, 0, none⟩) a n n cap g W hG.row (hR.below hW) hn
  have H5 := awake_any
  obtain ⟨s, k, b, hv⟩ : ∃ s k b, txtV (txOk n g p) (textL (g 0) (operN (g 0) p) (fun i => g (i + 1)) pc) (1 + operN (g 0) p) = .tuple #[.string s, .int .i64 k, .bool b] := by
    unfold txtV
    cases txOk n g p
    · exact ⟨_, _, _, rfl⟩
    · exact ⟨_, _, _, rfl⟩
  rw [hv] at H1
  simp only [hv] at H3
  clear hv
  replace H1 := Lib.hid H1
  replace H2 := Lib.hid H2
  replace H3 := Lib.hid H3
  replace H4 := Lib.hid H4
  replace H5 := Lib.hid H5
  clear hR
  go_enter Tryd.func5, Tryd.ntmps5
  go_wp2_with fail
  refine H1.out.mono ?_
  rintro e W1 ⟨rfl, hb1⟩
  go_wp2_with fail
  refine (H2.out _ hb1).mono ?_
  rintro e W2 ⟨G, rfl, hG, hGl, hb2⟩
  have hbw := hb1.trans (hb2.mono hb1.size)
  clear hb1 hb2 H1 H2
  go_wp2_with fail
  refine (H3.out _ G hG).mono ?_
  rintro e W3 ⟨rfl, hb3⟩
  have hG3 := hG.below hb3 hG.lt
  replace hbw := hbw.trans (hb3.mono hbw.size)
  clear hG hb3 H3
  go_wp2_with fail
  refine (H4.out _ G hbw hG3).mono ?_
  rintro e W4 ⟨rfl, hb4⟩
  replace hbw := hbw.trans (hb4.mono hbw.size)
  clear hG3 hb4
  go_wp2_with fail
  refine (H5.out _).mono ?_
  rintro e W5 ⟨rfl, hb5⟩
  replace hbw := hbw.trans (hb5.mono hbw.size)
  go_wp2_with fail
  go_ret
  exact ⟨rfl, hbw⟩
end Go.Proofs.YtmbpkpideepghaaDoor.codesTexts
