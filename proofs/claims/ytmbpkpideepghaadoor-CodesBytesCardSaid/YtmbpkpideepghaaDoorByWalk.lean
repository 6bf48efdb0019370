/-
  CodesBytes: the walk.
-/
import Derived.Test.YtmbpkpideepghaaDoorRByt
namespace Go.Proofs.YtmbpkpideepghaaDoor.codesBytes
open Go.RowKit
set_option maxRecDepth 1000000
set_option maxHeartbeats 1000000
set_option linter.unusedVariables false

theorem bytesR_lt (s : ByteArray) (pc p : Nat) : ∀ x ∈ (bytesR s pc p).1, x < 256 := by
  have hg : ∀ (op : ByteArray) (n : Nat) (L : List Nat), (∀ c ∈ L, c < 256) → ∀ x ∈ (goR s op n pc p L).1, x < 256 := by
    intro op n L
    induction L with
    | nil => intro _ x hx; rw [goR_nil] at hx; cases hx
    | cons c r ih =>
      intro hL x hx
      rw [goR_cons] at hx
      split at hx
      · exact withL_lt c _ n pc _ (hL c List.mem_cons_self) x hx
      · split at hx
        · cases hx
        · exact ih (fun c hc => hL c (List.mem_cons_of_mem _ hc)) x hx
  unfold bytesR
  split
  · intro x hx; cases hx
  · exact hg _ _ _ (namesOf_lt s)
theorem bytesR_len (s : ByteArray) (pc p : Nat) : (bytesR s pc p).1.length ≤ 4 := by
  have hg : ∀ (op : ByteArray) (n : Nat) (L : List Nat), (goR s op n pc p L).1.length ≤ 4 := by
    intro op n L
    induction L with
    | nil => rw [goR_nil]; simp
    | cons c r ih =>
      rw [goR_cons]
      split
      · show (withL c (operN c p) n pc (operN c p)).length ≤ 4
        rw [withL_len]
        have := operN_le c p
        omega
      · split
        · simp
        · exact ih
  unfold bytesR
  split
  · simp
  · exact hg _ _ _
attribute [local irreducible] bytesN modeF nameF widthF operN withL textL dolL namesOf digF cutA cutB goR bytesR
theorem walk (s : ByteArray) (pc p : Nat) (w : World) (hs : s.size ≤ 140737488351232) (hpc : pc < 65536) (hp : p < 256) :
    Calls Tryd.prog 6 #[.string s, .int .u16 pc, .int .u8 p] w fun e w' => e = .returned (.bool true) ∧ Below w.heap.size w w' := by
  have HD := rbytes_any s pc p w (by omega) hpc hp
  have HB := fun W => bytes_any s pc p W (by omega) hpc hp
  have HA := Lib.hid awake_any
  have hlt := bytesR_lt s pc p
  have hlen := bytesR_len s pc p
  generalize bytesR s pc p = R at *
  obtain ⟨l, er⟩ := R
  dsimp only at *
  have HM := fun W x y d c (h1 : Row W x l.length (fun i => l.getD i 0)) (h2 : Row W y l.length (fun i => l.getD i 0)) => same_any x y l.length c d (fun i => l.getD i 0) W h1 h2 (by omega)
  replace HD := Lib.hid HD
  replace HB := Lib.hid HB
  replace HM := Lib.hid HM
  replace hlt := Lib.hid hlt
  go_enter Tryd.func6, Tryd.ntmps6
  go_wp2_with fail
  refine HD.out.mono ?_
  rintro e W1 ⟨a, c, rfl, hr1, hb1⟩
  replace hr1 := Lib.hid hr1
  go_wp2_with fail
  refine (HB.out _).mono ?_
  rintro e W2 ⟨v, rfl, ho, hb2⟩
  obtain ⟨a', c', rfl, hRow, _⟩ := own_row ho rfl hlt.out
  have hbw := hb1.trans (hb2.mono hb1.size)
  have hr2 := hr1.out.below hb2
  have hM := Lib.hid (HM.out W2 a' a c c' hRow hr2)
  clear HD HB HM hr1 hr2 hRow ho hb1 hb2
  go_wp2_with fail
  refine hM.out.mono ?_
  rintro e W3 ⟨rfl, hb3⟩
  replace hbw := hbw.trans (hb3.mono hbw.size)
  clear hb3 hM
  go_wp2_with fail
  refine (HA.out _).mono ?_
  rintro e W4 ⟨rfl, hb4⟩
  replace hbw := hbw.trans (hb4.mono hbw.size)
  go_wp2_with fail
  go_ret
  exact ⟨rfl, hbw⟩
end Go.Proofs.YtmbpkpideepghaaDoor.codesBytes
