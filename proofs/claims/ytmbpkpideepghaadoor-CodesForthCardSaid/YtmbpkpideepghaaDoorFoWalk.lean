/-
  CodesForth: the walk.
-/
import Derived.Test.YtmbpkpideepghaaDoorByt
namespace Go.Proofs.YtmbpkpideepghaaDoor
open Go.RowKit
set_option maxRecDepth 1000000
set_option maxHeartbeats 1000000
set_option linter.unusedVariables false

/-- What Bytes takes, and what it refuses. -/
theorem goR_says (s op : ByteArray) (n pc p : Nat) : ∀ L, (∃ c, c ∈ L ∧ hitB c n pc p s = true ∧ goR s op n pc p L = (withL c (operN c p) n pc (operN c p), 0)) ∨ goR s op n pc p L = ([], 61) ∨ goR s op n pc p L = ([], 62)
  | [] => .inr (.inl rfl)
  | c :: r => by
    rw [goR_cons]
    by_cases h : hitB c n pc p s = true
    · rw [if_pos h]
      exact .inl ⟨c, List.mem_cons_self, h, rfl⟩
    · rw [if_neg h]
      split
      · exact .inr (.inr rfl)
      · rcases goR_says s op n pc p r with ⟨c', h1, h2, h3⟩ | h | h
        · exact .inl ⟨c', List.mem_cons_of_mem _ h1, h2, h3⟩
        · exact .inr (.inl h)
        · exact .inr (.inr h)
theorem bytesR_says (s : ByteArray) (pc p : Nat) : (∃ c n, c < 256 ∧ hitB c n pc p s = true ∧ bytesR s pc p = (withL c (operN c p) n pc (operN c p), 0)) ∨ (∃ e, bytesR s pc p = ([], e) ∧ (e = 60 ∨ e = 61 ∨ e = 62)) := by
  unfold bytesR
  split
  · exact .inr ⟨60, rfl, .inl rfl⟩
  · rcases goR_says s (cutB s) (digF (cutB s)) pc p (namesOf s) with ⟨c, h1, h2, h3⟩ | h | h
    · exact .inl ⟨c, _, namesOf_lt s c h1, h2, h3⟩
    · exact .inr ⟨61, h, .inr (.inl rfl)⟩
    · exact .inr ⟨62, h, .inr (.inr rfl)⟩
namespace codesForth
attribute [local irreducible] bytesN modeF nameF widthF operN withL textL dolL namesOf digF cutA cutB goR bytesR
theorem walk (s : ByteArray) (pc p : Nat) (w : World) (hs : s.size ≤ 140737488351232) (hpc : pc < 65536) (hp : p < 256) :
    Calls Tryd.prog 8 #[.string s, .int .u16 pc, .int .u8 p] w fun e w' => e = .returned (.bool true) ∧ Below w.heap.size w w' := by
  have HB := bytes_any s pc p w (by omega) hpc hp
  have HA := Lib.hid awake_any
  rcases bytesR_says s pc p with ⟨c, n, hc, hh, hR⟩ | ⟨e, hR, he⟩
  · rw [hR] at HB
    have hk := operN_le c p
    have hl := withL_len c (operN c p) n pc (operN c p)
    have hlt := withL_lt c (operN c p) n pc (operN c p) hc
    have HT := fun W a cap hR hcap => try_row c n pc p W a cap hc hpc hp hR hcap
    have hTX : bytesN (tryL c n pc p) = s := toList_inj (by simpa [hitB] using hh)
    rw [hTX] at HT
    generalize withL c (operN c p) n pc (operN c p) = WL at *
    generalize operN c p = k at *
    have hl2 : WL.length = 1 + k := by omega
    simp only [hl2] at HB
    clear hl hh hTX hR
    have HC := fun W a cap (hR : Row W a (1 + k) (fun i => WL.getD i 0)) => copied_any a (1 + k) cap (fun i => WL.getD i 0) W hR (by omega)
    replace HB := Lib.hid HB
    replace HT := Lib.hid HT
    replace HC := Lib.hid HC
    have hlt' := Lib.hid hlt
    clear hlt
    have hlim : 1 + k ≤ 4 := by omega
    go_enter Tryd.func8, Tryd.ntmps8
    go_wp2_with fail
    refine HB.out.mono ?_
    rintro e W1 ⟨v, rfl, ho, hb1⟩
    obtain ⟨a, cap, rfl, hRow, _⟩ := own_row ho hl2.symm hlt'.out
    rw [hl2] at hRow
    replace hRow := Lib.hid hRow
    rw [hl2] at ho
    clear HB
    go_wp2_with fail
    refine (HC.out _ _ cap hRow.out).mono ?_
    rintro e W2 ⟨G, rfl, hG, hGl, hb2⟩
    have hbw := hb1.trans (hb2.mono hb1.size)
    replace hG := Lib.hid hG
    clear HC hRow ho hb1 hb2
    go_wp2_with fail
    refine (HT.out _ _ (1 + k) hG.out.row (Nat.le_refl _)).mono ?_
    rintro e W3 ⟨rfl, hb3⟩
    replace hbw := hbw.trans (hb3.mono hbw.size)
    clear HT hG hb3
    go_wp2_with fail
    refine (HA.out _).mono ?_
    rintro e W4 ⟨rfl, hb4⟩
    replace hbw := hbw.trans (hb4.mono hbw.size)
    clear hb4
    go_wp2_with fail
    go_ret
    exact ⟨rfl, hbw⟩
  · rw [hR] at HB
    clear hR
    replace HB := Lib.hid HB
    rcases he with rfl | rfl | rfl
    all_goals
      go_enter Tryd.func8, Tryd.ntmps8
      go_wp2_with fail
      refine HB.out.mono ?_
      rintro e W1 ⟨v, rfl, ho, hb1⟩
      obtain ⟨a0, cp, rfl⟩ : ∃ a0 cp, v = .slice a0 0 cp := by
        rcases ho.2 with ⟨rfl, h0⟩ | ⟨g, cap, cur, e, _⟩
        · exact ⟨none, 0, rfl⟩
        · exact ⟨_, _, e⟩
      clear ho HB
      go_wp2_with fail
      refine (HA.out _).mono ?_
      rintro e W2 ⟨rfl, hb2⟩
      have hbw := hb1.trans (hb2.mono hb1.size)
      clear hb1 hb2
      go_wp2_with fail
      go_ret
      exact ⟨rfl, hbw⟩
end codesForth
end Go.Proofs.YtmbpkpideepghaaDoor
