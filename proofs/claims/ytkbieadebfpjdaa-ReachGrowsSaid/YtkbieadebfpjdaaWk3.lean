/-
  A walker's numbers: number, fetch, direct.
-/
import Derived.Test.YtkbieadebfpjdaaWk2
namespace Go.Proofs.Ytkbieadebfpjdaa
open Go.RowKit Go.Shelf
set_option maxRecDepth 100000
set_option maxHeartbeats 1000000
set_option linter.unusedVariables false

theorem num_lt {F : Nat → M Nat} {s : Ws} : ∀ {m : Nat}, (∀ i, i < m → (F i (numM F i s).2).1 < 256) → (numM F m s).1 < 256 ^ m
  | 0, _ => Nat.zero_lt_one
  | k + 1, h => by
    have h1 := num_lt (F := F) (s := s) (m := k) (fun i hi => h i (by omega))
    have h2 := h k (by omega)
    show (numM F k s).1 + (F k (numM F k s).2).1 * 256 ^ k < 256 ^ (k + 1)
    have h3 : (F k (numM F k s).2).1 * 256 ^ k ≤ 255 * 256 ^ k := Nat.mul_le_mul_right _ (by omega)
    rw [Nat.pow_succ]
    omega
theorem or_step {n v j : Nat} (hj : j < 3) (hn : n < 256 ^ j) (hv : v < 256) : bits .or .u32 (n : Int) ((v * 256 ^ j : Nat) : Int) = ((n + v * 256 ^ j : Nat) : Int) := by
  have h1 : (256 : Nat) ^ j = 2 ^ (8 * j) := by rw [Nat.pow_mul]
  have h2 : v * 256 ^ j ≤ 255 * 256 ^ j := Nat.mul_le_mul_right _ (by omega)
  have h3 : 256 ^ j ≤ 65536 := by
    rcases (show j = 0 ∨ j = 1 ∨ j = 2 by omega) with rfl | rfl | rfl <;> decide
  rw [u32_or_nat _ _ (by omega) (by omega)]
  congr 1
  rw [h1] at hn ⊢
  rw [Nat.or_comm, Nat.add_comm, ← Nat.shiftLeft_eq, Nat.shiftLeft_add_eq_or_of_lt hn]
theorem step_lt {n v j : Nat} (hn : n < 256 ^ j) (hv : v < 256) : n + v * 256 ^ j < 256 ^ (j + 1) := by
  have h2 : v * 256 ^ j ≤ 255 * 256 ^ j := Nat.mul_le_mul_right _ (by omega)
  rw [Nat.pow_succ]
  omega
theorem number_any {W0 w : World} {B b k m : Nat} {s : Ws} {F : Nat → M Nat} {caps : Array Value} {Q : World → Prop} (hm : m ≤ 3)
    (hcl : ∀ i s w, i < m → Wk W0 B b s w → Q w → s.l.length ≤ 100 → Calls Try.prog k (#[.int .u32 (i : Nat)] ++ caps) w fun e w' => e = .returned (.int .u8 ((F i s).1 : Nat)) ∧ Wk W0 B b (F i s).2 w' ∧ Keeps b w w' ∧ (F i s).1 < 256)
    (hQ : ∀ w w', Q w → Keeps b w w' → Q w') (hF : ∀ i, Good (F i) 1) (hen : ∀ (args : Array Value) (W : World), (callFunc k args).run Try.prog W = .ok (.enter k args) W)
    (h : Wk W0 B b s w) (q : Q w) (hl : s.l.length + m ≤ 100) :
    Calls Try.prog 30 #[.int .u32 (m : Nat), .func (.func k) #[] caps] w fun e w' => e = .returned (.int .u32 ((numM F m s).1 : Nat)) ∧ Wk W0 B b (numM F m s).2 w' ∧ Keeps b w w' ∧ (numM F m s).1 < 256 ^ m := by
  have hlen : ∀ j, j < m → (numM F j s).2.l.length ≤ 100 := fun j hj => by have := (Good.num hF j).cost s; omega
  have hcl2 := Lib.hid (fun j (hj : j < m) w (hW : Wk W0 B b (numM F j s).2 w) (q : Q w) => hcl j (numM F j s).2 w hj hW q (hlen j hj))
  replace hm := Lib.hid hm
  clear hcl hlen hl
  go_enter Try.func30, Try.ntmps30
  go_wp2_with fail
  go_loopw [5, 8] (fun s5 s8 wr => ∃ j : Nat, j ≤ m ∧ s5 = .int .u32 ((numM F j s).1 : Nat) ∧ s8 = .int .u32 (j : Nat) ∧ Hid ((numM F j s).1 < 256 ^ j) ∧ Hid (Wk W0 B b (numM F j s).2 wr ∧ Keeps b w wr)) (fun _ s8 _ => m - (intOf s8).toNat)
  case atStart => exact ⟨0, Nat.zero_le _, rfl, rfl, Lib.hid Nat.zero_lt_one, Lib.hid ⟨h, Keeps.refl _ _⟩⟩
  case round =>
    obtain ⟨j, hj, rfl, rfl, hn, hWK⟩ := hrel
    by_cases hlt : j < m
    · have hC := hcl2.out j hlt wr hWK.out.1 (hQ _ _ q hWK.out.2)
      have hstep : numM F (j + 1) s = ((numM F j s).1 + (F j (numM F j s).2).1 * 256 ^ j, (F j (numM F j s).2).2) := rfl
      generalize numM F j s = p0 at *
      obtain ⟨n, s1⟩ := p0
      dsimp only at *
      generalize F j s1 = p2 at *
      obtain ⟨v, s2⟩ := p2
      dsimp only at *
      replace hC := Lib.hid hC
      replace hstep := Lib.hid hstep
      have hj3 : j < 3 := by have := hm.out; omega
      clear hcl2
      rcases (show j = 0 ∨ j = 1 ∨ j = 2 by omega) with rfl | rfl | rfl
      · go_wp2_with fail
        refine hC.out.mono ?_
        rintro e w1 ⟨rfl, h1, h2, h3⟩
        go_wp2_with fail
        refine ⟨⟨1, hlt, ?_, rfl, ?_, ?_⟩, by simp [intOf]; omega⟩
        · rw [hstep.out, ← or_step (by decide) hn.out h3]
          congr 2
          all_goals simp
        · rw [hstep.out]; exact Lib.hid (step_lt hn.out h3)
        · rw [hstep.out]; exact Lib.hid ⟨h1, hWK.out.2.trans h2⟩
      · go_wp2_with fail
        refine hC.out.mono ?_
        rintro e w1 ⟨rfl, h1, h2, h3⟩
        go_wp2_with fail
        refine ⟨⟨2, hlt, ?_, rfl, ?_, ?_⟩, by simp [intOf]; omega⟩
        · rw [hstep.out, ← or_step (by decide) hn.out h3]
          congr 2
          all_goals simp
        · rw [hstep.out]; exact Lib.hid (step_lt hn.out h3)
        · rw [hstep.out]; exact Lib.hid ⟨h1, hWK.out.2.trans h2⟩
      · go_wp2_with fail
        refine hC.out.mono ?_
        rintro e w1 ⟨rfl, h1, h2, h3⟩
        go_wp2_with fail
        refine ⟨⟨3, hlt, ?_, rfl, ?_, ?_⟩, by simp [intOf]; omega⟩
        · rw [hstep.out, ← or_step (by decide) hn.out h3]
          congr 2
          all_goals simp
        · rw [hstep.out]; exact Lib.hid (step_lt hn.out h3)
        · rw [hstep.out]; exact Lib.hid ⟨h1, hWK.out.2.trans h2⟩
    · obtain rfl : j = m := by omega
      go_wp2_with fail
      go_ret
      exact ⟨rfl, hWK.out.1, hWK.out.2, hn.out⟩
end Go.Proofs.Ytkbieadebfpjdaa
