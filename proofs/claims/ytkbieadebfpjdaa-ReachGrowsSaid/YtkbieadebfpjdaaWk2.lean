/-
  A walker's idle and read.
-/
import Derived.Test.YtkbieadebfpjdaaWk
namespace Go.Proofs.Ytkbieadebfpjdaa
open Go.RowKit Go.Shelf
set_option maxRecDepth 100000
set_option maxHeartbeats 1000000
set_option linter.unusedVariables false

theorem idle_any {W0 w : World} {B b : Nat} {s : Ws} (h : Wk W0 B b s w) (hl : s.l.length ≤ 100) :
    Calls Try.prog 29 #[.pointer (some ⟨b, 0, none⟩)] w fun e w' => e = .returned (.tuple #[]) ∧ Wk W0 B b (idleM s).2 w' ∧ Keeps b w w' := by
  have HP := Lib.hid (put_any 0 0 h hl)
  clear h hl
  go_enter Try.func29, Try.ntmps29
  go_wp2_with fail
  refine HP.out.mono ?_
  rintro e w1 ⟨rfl, h1, h2⟩
  clear HP
  go_wp2_with fail
  go_end0
  exact ⟨rfl, h1, h2⟩
theorem Wk.stop {W0 w : World} {B b : Nat} {s : Ws} (h : Wk W0 B b s w) (hn : s.n = 0) : Wk W0 B b { s with st := true } (w.setCell ⟨b, 12, none⟩ (.bool true)) := by
  obtain ⟨a, c, lv, h1, h2, h3, h4⟩ := h.cells
  exact ⟨h.ok, ⟨a, c, lv, h1.put 12 _, h2, h3, row_put h4 (p := ⟨b, 12, none⟩) (own_apart h4 h1 (by decide)) _⟩, h.here, h.bel.setCell (p := ⟨b, 12, none⟩) h.here _, h.base⟩
theorem Wk.next {W0 w : World} {B b : Nat} {s : Ws} {a : Option Addr} {c : Nat} (h : Wk W0 B b s w) (hc : s.n - 1 ≤ c) (hR : Row W0 a (s.n - 1) (fun i => s.f (i + 1))) : Wk W0 B b { s with n := s.n - 1, f := fun i => s.f (i + 1) } (w.setCell ⟨b, 10, none⟩ (.slice a (s.n - 1) c)) := by
  obtain ⟨a0, c0, lv, h1, h2, h3, h4⟩ := h.cells
  exact ⟨h.ok, ⟨a, c, lv, h1.put 10 _, hc, hR, row_put h4 (p := ⟨b, 10, none⟩) (own_apart h4 h1 (by decide)) _⟩, h.here, h.bel.setCell (p := ⟨b, 10, none⟩) h.here _, h.base⟩
theorem read_any {W0 w : World} {B b : Nat} {s : Ws} (a : Nat) (h : Wk W0 B b s w) (hl : s.l.length ≤ 100) (ha : a < 16777216) :
    Calls Try.prog 32 #[.pointer (some ⟨b, 0, none⟩), .int .u32 a] w fun e w' => e = .returned (.int .u8 ((readM a s).1 : Nat)) ∧ Wk W0 B b (readM a s).2 w' ∧ Keeps b w w' ∧ (readM a s).1 < 256 := by
  have HP := put_any 1 a h hl
  unfold readM
  rw [Nat.mod_eq_of_lt ha]
  generalize s.put 1 a = s1 at *
  replace HP := Lib.hid HP
  clear h hl ha
  by_cases hn : s1.n = 0
  · rw [show takeM s1 = (0, { s1 with st := true }) from if_pos hn]
    go_enter Try.func32, Try.ntmps32
    go_wp2_with fail
    refine HP.out.mono ?_
    rintro e w1 ⟨rfl, h1, hK⟩
    clear HP
    obtain ⟨sa, c, lv, hc, hnc, hR, ho⟩ := h1.cells
    have c10 := hc.cell 10
    have c12 := hc.cell 12
    have f12 := hc.free 12
    unfold wkC at c10 c12
    simp only [List.getElem?_toArray, List.getElem?_cons_zero, List.getElem?_cons_succ] at c10 c12
    have hS := Lib.hid (And.intro (h1.stop hn) (hK.set 12 (.bool true)))
    rw [hn] at c10
    clear hc hR ho hnc h1 hK hn
    go_wp2_with fail
    go_ret
    exact ⟨rfl, hS.out.1, hS.out.2, by decide⟩
  · obtain ⟨m, hm⟩ : ∃ m, s1.n = m + 1 := ⟨s1.n - 1, by omega⟩
    have hmm : s1.n - 1 = m := by omega
    rw [show takeM s1 = (s1.f 0, { s1 with n := m, f := fun i => s1.f (i + 1) }) by unfold takeM; rw [if_neg hn, hmm]]
    obtain ⟨x, hx⟩ : ∃ x, s1.f 0 = x := ⟨_, rfl⟩
    rw [hx]
    replace hx := Lib.hid hx
    replace hm := Lib.hid hm
    replace hmm := Lib.hid hmm
    clear hn
    go_enter Try.func32, Try.ntmps32
    go_wp2_with fail
    refine HP.out.mono ?_
    rintro e w1 ⟨rfl, h1, hK⟩
    clear HP
    obtain ⟨sa, c, lv, hc, hnc, hR, ho⟩ := h1.cells
    have c10 := hc.cell 10
    have f10 := hc.free 10
    unfold wkC at c10
    simp only [List.getElem?_toArray, List.getElem?_cons_zero, List.getElem?_cons_succ] at c10
    obtain ⟨hb, h0 | ⟨g, o, rfl, hg, hcell⟩⟩ := hR
    · have := hm.out; omega
    have hx0 : x < 256 := by rw [← hx.out]; exact hb 0 (by have := hm.out; omega)
    have hcl := (h1.bel.cell (p := ⟨g, o + 0, none⟩) (by have := h1.base; show g < B; omega)).trans (hcell 0 (by have := hm.out; omega))
    rw [Nat.add_zero, hx.out] at hcl
    have hbase : ∀ i, i < m → s1.f (i + 1) < 256 := fun i hi => hb (i + 1) (by have := hm.out; omega)
    have HN : ∀ (c' : Nat) (a' : Option Addr), m ≤ c' → (m = 0 ∨ (a' = some ⟨g, o + 1, none⟩)) → Wk W0 B b { s1 with n := m, f := fun i => s1.f (i + 1) } (w1.setCell ⟨b, 10, none⟩ (.slice a' m c')) := fun c' a' hc' ha' => by
      have := h1.next (a := a') (c := c') (by rw [hmm.out]; exact hc') (by
        rw [hmm.out]
        refine ⟨hbase, ?_⟩
        rcases ha' with h0 | h0
        · exact .inl h0
        · exact .inr ⟨g, o + 1, h0, hg, fun i hi => by rw [Nat.add_assoc, Nat.add_comm 1 i]; exact hcell (i + 1) (by have := hm.out; omega)⟩)
      rw [hmm.out] at this
      exact this
    rw [hm.out] at c10 hnc
    have hlast : ∀ v, Keeps b w (w1.setCell ⟨b, 10, none⟩ v) := fun v => hK.set 10 v
    replace hlast := Lib.hid hlast
    replace HN := Lib.hid HN
    replace hx0 := Lib.hid hx0
    clear hc hb hbase hcell ho h1 hK hg
    have i1 : (((m + 1 : Nat) : Int) == 0) = false := by rw [beq_eq_false_iff_ne]; omega
    obtain ⟨c', rfl⟩ : ∃ c', c = c' + 1 := ⟨c - 1, by omega⟩
    have hmc : m ≤ c' := by omega
    have hmcH := Lib.hid hmc
    by_cases hc0 : c' = 0
    · subst hc0
      obtain rfl : m = 0 := by omega
      clear hnc hmc
      go_wp2_with fail
      go_ret
      exact ⟨rfl, HN.out 0 (some ⟨g, o, none⟩) (Nat.le_refl _) (.inl (by trivial)), hlast.out _, hx0.out⟩
    · clear hnc
      go_wp2_with fail
      go_ret
      exact ⟨rfl, HN.out c' (some ⟨g, o + 1, none⟩) hmcH.out (.inr rfl), hlast.out _, hx0.out⟩
end Go.Proofs.Ytkbieadebfpjdaa
