/-
  A walker fetches; it reads from the direct page; from the stack.
-/
import Derived.Test.YtkbieadebfpjdaaWk3
import Derived.StillTailTactics
import Derived.BigQuiet
namespace Go.Proofs.Ytkbieadebfpjdaa
open Go.RowKit Go.Shelf
set_option maxRecDepth 100000
set_option maxHeartbeats 1000000
set_option linter.unusedVariables false

theorem fetch1_eq (s : Ws) : fetch1M s = ((readM (s.r.K * 65536 + s.r.PC) s).1, { (readM (s.r.K * 65536 + s.r.PC) s).2 with r := { (readM (s.r.K * 65536 + s.r.PC) s).2.r with PC := ((readM (s.r.K * 65536 + s.r.PC) s).2.r.PC + 1) % 65536 } }) := rfl
theorem read_r (a : Nat) (s : Ws) : (readM a s).2.r = s.r := by
  unfold readM takeM Ws.put
  split <;> split <;> rfl
theorem Wk.inc {W0 w : World} {B b : Nat} {s : Ws} (h : Wk W0 B b s w) : Wk W0 B b { s with r := { s.r with PC := (s.r.PC + 1) % 65536 } } (w.setCell ⟨b, 5, none⟩ (.int .u16 ((s.r.PC + 1) % 65536 : Nat))) := by
  obtain ⟨a, c, lv, h1, h2, h3, h4⟩ := h.cells
  have ok := h.ok
  exact ⟨⟨ok.A, ok.X, ok.Y, ok.S, ok.D, Nat.mod_lt _ (by decide), ok.B, ok.K, ok.P⟩, ⟨a, c, lv, h1.put 5 _, h2, h3, row_put h4 (p := ⟨b, 5, none⟩) (own_apart h4 h1 (by decide)) _⟩, h.here, h.bel.setCell (p := ⟨b, 5, none⟩) h.here _, h.base⟩
theorem fetch1_any {W0 w : World} {B b x i : Nat} {s : Ws} (h : Wk W0 B b s w) (q : Whole w x 62 #[.pointer (some ⟨b, 0, none⟩)]) (hl : s.l.length ≤ 100) :
    Calls Try.prog 34 #[.int .u32 (i : Nat), .pointer (some ⟨x, 0, none⟩)] w fun e w' => e = .returned (.int .u8 ((fetch1M s).1 : Nat)) ∧ Wk W0 B b (fetch1M s).2 w' ∧ Keeps b w w' ∧ (fetch1M s).1 < 256 := by
  have hok := h.ok
  have hK := hok.K
  have hPC := hok.PC
  obtain ⟨sa, c, lv, hc, hnc, hR, ho⟩ := h.cells
  have qd := q.drew
  have hcd := hc.drew
  have d0 := qd.cell 0
  have c5 := hcd.cell 5
  have c7 := hcd.cell 7
  unfold wkC at c5 c7
  simp only [List.getElem?_toArray, List.getElem?_cons_zero, List.getElem?_cons_succ] at c5 c7 d0
  have hne : x ≠ b := fun e => by
    subst e
    have := (show w.heap[x]? = _ from q).symm.trans hc
    injection this with this
    injection this with h1 h2
    cases h2
  have hd : Keeps b w w.drew := Keeps.below (Below.drew (Below.refl _ _))
  have HR := read_any (s.r.K * 65536 + s.r.PC) h.drew hl (by omega)
  rw [fetch1_eq]
  have hrr := read_r (s.r.K * 65536 + s.r.PC) s
  obtain ⟨v, hv⟩ : ∃ v, s.r.K * 65536 + s.r.PC = v := ⟨_, rfl⟩
  have HA := fun W => address_v (b := s.r.K) (n := s.r.PC) (v := v) (x := (s.r.K : Nat)) (z := (s.r.PC : Nat)) W rfl rfl hK (by omega) (by rw [← hv]; congr 1; omega)
  rw [hv] at HR hrr ⊢
  generalize readM v s = p1 at *
  obtain ⟨y, s1⟩ := p1
  dsimp only at *
  rw [← hrr] at c5 c7 HA
  rw [← hrr] at hPC
  replace HR := Lib.hid HR
  replace HA := Lib.hid HA
  replace hd := Lib.hid hd
  replace q := Lib.hid q
  clear hc hR ho hnc h hl hv hrr qd hcd hok hK
  have e0 : IntKind.u32.wrap (s1.r.PC : Int) = (s1.r.PC : Int) := by simp only [IntKind.wrap_u32]; omega
  go_enter Try.func34, Try.ntmps34
  go_upto_region 1 with (fail)
  refine wp_region_still_tail 13 (by kernel_rfl) (by kernel_rfl) ?_
  simp only [List.take_succ_cons, List.take_zero, List.drop_succ_cons, List.drop_zero]
  repeat still_step
  still_call ((HA.out _).mono (by rintro e w' ⟨rfl, rfl⟩; exact ⟨rfl, rfl⟩))
  refine wpStill_nil ?_
  show wpList _ _ _ _ _ w.drew
  generalize w.drew = W1 at *
  clear HA
  go_wp2_with fail
  refine HR.out.mono ?_
  rintro e w1 ⟨rfl, h1, h2, h3⟩
  clear HR c5 c7 d0
  obtain ⟨sa, c, lv, hc, _⟩ := h1.cells
  have q1 := (hd.out.trans h2) _ _ _ hne (by decide) q.out
  have d0 := q1.cell 0
  have c5 := hc.cell 5
  have f5 := hc.free 5
  unfold wkC at c5
  simp only [List.getElem?_toArray, List.getElem?_cons_zero, List.getElem?_cons_succ] at c5 d0
  have hfin := Lib.hid (And.intro h1.inc ((hd.out.trans h2).set 5 (.int .u16 ((s1.r.PC + 1) % 65536 : Nat))))
  have e1 : ((s1.r.PC : Int) + 1) % 65536 = (((s1.r.PC + 1) % 65536 : Nat) : Int) := by omega
  have e2 : IntKind.u16.wrap ((s1.r.PC : Int) + 1) = (((s1.r.PC + 1) % 65536 : Nat) : Int) := by simp only [IntKind.wrap_u16]; omega
  obtain ⟨z, hz⟩ : ∃ z, (s1.r.PC + 1) % 65536 = z := ⟨_, rfl⟩
  rw [hz] at e1 e2
  replace hz := Lib.hid hz
  replace h3 := Lib.hid h3
  clear hc q1 h1 h2 hd q
  go_wp2_with fail
  go_ret
  have hz2 := hz.out
  subst hz2
  exact ⟨rfl, hfin.out.1, hfin.out.2, h3.out⟩
end Go.Proofs.Ytkbieadebfpjdaa
