/-
  The operands of an instruction are fetched.
-/
import Derived.Test.YthecghmhohkcmaaGreatDoorTTo
import Derived.Test.YthecghmhohkcmaaGreatDoorTZd
namespace Go.Proofs.YthecghmhohkcmaaGreatDoor
open Go.RowKit Go.Shelf
set_option maxRecDepth 100000
set_option maxHeartbeats 2000000
set_option linter.unusedVariables false

def letterOk (c : Nat) : Prop := c ∈ regL ∨ c = 35 ∨ c ∈ memL ∨ c ∈ noneL
/-- The operands' numbers. -/
def opsM (fm : List Nat) : M (Nat × Nat) :=
  match fm with
  | [] => M.pure (0, 0)
  | [x] => M.bind (numM (wdF x)) fun n => M.pure (n, n)
  | x :: y :: _ => if y = 114 then M.bind (numM (wdF x)) fun nd => M.bind (numM (wdF y)) fun no => M.pure (nd, no) else M.bind (numM (wdF y)) fun no => M.bind (numM (wdF x)) fun nd => M.pure (nd, no)
theorem opsM_one (x : Nat) : opsM [x] = M.bind (numM (wdF x)) fun n => M.pure (n, n) := rfl
theorem opsM_br (x : Nat) : opsM [x, 114] = M.bind (numM (wdF x)) fun nd => M.bind (numM (wdF 114)) fun no => M.pure (nd, no) := rfl
theorem opsM_two (x y : Nat) (h : y ≠ 114) : opsM [x, y] = M.bind (numM (wdF y)) fun no => M.bind (numM (wdF x)) fun nd => M.pure (nd, no) := if_neg h
def cdF (fm : List Nat) : Nat := match fm with | [] => 0 | x :: _ => x
def coF (fm : List Nat) : Nat := match fm with | [] => 0 | [x] => x | _ :: y :: _ => y
section
variable {K : Cx} {z : Zs} {s : Ts} {w w' : World} {c cd nd co no : Nat} {nm fm : ByteArray}
theorem Tk.putD (h : Tk K z s w) (a b f g : Value) : Tk K { z with d0 := a, d1 := b, d2 := f, d3 := g } s ((((w.setCell ⟨K.b, 14, none⟩ a).setCell ⟨K.b, 15, none⟩ b).setCell ⟨K.b, 16, none⟩ f).setCell ⟨K.b, 17, none⟩ g) :=
  (((h.turn 14 a s.r { z with d0 := a } h.ok fun _ => rfl).turn 15 b s.r { z with d0 := a, d1 := b } h.ok fun _ => rfl).turn 16 f s.r { z with d0 := a, d1 := b, d2 := f } h.ok fun _ => rfl).turn 17 g s.r { z with d0 := a, d1 := b, d2 := f, d3 := g } h.ok fun _ => rfl
theorem Tk.putO (h : Tk K z s w) (a b f g : Value) : Tk K { z with o0 := a, o1 := b, o2 := f, o3 := g } s ((((w.setCell ⟨K.b, 18, none⟩ a).setCell ⟨K.b, 19, none⟩ b).setCell ⟨K.b, 20, none⟩ f).setCell ⟨K.b, 21, none⟩ g) :=
  (((h.turn 18 a s.r { z with o0 := a } h.ok fun _ => rfl).turn 19 b s.r { z with o0 := a, o1 := b } h.ok fun _ => rfl).turn 20 f s.r { z with o0 := a, o1 := b, o2 := f } h.ok fun _ => rfl).turn 21 g s.r { z with o0 := a, o1 := b, o2 := f, o3 := g } h.ok fun _ => rfl
theorem Kp.put4 (k : Kp K w w') (i : Nat) (a b f g : Value) : Kp K w ((((w'.setCell ⟨K.b, i, none⟩ a).setCell ⟨K.b, i + 1, none⟩ b).setCell ⟨K.b, i + 2, none⟩ f).setCell ⟨K.b, i + 3, none⟩ g) := (((k.set i a).set (i + 1) b).set (i + 2) f).set (i + 3) g
/-- What fetching the operands comes to. -/
def FoP (K : Cx) (z : Zs) (s : Ts) (w : World) (c : Nat) (nm : ByteArray) (fm : List Nat) (e : Ending) (w' : World) : Prop :=
  ∃ s' z', Tk K z' s' w' ∧ Kp K w w' ∧ s'.l.length ≤ s.l.length + 4 ∧ ((∃ nd no, Ran (opsM fm) s (nd, no) s' ∧ Zd K z' w' c nm (bsOf fm) (cdF fm) nd (coF fm) no ∧ z'.n3 = z.n3 ∧ z'.n4 = z.n4 ∧ e = .returned (.tuple #[])) ∨ (Gave (opsM fm) s s' ∧ e = lackE))
theorem fo_nil (h : Tk K z s w) (h0 : z.n0 = .int .u8 (c : Nat)) (h1 : z.n1 = .string nm) (h2 : z.n2 = .string (bsOf [])) (hd0 : z.d0 = .int .u8 0) (hd1 : z.d1 = .int .u16 0) (ho0 : z.o0 = .int .u8 0) (ho1 : z.o1 = .int .u16 0) (hd2 : z.d2 = .nilFunc) (hd3 : z.d3 = .nilFunc) (ho2 : z.o2 = .nilFunc) (ho3 : z.o3 = .nilFunc) (hc : c < 256) :
    Calls Tryz.prog 50 #[.pointer (some ⟨K.b, 0, none⟩)] w (FoP K z s w c nm []) := by
  have c11 := h.lookN.2.2.1
  rw [h2] at c11
  have hfin := Lib.hid (show FoP K z s w c nm [] (.returned (.tuple #[])) w from ⟨s, z, h, Kp.refl _ _, Nat.le_add_right _ _, .inl ⟨0, 0, Ran.pure _ _, ⟨h0, h1, h2, hd0, hd1, .inr (.inr (.inr ⟨by decide, by decide, by decide, hd2, hd3⟩)), ho0, ho1, .inr (.inr (.inr ⟨by decide, by decide, by decide, ho2, ho3⟩)), by decide, by decide, hc⟩, rfl, rfl, rfl⟩⟩)
  have he : (bsOf []).toList.isEmpty = true := by rw [bsOf_toList]; rfl
  generalize hT : bsOf [] = T at *
  replace hT := Lib.hid hT
  obtain ⟨Q, hQ, F⟩ := post_name (FoP K z s w c nm [])
  rw [hQ] at hfin ⊢
  clear h hQ F
  go_enter Tryz.func50, Tryz.ntmps50
  go_wp2_with fail
  first | exact hfin.out | (go_end0; exact hfin.out)
theorem fo_one (x : Nat) (hx : letterOk x) (hx8 : x < 256) (h : Tk K z s w) (h0 : z.n0 = .int .u8 (c : Nat)) (h1 : z.n1 = .string nm) (h2 : z.n2 = .string (bsOf [x])) (hc : c < 256) (hl : s.l.length ≤ 90) :
    Calls Tryz.prog 50 #[.pointer (some ⟨K.b, 0, none⟩)] w (FoP K z s w c nm [x]) := by
  have c11 := h.lookN.2.2.1
  rw [h2] at c11
  have H1 := Lib.hid (operandOf_any x hx h (by omega))
  have he : (bsOf [x]).toList.isEmpty = false := by rw [bsOf_toList]; rfl
  have hsz : (bsOf [x]).size = 1 := bsOf_size [x]
  have hb : ∀ hk : 0 < (bsOf [x]).size, (bsOf [x])[0].toNat = x := fun hk => bsOf_byte [x] 0 hk hx8
  obtain ⟨Q, hQ, F⟩ := post_name (FoP K z s w c nm [x])
  rw [hQ]
  unfold FoP at F
  rw [opsM_one] at F
  generalize bsOf [x] = T at *
  have hz := Lib.hid (And.intro h0 (And.intro h1 h2))
  replace F := Lib.hid F
  clear h hQ h0 h1 h2 hx hl
  go_enter Tryz.func50, Tryz.ntmps50
  go_wp2_with fail
  with_reducible refine H1.out.mono ?_
  rintro e w1 ⟨s1, t1, k1, l1, (⟨n, v2, v3, r1, hn, rfl, ho⟩ | ⟨g1, rfl⟩)⟩
  · have hs2 := fun w a m => ho.fns.1.store Tryz.prog w a m
    have hs3 := fun w a m => ho.fns.2.store Tryz.prog w a m
    obtain ⟨d14, d15, d16, d17⟩ := t1.lookD
    have f14 := t1.look.2.2 14
    have f15 := t1.look.2.2 15
    have f16 := t1.look.2.2 16
    have f17 := t1.look.2.2 17
    have t2 := t1.putD (.int .u8 (x : Nat)) (.int .u16 (n : Nat)) v2 v3
    have k2 := k1.put4 14 (.int .u8 (x : Nat)) (.int .u16 (n : Nat)) v2 v3
    obtain ⟨d18, d19, d20, d21⟩ := t2.lookO
    have f18 := t2.look.2.2 18
    have f19 := t2.look.2.2 19
    have f20 := t2.look.2.2 20
    have f21 := t2.look.2.2 21
    obtain ⟨e14, e15, e16, e17⟩ := t2.lookD
    have t3 := t2.putO (.int .u8 (x : Nat)) (.int .u16 (n : Nat)) v2 v3
    have k3 := k2.put4 18 (.int .u8 (x : Nat)) (.int .u16 (n : Nat)) v2 v3
    have hf := Lib.hid (F.out (.returned (.tuple #[])) _ ⟨s1, _, t3, k3, by omega, .inl ⟨n, n, r1.bind (Ran.pure _ _), ⟨hz.out.1, hz.out.2.1, hz.out.2.2, rfl, rfl, ho.stay t1 ((Kp.put4 (Kp.put4 (Kp.refl K w1) 14 _ _ _ _) 18 _ _ _ _)), rfl, rfl, ho.stay t1 ((Kp.put4 (Kp.put4 (Kp.refl K w1) 14 _ _ _ _) 18 _ _ _ _)), hn, hn, hc⟩, rfl, rfl, rfl⟩⟩)
    dsimp only at d18 d19 d20 d21 e14 e15 e16 e17
    clear H1 F t1 t2 t3 k1 k2 k3 r1 ho l1 hz
    go_wp2_with fail
    first | exact hf.out | (go_end0; exact hf.out)
  · have hf := Lib.hid (F.out lackE _ ⟨s1, z, t1, k1, by omega, .inr ⟨Gave.bind g1, rfl⟩⟩)
    clear H1 F t1 k1 g1
    unfold lackE at hf ⊢
    go_wp2_with fail
    first | exact hf.out | exact ⟨rfl, hf.out⟩
theorem fo_two (x y : Nat) (hx : letterOk x) (hy : letterOk y) (hx8 : x < 256) (hy8 : y < 256) (hne : y ≠ 114) (h : Tk K z s w) (h0 : z.n0 = .int .u8 (c : Nat)) (h1 : z.n1 = .string nm) (h2 : z.n2 = .string (bsOf [x, y])) (hc : c < 256) (hl : s.l.length ≤ 90) :
    Calls Tryz.prog 50 #[.pointer (some ⟨K.b, 0, none⟩)] w (FoP K z s w c nm [x, y]) := by
  have c11 := h.lookN.2.2.1
  rw [h2] at c11
  have H1 := Lib.hid (operandOf_any y hy h (by omega))
  have he : (bsOf [x, y]).toList.isEmpty = false := by rw [bsOf_toList]; rfl
  have hsz : (bsOf [x, y]).size = 2 := bsOf_size [x, y]
  have hb : ∀ hk : 0 < (bsOf [x, y]).size, (bsOf [x, y])[0].toNat = x := fun hk => bsOf_byte [x, y] 0 hk hx8
  have hb1 : ∀ hk : 1 < (bsOf [x, y]).size, (bsOf [x, y])[1].toNat = y := fun hk => bsOf_byte [x, y] 1 hk hy8
  have hn114 : ((y : Int) == 114) = false := by rw [beq_eq_false_iff_ne]; omega
  obtain ⟨Q, hQ, F⟩ := post_name (FoP K z s w c nm [x, y])
  rw [hQ]
  unfold FoP at F
  rw [opsM_two x y hne] at F
  generalize bsOf [x, y] = T at *
  have hz := Lib.hid (And.intro h0 (And.intro h1 h2))
  have hlH := Lib.hid hl
  have hxH := Lib.hid hx
  replace F := Lib.hid F
  clear h hQ h0 h1 h2 hx hy hl
  go_enter Tryz.func50, Tryz.ntmps50
  go_wp2_with fail
  with_reducible refine H1.out.mono ?_
  rintro e w1 ⟨s1, t1, k1, l1, (⟨n, v2, v3, r1, hn, rfl, ho⟩ | ⟨g1, rfl⟩)⟩
  · have hs2 := fun w a m => ho.fns.1.store Tryz.prog w a m
    have hs3 := fun w a m => ho.fns.2.store Tryz.prog w a m
    obtain ⟨d18, d19, d20, d21⟩ := t1.lookO
    have f18 := t1.look.2.2 18
    have f19 := t1.look.2.2 19
    have f20 := t1.look.2.2 20
    have f21 := t1.look.2.2 21
    have t2 := t1.putO (.int .u8 (y : Nat)) (.int .u16 (n : Nat)) v2 v3
    have k2 := k1.put4 18 (.int .u8 (y : Nat)) (.int .u16 (n : Nat)) v2 v3
    have ho2 := Lib.hid (ho.stay t1 (Kp.put4 (Kp.refl K w1) 18 (.int .u8 (y : Nat)) (.int .u16 (n : Nat)) v2 v3))
    have H2 := Lib.hid (operandOf_any x hxH.out t2 (by have := hlH.out; omega))
    have ht2 := Lib.hid t2
    have hk2 := Lib.hid k2
    have hr1 := Lib.hid r1
    have hl1 := Lib.hid l1
    clear H1 t1 t2 k1 k2 ho r1 l1
    go_wp2_with fail
    with_reducible refine H2.out.mono ?_
    rintro e w2 ⟨s2, t3, k3, l3, (⟨m, u2, u3, r2, hm, rfl, ho3⟩ | ⟨g2, rfl⟩)⟩
    · have hu2 := fun w a m => ho3.fns.1.store Tryz.prog w a m
      have hu3 := fun w a m => ho3.fns.2.store Tryz.prog w a m
      obtain ⟨d14, d15, d16, d17⟩ := t3.lookD
      have f14 := t3.look.2.2 14
      have f15 := t3.look.2.2 15
      have f16 := t3.look.2.2 16
      have f17 := t3.look.2.2 17
      have t4 := t3.putD (.int .u8 (x : Nat)) (.int .u16 (m : Nat)) u2 u3
      have kk := Kp.put4 (Kp.refl K w2) 14 (.int .u8 (x : Nat)) (.int .u16 (m : Nat)) u2 u3
      have hf := Lib.hid (F.out (.returned (.tuple #[])) _ ⟨s2, _, t4, (hk2.out.trans k3).trans kk, by have := hl1.out; omega, .inl ⟨m, n, hr1.out.bind (r2.bind (Ran.pure _ _)), ⟨hz.out.1, hz.out.2.1, hz.out.2.2, rfl, rfl, ho3.stay t3 kk, rfl, rfl, (ho2.out.stay ht2.out k3).stay t3 kk, hm, hn, hc⟩, rfl, rfl, rfl⟩⟩)
      clear H2 F t3 t4 k3 kk r2 ho3 l3 ho2 hz hr1 ht2
      go_wp2_with fail
      first | exact hf.out | (go_end0; exact hf.out)
    · have hf := Lib.hid (F.out lackE _ ⟨s2, _, t3, hk2.out.trans k3, by have := hl1.out; omega, .inr ⟨Gave.then hr1.out (Gave.bind g2), rfl⟩⟩)
      clear H2 F t3 k3 g2
      unfold lackE at hf ⊢
      go_wp2_with fail
      first | exact hf.out | exact ⟨rfl, hf.out⟩
  · have hf := Lib.hid (F.out lackE _ ⟨s1, z, t1, k1, by omega, .inr ⟨Gave.bind g1, rfl⟩⟩)
    clear H1 F t1 k1 g1
    unfold lackE at hf ⊢
    go_wp2_with fail
    first | exact hf.out | exact ⟨rfl, hf.out⟩
theorem fo_br (x : Nat) (hx : letterOk x) (hx8 : x < 256) (h : Tk K z s w) (h0 : z.n0 = .int .u8 (c : Nat)) (h1 : z.n1 = .string nm) (h2 : z.n2 = .string (bsOf [x, 114])) (hc : c < 256) (hl : s.l.length ≤ 90) :
    Calls Tryz.prog 50 #[.pointer (some ⟨K.b, 0, none⟩)] w (FoP K z s w c nm [x, 114]) := by
  have c11 := h.lookN.2.2.1
  rw [h2] at c11
  have H1 := Lib.hid (operandOf_any x hx h (by omega))
  have he : (bsOf [x, 114]).toList.isEmpty = false := by rw [bsOf_toList]; rfl
  have hsz : (bsOf [x, 114]).size = 2 := bsOf_size [x, 114]
  have hb : ∀ hk : 0 < (bsOf [x, 114]).size, (bsOf [x, 114])[0].toNat = x := fun hk => bsOf_byte [x, 114] 0 hk hx8
  have hb1 : ∀ hk : 1 < (bsOf [x, 114]).size, (bsOf [x, 114])[1].toNat = 114 := fun hk => bsOf_byte [x, 114] 1 hk (show 114 < 256 by decide)
  obtain ⟨Q, hQ, F⟩ := post_name (FoP K z s w c nm [x, 114])
  rw [hQ]
  unfold FoP at F
  rw [opsM_br] at F
  generalize bsOf [x, 114] = T at *
  have hz := Lib.hid (And.intro h0 (And.intro h1 h2))
  have hlH := Lib.hid hl
  replace F := Lib.hid F
  clear h hQ h0 h1 h2 hx hl
  go_enter Tryz.func50, Tryz.ntmps50
  go_wp2_with fail
  with_reducible refine H1.out.mono ?_
  rintro e w1 ⟨s1, t1, k1, l1, (⟨n, v2, v3, r1, hn, rfl, ho⟩ | ⟨g1, rfl⟩)⟩
  · have hs2 := fun w a m => ho.fns.1.store Tryz.prog w a m
    have hs3 := fun w a m => ho.fns.2.store Tryz.prog w a m
    obtain ⟨d14, d15, d16, d17⟩ := t1.lookD
    have f14 := t1.look.2.2 14
    have f15 := t1.look.2.2 15
    have f16 := t1.look.2.2 16
    have f17 := t1.look.2.2 17
    have t2 := t1.putD (.int .u8 (x : Nat)) (.int .u16 (n : Nat)) v2 v3
    have k2 := k1.put4 14 (.int .u8 (x : Nat)) (.int .u16 (n : Nat)) v2 v3
    have ho2 := Lib.hid (ho.stay t1 (Kp.put4 (Kp.refl K w1) 14 (.int .u8 (x : Nat)) (.int .u16 (n : Nat)) v2 v3))
    have H2 := operandOf_any 114 (by decide) t2 (by have := hlH.out; omega)
    simp only [show ((114 : Nat) : Int) = 114 from rfl] at H2
    replace H2 := Lib.hid H2
    have ht2 := Lib.hid t2
    have hk2 := Lib.hid k2
    have hr1 := Lib.hid r1
    have hl1 := Lib.hid l1
    clear H1 t1 t2 k1 k2 ho r1 l1
    go_wp2_with fail
    with_reducible refine H2.out.mono ?_
    rintro e w2 ⟨s2, t3, k3, l3, (⟨m, u2, u3, r2, hm, rfl, ho3⟩ | ⟨g2, rfl⟩)⟩
    · have hu2 := fun w a m => ho3.fns.1.store Tryz.prog w a m
      have hu3 := fun w a m => ho3.fns.2.store Tryz.prog w a m
      obtain ⟨d18, d19, d20, d21⟩ := t3.lookO
      have f18 := t3.look.2.2 18
      have f19 := t3.look.2.2 19
      have f20 := t3.look.2.2 20
      have f21 := t3.look.2.2 21
      have t4 := t3.putO (.int .u8 114) (.int .u16 (m : Nat)) u2 u3
      have kk := Kp.put4 (Kp.refl K w2) 18 (.int .u8 114) (.int .u16 (m : Nat)) u2 u3
      have hf := Lib.hid (F.out (.returned (.tuple #[])) _ ⟨s2, _, t4, (hk2.out.trans k3).trans kk, by have := hl1.out; omega, .inl ⟨n, m, hr1.out.bind (r2.bind (Ran.pure _ _)), ⟨hz.out.1, hz.out.2.1, hz.out.2.2, rfl, rfl, (ho2.out.stay ht2.out k3).stay t3 kk, rfl, rfl, ho3.stay t3 kk, hn, hm, hc⟩, rfl, rfl, rfl⟩⟩)
      clear H2 F t3 t4 k3 kk r2 ho3 l3 ho2 hz hr1 ht2
      go_wp2_with fail
      first | exact hf.out | (go_end0; exact hf.out)
    · have hf := Lib.hid (F.out lackE _ ⟨s2, _, t3, hk2.out.trans k3, by have := hl1.out; omega, .inr ⟨Gave.then hr1.out (Gave.bind g2), rfl⟩⟩)
      clear H2 F t3 k3 g2
      unfold lackE at hf ⊢
      go_wp2_with fail
      first | exact hf.out | exact ⟨rfl, hf.out⟩
  · have hf := Lib.hid (F.out lackE _ ⟨s1, z, t1, k1, by omega, .inr ⟨Gave.bind g1, rfl⟩⟩)
    clear H1 F t1 k1 g1
    unfold lackE at hf ⊢
    go_wp2_with fail
    first | exact hf.out | exact ⟨rfl, hf.out⟩
def allL : List Nat := regL ++ [35] ++ memL ++ noneL
theorem letter_of {x : Nat} (h : x ∈ allL) : letterOk x := by
  unfold allL at h
  simp only [List.mem_append, List.mem_singleton] at h
  rcases h with ((h | h) | h) | h
  · exact .inl h
  · exact .inr (.inl h)
  · exact .inr (.inr (.inl h))
  · exact .inr (.inr (.inr h))
theorem all_lt : ∀ x ∈ allL, x < 256 := by decide
theorem forms_ok (c : Nat) (hc : c < 256) : ∀ x ∈ fmL c, x ∈ allL := (show ∀ c, c < 256 → ∀ x ∈ fmL c, x ∈ allL by decide +kernel) c hc
/-- A runner's operands before they are laid. -/
structure Bare (z : Zs) : Prop where
  d0 : z.d0 = .int .u8 0
  d1 : z.d1 = .int .u16 0
  d2 : z.d2 = .nilFunc
  d3 : z.d3 = .nilFunc
  o0 : z.o0 = .int .u8 0
  o1 : z.o1 = .int .u16 0
  o2 : z.o2 = .nilFunc
  o3 : z.o3 = .nilFunc
theorem fo_any (h : Tk K z s w) (hb : Bare z) (h0 : z.n0 = .int .u8 (c : Nat)) (h1 : z.n1 = .string nm) (h2 : z.n2 = .string (bsOf (fmL c))) (hc : c < 256) (hl : s.l.length ≤ 90) :
    Calls Tryz.prog 50 #[.pointer (some ⟨K.b, 0, none⟩)] w (FoP K z s w c nm (fmL c)) := by
  have h3 := forms_ok c hc
  have h4 := fmL_le c hc
  generalize fmL c = fm at *
  match fm, h3, h4 with
  | [], _, _ => exact fo_nil h h0 h1 h2 hb.d0 hb.d1 hb.o0 hb.o1 hb.d2 hb.d3 hb.o2 hb.o3 hc
  | [x], h3, _ =>
    have hx := h3 x (by simp)
    exact fo_one x (letter_of hx) (all_lt x hx) h h0 h1 h2 hc hl
  | [x, y], h3, _ =>
    have hx := h3 x (by simp)
    have hy := h3 y (by simp)
    by_cases e : y = 114
    · subst e
      exact fo_br x (letter_of hx) (all_lt x hx) h h0 h1 h2 hc hl
    · exact fo_two x y (letter_of hx) (letter_of hy) (all_lt x hx) (all_lt y hy) e h h0 h1 h2 hc hl
end
end Go.Proofs.YthecghmhohkcmaaGreatDoor
