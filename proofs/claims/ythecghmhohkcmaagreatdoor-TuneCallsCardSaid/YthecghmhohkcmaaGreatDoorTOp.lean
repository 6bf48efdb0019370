/-
  Operands in memory: how they are read and written.
-/
import Derived.Test.YthecghmhohkcmaaGreatDoorTNum
namespace Go.Proofs.YthecghmhohkcmaaGreatDoor
open Go.RowKit Go.Shelf
set_option maxRecDepth 100000
set_option maxHeartbeats 1000000
set_option linter.unusedVariables false

theorem regGet_lt {r : Rp} (h : r.Ok) (c : Nat) : regGet c r < 256 := by
  unfold regGet
  split
  · exact h.X
  · exact h.Y
  · exact h.S
  · exact h.P
  · exact h.A
/-- What an operand's functions are. -/
def OpAt (K : Cx) (w : World) (c n : Nat) (v2 v3 : Value) : Prop :=
  (c ∈ regL ∧ ∃ X, v2 = .func (.func 106) #[] #[.pointer (some ⟨X, 0, none⟩)] ∧ v3 = .func (.func 107) #[] #[.pointer (some ⟨X, 0, none⟩)] ∧ Whole w X 99 #[.pointer (some ⟨K.b, regIx c, none⟩)]) ∨
  (c = 35 ∧ ∃ X, v2 = .func (.func 108) #[] #[.pointer (some ⟨X, 0, none⟩)] ∧ Whole w X 22 #[.int .u16 (n : Nat)] ∧ v3 = .nilFunc) ∨
  (c ∈ memL ∧ ∃ U L N, v2 = .func (.func 109) #[] #[.pointer (some ⟨U, 0, none⟩), .pointer (some ⟨L, 0, none⟩), .pointer (some ⟨N, 0, none⟩)] ∧ v3 = .func (.func 111) #[] #[.pointer (some ⟨U, 0, none⟩), .pointer (some ⟨L, 0, none⟩), .pointer (some ⟨N, 0, none⟩)] ∧
    Whole w U 57 #[.pointer (some ⟨K.b, 0, none⟩)] ∧ Whole w L 5 #[.int .u8 (c : Nat)] ∧ Whole w N 22 #[.int .u16 (n : Nat)]) ∨
  (c ∉ regL ∧ c ≠ 35 ∧ c ∉ memL ∧ v2 = .nilFunc ∧ v3 = .nilFunc)
/-- A function, or none. -/
def FnV (v : Value) : Prop := v = .nilFunc ∨ ∃ f a b, v = .func f a b
theorem OpAt.fns {K : Cx} {w : World} {c n : Nat} {v2 v3 : Value} (h : OpAt K w c n v2 v3) : FnV v2 ∧ FnV v3 := by
  rcases h with ⟨h0, X, h1, h2, h3⟩ | ⟨h0, X, h1, h3, h9⟩ | ⟨h0, U, L, N, h1, h2, h3, h4, h5⟩ | ⟨h0, h1, h2, h3, h4⟩
  · exact ⟨.inr ⟨_, _, _, h1⟩, .inr ⟨_, _, _, h2⟩⟩
  · exact ⟨.inr ⟨_, _, _, h1⟩, .inl h9⟩
  · exact ⟨.inr ⟨_, _, _, h1⟩, .inr ⟨_, _, _, h2⟩⟩
  · exact ⟨.inl h3, .inl h4⟩
theorem FnV.store {v : Value} (h : FnV v) (P : Program) (w : World) (a : Addr) (m : Mode) : (Go.store a v m).run P w = stored P w a v m := by
  rcases h with rfl | ⟨f, x, y, rfl⟩
  · exact run_store_nilFunc P w a m
  · exact run_store_func P w a m f x y
def readO (c n : Nat) : M Nat := if c ∈ regL then M.get fun r => M.pure (regGet c r) else if c = 35 then M.pure (n % 256) else M.bind (addressM c n) fun a => M.read a
def writeO (c n v : Nat) : M Unit := if c ∈ regL then M.set (regSet c v) else M.bind (addressM c n) fun a => M.write a v
section
variable {K : Cx} {z : Zs} {s : Ts} {w w' : World}
theorem Tk.away (h : Tk K z s w) {x : Nat} {t : TypeId} {cs : Array Value} (hx : Whole w x t cs) (h1 : t ≠ 68) (h2 : t ≠ 25) : x ≠ K.b ∧ x ≠ K.x := by
  obtain ⟨lv, h3, _⟩ := h.cells
  obtain ⟨_, _, _, _, h4, _⟩ := h.box
  exact ⟨whole_apart hx h3 h1, whole_apart hx h4 h2⟩
theorem Kp.stay (k : Kp K w w') (h : Tk K z s w) {x : Nat} {t : TypeId} {cs : Array Value} (hx : Whole w x t cs) (h1 : t ≠ 68 := by decide) (h2 : t ≠ 25 := by decide) (h3 : t ≠ 42 := by decide) : Whole w' x t cs :=
  k.keep x t cs (h.away hx h1 h2).1 (h.away hx h1 h2).2 h3 hx
theorem OpAt.stay {c n : Nat} {v2 v3 : Value} (h : OpAt K w c n v2 v3) (t : Tk K z s w) (k : Kp K w w') : OpAt K w' c n v2 v3 := by
  rcases h with ⟨h0, X, h1, h2, h3⟩ | ⟨h0, X, h1, h3, h9⟩ | ⟨h0, U, L, N, h1, h2, h3, h4, h5⟩ | h0
  · exact .inl ⟨h0, X, h1, h2, k.stay t h3⟩
  · exact .inr (.inl ⟨h0, X, h1, k.stay t h3, h9⟩)
  · exact .inr (.inr (.inl ⟨h0, U, L, N, h1, h2, k.stay t h3, k.stay t h4, k.stay t h5⟩))
  · exact .inr (.inr (.inr h0))
theorem regCell (h : Tk K z s w) (c : Nat) (hc : c ∈ regL) : w.cell? ⟨K.b, regIx c, none⟩ = some (.int .u8 (regGet c s.r : Nat)) := by
  have hl := h.look.1
  simp only [regL, List.mem_cons, List.not_mem_nil, or_false] at hc
  rcases hc with rfl | rfl | rfl | rfl | rfl
  · exact hl.1
  · exact hl.2.1
  · exact hl.2.2.1
  · exact hl.2.2.2.1
  · exact hl.2.2.2.2
theorem Tk.toReg (h : Tk K z s w) (c v : Nat) (hc : c ∈ regL) (hv : v < 256) : Tk K z { s with r := regSet c v s.r } (w.setCell ⟨K.b, regIx c, none⟩ (.int .u8 (v : Nat))) := by
  simp only [regL, List.mem_cons, List.not_mem_nil, or_false] at hc
  rcases hc with rfl | rfl | rfl | rfl | rfl
  · exact h.toA v hv
  · exact h.toX v hv
  · exact h.toY v hv
  · exact h.toS v hv
  · exact h.toP v hv
theorem regRead (c X : Nat) (h : Tk K z s w) (hc : c ∈ regL) (hX : Whole w X 99 #[.pointer (some ⟨K.b, regIx c, none⟩)]) :
    Calls Tryz.prog 106 #[.pointer (some ⟨X, 0, none⟩)] w fun e w' => e = .returned (.int .u8 (regGet c s.r : Nat)) ∧ w' = w := by
  have c0 := hX.cell 0
  simp only [List.getElem?_toArray, List.getElem?_cons_zero] at c0
  have d0 := regCell h c hc
  clear h hX hc
  generalize regGet c s.r = v at *
  generalize regIx c = i at *
  go_enter Tryz.func106, Tryz.ntmps106
  go_wp2_with fail
  go_ret
  exact ⟨rfl, rfl⟩
theorem regWrite (c X v : Nat) (h : Tk K z s w) (hc : c ∈ regL) (hv : v < 256) (hX : Whole w X 99 #[.pointer (some ⟨K.b, regIx c, none⟩)]) :
    Calls Tryz.prog 107 #[.int .u8 (v : Nat), .pointer (some ⟨X, 0, none⟩)] w (Turns K z s w (regSet c v s.r) (.tuple #[])) := by
  have c0 := hX.cell 0
  simp only [List.getElem?_toArray, List.getElem?_cons_zero] at c0
  have d0 := regCell h c hc
  have f0 := h.look.2.2 (regIx c)
  have hfin := Lib.hid (And.intro (h.toReg c v hc hv) ((Kp.refl K w).set (regIx c) (.int .u8 (v : Nat))))
  unfold Turns
  clear h hX hc
  generalize regGet c s.r = y at *
  generalize regIx c = i at *
  generalize regSet c v s.r = r' at *
  go_enter Tryz.func107, Tryz.ntmps107
  go_wp2_with fail
  go_end0
  exact ⟨rfl, hfin.out⟩
theorem hashRead (n X : Nat) (hn : n < 65536) (hX : Whole w X 22 #[.int .u16 (n : Nat)]) :
    Calls Tryz.prog 108 #[.pointer (some ⟨X, 0, none⟩)] w fun e w' => e = .returned (.int .u8 (n % 256 : Nat)) ∧ w' = w := by
  have c0 := hX.cell 0
  simp only [List.getElem?_toArray, List.getElem?_cons_zero] at c0
  have e1 : (n : Int) % 256 = ((n % 256 : Nat) : Int) := by omega
  clear hX
  rw [← e1]
  clear e1
  go_enter Tryz.func108, Tryz.ntmps108
  go_wp2_with fail
  go_ret
  exact ⟨rfl, rfl⟩
theorem memRead (c n U L N : Nat) (h : Tk K z s w) (hc : c ∈ memL) (hn : n < 65536) (hl : s.l.length ≤ 96) (hU : Whole w U 57 #[.pointer (some ⟨K.b, 0, none⟩)]) (hL : Whole w L 5 #[.int .u8 (c : Nat)]) (hN : Whole w N 22 #[.int .u16 (n : Nat)]) :
    Calls Tryz.prog 109 #[.pointer (some ⟨U, 0, none⟩), .pointer (some ⟨L, 0, none⟩), .pointer (some ⟨N, 0, none⟩)] w (Post K z s w (M.bind (addressM c n) fun a => M.read a) byteV (fun v => v < 256) 3) := by
  have cU := hU.cell 0
  have cL := hL.cell 0
  have cN := hN.cell 0
  simp only [List.getElem?_toArray, List.getElem?_cons_zero] at cU cL cN
  have HA := address_any c n hc h.drew hn (by omega)
  unfold AdP at HA
  have HR := Lib.hid fun (a : Nat) (W : World) (s1 : Ts) (hW : Tk K z s1 W) (hl1 : s1.l.length ≤ 99) (ha : a < 65536) => read_any a hW ha hl1
  have hst := Lib.hid fun (W : World) (k1 : Kp K w.drew W) => And.intro ((k1.stay h.drew (hU.drew)).cell 0) (And.intro ((k1.stay h.drew (hL.drew)).cell 0) ((k1.stay h.drew (hN.drew)).cell 0))
  simp only [List.getElem?_toArray, List.getElem?_cons_zero] at hst
  have kd := Lib.hid ((Kp.refl K w).drew)
  obtain ⟨Q, hQ, F⟩ := post_name (Post K z s w (M.bind (addressM c n) fun a => M.read a) byteV (fun v => v < 256) 3)
  rw [hQ]
  replace F := Lib.hid F
  replace HA := Lib.hid HA
  replace hl := Lib.hid hl
  clear h hc hn hU hL hN hQ
  generalize addressM c n = m at *
  go_enter Tryz.func109, Tryz.ntmps109
  go_upto_region 1 with (fail)
  go_region_held2 (fun W => W.cell? ⟨U, 0, none⟩ = some (.pointer (some ⟨K.b, 0, none⟩)) ∧ W.cell? ⟨L, 0, none⟩ = some (.int .u8 (c : Nat)) ∧ W.cell? ⟨N, 0, none⟩ = some (.int .u16 (n : Nat))) (first | exact ⟨cU, cL, cN⟩ | exact hb.out) (first
    | (go_at_call 110; (with_reducible refine HA.out.mono ?_); rintro e w1 ⟨s1, t1, k1, l1, (⟨v, r1, hv, rfl⟩ | ⟨g1, rfl⟩)⟩; rotate_left; (have hf := Lib.hid (F.out lackE _ (Post.gave g1 t1 (kd.out.trans k1) (by omega))); unfold lackE at hf ⊢; go_wp2_with fail; first | exact hf.out | exact ⟨rfl, hf.out⟩); have hb := Lib.hid (hst.out _ k1); have hh := Lib.hid (And.intro r1 (And.intro t1 (And.intro k1 (And.intro l1 hv)))); unfold wordV)
    | (go_at_call 74; (with_reducible refine (HR.out _ _ s1 hh.out.2.1 (by have := hh.out.2.2.2.1; have := hl.out; omega) hh.out.2.2.2.2).mono ?_); rintro e w2 ⟨s2, t2, k2, l2, (⟨x, r2, hx, rfl⟩ | ⟨g2, rfl⟩)⟩; rotate_left; (have hf := Lib.hid (F.out lackE _ (Post.after hh.out.1 (kd.out.trans hh.out.2.2.1) hh.out.2.2.2.1 ⟨s2, t2, k2, l2, .inr ⟨g2, rfl⟩⟩ (by omega))); unfold lackE at hf ⊢; go_wp2_with fail; first | exact hf.out | exact ⟨rfl, hf.out⟩); have hb := Lib.hid (hst.out _ (hh.out.2.2.1.trans k2)); have h2 := Lib.hid (F.out (.returned (byteV x)) _ (Post.after hh.out.1 (kd.out.trans hh.out.2.2.1) hh.out.2.2.2.1 ⟨s2, t2, k2, l2, .inl ⟨x, r2, hx, rfl⟩⟩ (by omega))); unfold byteV at h2 ⊢))
  all_goals
    go_wp2_with fail
    exact h2.out
theorem memWrite (c n v U L N : Nat) (h : Tk K z s w) (hc : c ∈ memL) (hn : n < 65536) (hv : v < 256) (hl : s.l.length ≤ 96) (hU : Whole w U 57 #[.pointer (some ⟨K.b, 0, none⟩)]) (hL : Whole w L 5 #[.int .u8 (c : Nat)]) (hN : Whole w N 22 #[.int .u16 (n : Nat)]) :
    Calls Tryz.prog 111 #[.int .u8 (v : Nat), .pointer (some ⟨U, 0, none⟩), .pointer (some ⟨L, 0, none⟩), .pointer (some ⟨N, 0, none⟩)] w (Post K z s w (M.bind (addressM c n) fun a => M.write a v) unitV (fun _ => True) 3) := by
  have cU := hU.cell 0
  have cL := hL.cell 0
  have cN := hN.cell 0
  simp only [List.getElem?_toArray, List.getElem?_cons_zero] at cU cL cN
  have HA := address_any c n hc h.drew hn (by omega)
  unfold AdP at HA
  have HR := Lib.hid fun (a : Nat) (W : World) (s1 : Ts) (hW : Tk K z s1 W) (hl1 : s1.l.length ≤ 99) (ha : a < 65536) => write_any a v hW ha hv hl1
  have hst := Lib.hid fun (W : World) (k1 : Kp K w.drew W) => And.intro ((k1.stay h.drew (hU.drew)).cell 0) (And.intro ((k1.stay h.drew (hL.drew)).cell 0) ((k1.stay h.drew (hN.drew)).cell 0))
  simp only [List.getElem?_toArray, List.getElem?_cons_zero] at hst
  have kd := Lib.hid ((Kp.refl K w).drew)
  obtain ⟨Q, hQ, F⟩ := post_name (Post K z s w (M.bind (addressM c n) fun a => M.write a v) unitV (fun _ => True) 3)
  rw [hQ]
  replace F := Lib.hid F
  replace HA := Lib.hid HA
  replace hl := Lib.hid hl
  replace hv := Lib.hid hv
  clear h hc hn hU hL hN hQ
  generalize addressM c n = m at *
  go_enter Tryz.func111, Tryz.ntmps111
  go_region_held2 (fun W => W.cell? ⟨U, 0, none⟩ = some (.pointer (some ⟨K.b, 0, none⟩)) ∧ W.cell? ⟨L, 0, none⟩ = some (.int .u8 (c : Nat)) ∧ W.cell? ⟨N, 0, none⟩ = some (.int .u16 (n : Nat))) (first | exact ⟨cU, cL, cN⟩ | exact hb.out) (first
    | (go_at_call 110; (with_reducible refine HA.out.mono ?_); rintro e w1 ⟨s1, t1, k1, l1, (⟨a, r1, ha, rfl⟩ | ⟨g1, rfl⟩)⟩; rotate_left; (have hf := Lib.hid (F.out lackE _ (Post.gave g1 t1 (kd.out.trans k1) (by omega))); unfold lackE at hf ⊢; go_wp2_with fail; first | exact hf.out | exact ⟨rfl, hf.out⟩); have hb := Lib.hid (hst.out _ k1); have hh := Lib.hid (And.intro r1 (And.intro t1 (And.intro k1 (And.intro l1 ha)))); unfold wordV)
    | (go_at_call 112; (with_reducible refine (HR.out _ _ s1 hh.out.2.1 (by have := hh.out.2.2.2.1; have := hl.out; omega) hh.out.2.2.2.2).mono ?_); rintro e w2 ⟨rfl, t2, k2⟩; have hb := Lib.hid (hst.out _ (hh.out.2.2.1.trans k2)); have h2 := Lib.hid (F.out (.returned (unitV ())) _ (Post.done (hh.out.1.bind (Ran.write a v s1 hh.out.2.2.2.2 hv.out)) t2 ((kd.out.trans hh.out.2.2.1).trans k2) trivial (by have := hh.out.2.2.2.1; simp; omega))); unfold unitV at h2))
  all_goals
    go_wp2_with fail
    first | exact h2.out | (go_end0; exact h2.out)
theorem mem_not_reg {c : Nat} (h : c ∈ memL) : c ∉ regL ∧ c ≠ 35 := by
  simp only [memL, List.mem_cons, List.not_mem_nil, or_false] at h
  rcases h with rfl | rfl | rfl | rfl | rfl | rfl | rfl | rfl | rfl | rfl | rfl | rfl | rfl | rfl
  all_goals exact ⟨by decide, by decide⟩
/-- An operand that is read. -/
theorem oread_any {c n : Nat} {v2 v3 : Value} (h : Tk K z s w) (ho : OpAt K w c n v2 v3) (hn : n < 65536) (hr : c ∈ regL ∨ c = 35 ∨ c ∈ memL) (hl : s.l.length ≤ 96) :
    ∃ kf caps, v2 = .func (.func kf) #[] caps ∧ (∀ (args : Array Value) (W : World), (callFunc kf args).run Tryz.prog W = .ok (.enter kf args) W) ∧ Calls Tryz.prog kf caps w (Post K z s w (readO c n) byteV (fun v => v < 256) 3) := by
  rcases ho with ⟨h0, X, h1, h2, h3⟩ | ⟨h0, X, h1, h3, _⟩ | ⟨h0, U, L, N, h1, h2, h3, h4, h5⟩ | ⟨h0, h1, h2, _, _⟩
  · refine ⟨_, _, h1, fun _ _ => rfl, (regRead c X h h0 h3).mono ?_⟩
    rintro e w' ⟨rfl, rfl⟩
    unfold readO
    rw [if_pos h0]
    exact Post.done (Ran.get (k := fun r => M.pure (regGet c r)) (Ran.pure _ _)) h (Kp.refl _ _) (regGet_lt h.ok c) (Nat.le_add_right _ _)
  · refine ⟨_, _, h1, fun _ _ => rfl, (hashRead n X hn h3).mono ?_⟩
    rintro e w' ⟨rfl, rfl⟩
    subst h0
    unfold readO
    rw [if_neg (by decide), if_pos rfl]
    exact Post.done (Ran.pure _ _) h (Kp.refl _ _) (Nat.mod_lt _ (by decide)) (Nat.le_add_right _ _)
  · refine ⟨_, _, h1, fun _ _ => rfl, ?_⟩
    unfold readO
    rw [if_neg (mem_not_reg h0).1, if_neg (mem_not_reg h0).2]
    exact memRead c n U L N h h0 hn hl h3 h4 h5
  · rcases hr with hr | hr | hr
    · exact absurd hr h0
    · exact absurd hr h1
    · exact absurd hr h2
/-- An operand that is written. -/
theorem owrite_any {c n v : Nat} {v2 v3 : Value} (h : Tk K z s w) (ho : OpAt K w c n v2 v3) (hn : n < 65536) (hv : v < 256) (hr : c ∈ regL ∨ c ∈ memL) (hl : s.l.length ≤ 96) :
    ∃ kf caps, v3 = .func (.func kf) #[] caps ∧ (∀ (args : Array Value) (W : World), (callFunc kf args).run Tryz.prog W = .ok (.enter kf args) W) ∧ Calls Tryz.prog kf (#[.int .u8 (v : Nat)] ++ caps) w (Post K z s w (writeO c n v) unitV (fun _ => True) 3) := by
  rcases ho with ⟨h0, X, h1, h2, h3⟩ | ⟨h0, X, h1, h3, _⟩ | ⟨h0, U, L, N, h1, h2, h3, h4, h5⟩ | ⟨h0, h1, h2, _, _⟩
  · refine ⟨_, _, h2, fun _ _ => rfl, (regWrite c X v h h0 hv h3).mono ?_⟩
    rintro e w' ⟨rfl, t, k⟩
    unfold writeO
    rw [if_pos h0]
    exact Post.done (V := unitV) (b := ()) (Ran.set (regSet c v) s) t k trivial (Nat.le_add_right _ _)
  · subst h0
    rcases hr with hr | hr
    · exact absurd hr (by decide)
    · exact absurd hr (by decide)
  · refine ⟨_, _, h2, fun _ _ => rfl, ?_⟩
    unfold writeO
    rw [if_neg (mem_not_reg h0).1]
    exact memWrite c n v U L N h h0 hn hv hl h3 h4 h5
  · rcases hr with hr | hr
    · exact absurd hr h0
    · exact absurd hr h2
end
end Go.Proofs.YthecghmhohkcmaaGreatDoor
