/-
  A writer in memory; room at its body's end.
-/
import Derived.Test.YtacnmnodbmbplaaLay
import Derived.Lib.LazyBuf
namespace Go.Proofs.Ytacnmnodbmbplaa
open Go.RowKit Go.Shelf
set_option maxRecDepth 100000
set_option maxHeartbeats 1000000

/-- What a writer is: its body's bytes, where its open parts begin, how many are open, what went wrong. -/
structure St where
  n : Nat
  f : Nat → Nat
  ps : Nat → Nat
  op : Nat
  e : Nat
structure St.Good (s : St) : Prop where
  op : s.op ≤ 16
  n : s.n ≤ 16777216
  ps : ∀ i, i < s.op → 4 ≤ s.ps i ∧ s.ps i ≤ s.n
/-- The writer's own cells. -/
structure Head (w : World) (b : Nat) (v : Value) (ps : Nat → Nat) (op e : Nat) : Prop where
  all : ∃ cs, Whole w b 67 cs ∧ cs.size = 19 ∧ cs[0]? = some v ∧ (∀ i, i < 16 → cs[1 + i]? = some (.int .i64 (ps i : Nat))) ∧ cs[17]? = some (.int .i64 (op : Nat)) ∧ cs[18]? = some (.int .i64 (e : Nat))
theorem Head.lt {w : World} {b : Nat} {v : Value} {ps : Nat → Nat} {op e : Nat} (h : Head w b v ps op e) : b < w.heap.size := let ⟨_, h, _⟩ := h.all; h.lt
theorem Head.c0 {w : World} {b : Nat} {v : Value} {ps : Nat → Nat} {op e : Nat} (h : Head w b v ps op e) : w.cell? ⟨b, 0, none⟩ = some v := let ⟨_, h, _, h0, _⟩ := h.all; (h.cell 0).trans h0
theorem Head.c17 {w : World} {b : Nat} {v : Value} {ps : Nat → Nat} {op e : Nat} (h : Head w b v ps op e) : w.cell? ⟨b, 17, none⟩ = some (.int .i64 (op : Nat)) := let ⟨_, h, _, _, _, h0, _⟩ := h.all; (h.cell 17).trans h0
theorem Head.c18 {w : World} {b : Nat} {v : Value} {ps : Nat → Nat} {op e : Nat} (h : Head w b v ps op e) : w.cell? ⟨b, 18, none⟩ = some (.int .i64 (e : Nat)) := let ⟨_, h, _, _, _, _, h0⟩ := h.all; (h.cell 18).trans h0
theorem Head.cp {w : World} {b : Nat} {v : Value} {ps : Nat → Nat} {op e : Nat} (h : Head w b v ps op e) (i : Nat) (hi : i < 16) : w.cell? ⟨b, 1 + i, none⟩ = some (.int .i64 (ps i : Nat)) := let ⟨_, h, _, _, h0, _⟩ := h.all; (h.cell (1 + i)).trans (h0 i hi)
theorem Head.free {w : World} {b : Nat} {v : Value} {ps : Nat → Nat} {op e : Nat} (h : Head w b v ps op e) (i : Nat) : w.frozen? ⟨b, i, none⟩ = false := let ⟨_, h, _⟩ := h.all; h.free i
theorem Head.kept {w w' : World} {b : Nat} {v : Value} {ps : Nat → Nat} {op e : Nat} (h : Head w b v ps op e) (hk : w'.heap[b]? = w.heap[b]?) : Head w' b v ps op e := let ⟨cs, h, r⟩ := h.all; ⟨cs, hk.trans h, r⟩
theorem Head.set0 {w : World} {b : Nat} {v : Value} {ps : Nat → Nat} {op e : Nat} (h : Head w b v ps op e) (u : Value) : Head (w.setCell ⟨b, 0, none⟩ u) b u ps op e := by
  obtain ⟨cs, h, hs, h0, hp, h1, h2⟩ := h.all
  refine ⟨_, h.put 0 u, by simp [hs], ?_, fun i hi => ?_, ?_, ?_⟩
  · rw [Array.getElem?_setIfInBounds_self_of_lt (by omega)]
  · rw [Array.getElem?_setIfInBounds_ne (by omega)]; exact hp i hi
  · rw [Array.getElem?_setIfInBounds_ne (by omega)]; exact h1
  · rw [Array.getElem?_setIfInBounds_ne (by omega)]; exact h2
theorem Head.set17 {w : World} {b : Nat} {v : Value} {ps : Nat → Nat} {op e : Nat} (h : Head w b v ps op e) (q : Nat) : Head (w.setCell ⟨b, 17, none⟩ (.int .i64 (q : Nat))) b v ps q e := by
  obtain ⟨cs, h, hs, h0, hp, h1, h2⟩ := h.all
  refine ⟨_, h.put 17 _, by simp [hs], ?_, fun i hi => ?_, ?_, ?_⟩
  · rw [Array.getElem?_setIfInBounds_ne (by omega)]; exact h0
  · rw [Array.getElem?_setIfInBounds_ne (by omega)]; exact hp i hi
  · rw [Array.getElem?_setIfInBounds_self_of_lt (by omega)]
  · rw [Array.getElem?_setIfInBounds_ne (by omega)]; exact h2
theorem Head.set18 {w : World} {b : Nat} {v : Value} {ps : Nat → Nat} {op e : Nat} (h : Head w b v ps op e) (q : Nat) : Head (w.setCell ⟨b, 18, none⟩ (.int .i64 (q : Nat))) b v ps op q := by
  obtain ⟨cs, h, hs, h0, hp, h1, h2⟩ := h.all
  refine ⟨_, h.put 18 _, by simp [hs], ?_, fun i hi => ?_, ?_, ?_⟩
  · rw [Array.getElem?_setIfInBounds_ne (by omega)]; exact h0
  · rw [Array.getElem?_setIfInBounds_ne (by omega)]; exact hp i hi
  · rw [Array.getElem?_setIfInBounds_ne (by omega)]; exact h1
  · rw [Array.getElem?_setIfInBounds_self_of_lt (by omega)]
theorem Head.setp {w : World} {b : Nat} {v : Value} {ps : Nat → Nat} {op e : Nat} (h : Head w b v ps op e) (j q : Nat) (hj : j < 16) : Head (w.setCell ⟨b, 1 + j, none⟩ (.int .i64 (q : Nat))) b v (upd ps j q) op e := by
  obtain ⟨cs, h, hs, h0, hp, h1, h2⟩ := h.all
  refine ⟨_, h.put (1 + j) _, by simp [hs], ?_, fun i hi => ?_, ?_, ?_⟩
  · rw [Array.getElem?_setIfInBounds_ne (by omega)]; exact h0
  · unfold upd
    by_cases e : i = j
    · subst e
      rw [Array.getElem?_setIfInBounds_self_of_lt (by omega), if_pos rfl]
    · rw [Array.getElem?_setIfInBounds_ne (by omega), if_neg e]; exact hp i hi
  · rw [Array.getElem?_setIfInBounds_ne (by omega)]; exact h1
  · rw [Array.getElem?_setIfInBounds_ne (by omega)]; exact h2
structure Wr (w : World) (b : Nat) (v : Value) (s : St) : Prop where
  head : Head w b v s.ps s.op s.e
  body : Owns w v s.n s.f
  far : v.ownBlock ≠ some b
  good : s.Good
/-- Nothing has turned that was there but block b and block o. -/
structure Only2 (b : Nat) (o : Option Nat) (w w' : World) : Prop where
  os : w'.os = w.os
  tape : w'.tape = w.tape
  output : w'.output = w.output
  size : w.heap.size ≤ w'.heap.size
  block : ∀ k, k < w.heap.size → k ≠ b → some k ≠ o → w'.heap[k]? = w.heap[k]?
theorem Only2.refl (b : Nat) (o : Option Nat) (w : World) : Only2 b o w w := ⟨rfl, rfl, rfl, Nat.le_refl _, fun _ _ _ _ => rfl⟩
theorem Only2.trans {b : Nat} {o o' : Option Nat} {w w' w'' : World} (h : Only2 b o w w') (k : Only2 b o' w' w'') (ho : o' = o ∨ ∀ x, o' = some x → w.heap.size ≤ x) : Only2 b o w w'' :=
  ⟨k.os.trans h.os, k.tape.trans h.tape, k.output.trans h.output, Nat.le_trans h.size k.size, fun x hx hb hne => (k.block x (Nat.lt_of_lt_of_le hx h.size) hb (by
    rcases ho with rfl | ho
    · exact hne
    · intro e; have := ho x e.symm; omega)).trans (h.block x hx hb hne)⟩
theorem Only2.of_grown {b : Nat} {o : Option Nat} {w w' : World} (h : w.grownBy w' o) : Only2 b o w w' := ⟨h.os, h.tape, h.output, h.size, fun k hk _ hne => h.block k hk hne⟩
theorem Only2.of_grownb {b : Nat} {o : Option Nat} {w w' : World} (h : w.grownBy w' (some b)) : Only2 b o w w' := ⟨h.os, h.tape, h.output, h.size, fun k hk hb _ => h.block k hk (fun e => hb (by injection e))⟩
theorem Only2.of_below {b : Nat} {o : Option Nat} {w w' : World} (h : Below w.heap.size w w') : Only2 b o w w' := ⟨h.os, h.tape, h.output, h.size, fun k hk _ _ => h.block k hk⟩
theorem Only2.of_set {b : Nat} {o : Option Nat} (w : World) (i : Nat) (u : Value) : Only2 b o w (w.setCell ⟨b, i, none⟩ u) := ⟨rfl, rfl, rfl, by simp [World.setCell], fun k _ hb _ => Below.heap_setCell _ _ _ _ hb⟩
theorem Only2.below {B b : Nat} {o : Option Nat} {v w w' : World} (h : Below B v w) (k : Only2 b o w w') (hb : B ≤ b) (ho : ∀ x, o = some x → B ≤ x) (hs : B ≤ w.heap.size) : Below B v w' :=
  h.trans ⟨k.os, k.tape, k.output, k.size, fun x hx => k.block x (by omega) (by omega) (fun e => by have := ho x e.symm; omega)⟩
theorem room_no (b m : Nat) (v : Value) (s : St) (w : World) (h : Wr w b v s) (hm : m ≤ 281474976710656) (hn : 16777216 < s.n + m) :
    Calls Try.prog 69 #[.pointer (some ⟨b, 0, none⟩), .int .i64 m] w fun e w' => e = fault 4 ∧ w' = w := by
  obtain ⟨a, c, rfl, hR⟩ := h.body.row
  have c0 := h.head.c0
  have hg := h.good.n
  have t1 : decide ((m : Int) > 16777216 - (s.n : Int)) = true := decide_eq_true (by omega)
  have t2 : decide (16777216 - (s.n : Int) < (m : Int)) = true := decide_eq_true (by omega)
  have hsn := Lib.hid hg
  have hsm := Lib.hid hm
  have w1 : wrap64 (16777216 - (s.n : Int)) = 16777216 - (s.n : Int) := by unfold wrap64; omega
  clear h hR hg hn hm
  generalize s.n = n at *
  go_enter Try.func69, Try.ntmps69
  go_wp2_with fail
  refine (refuse_yes _ _).mono ?_
  rintro e w' ⟨rfl, rfl⟩
  unfold fault
  go_wp2_with fail
  exact ⟨rfl, by rfl, rfl⟩
theorem wp_append_ran2 {o : Oper} {a : Act} {K : Act → World → Prop} {Q : Exit → Act → World → Prop} {P : Program} {w : World} (s x : Operand) (t t' : TypeId)
    (ho : o.op = .call { callee := .builtin .append, args := #[s, x], argTypes := #[t, t'] }) (v u r : Value) (w' : World) (hs : a.eval s = v) (hx : a.eval x = u) (hr : (Builtin.append_ #[t, t'] o.type #[v, u]).run P w = .ok r w')
    (h : K (a.put o.dst r) w') : o.wp P a w K Q := by
  unfold Oper.wp execOp
  simp only [ho, resolve, invoke, builtin, Sem.run_bind, Sem.run_pure, Result.andThen_ok, List.map_toArray, List.map_cons, List.map_nil, hs, hx, hr]
  exact h
theorem wpList_append_ran2 {ops : Array Oper} {rest : List Oper} {o : Oper} {a : Act} {Q : Exit → Act → World → Prop} {P : Program} {w : World} (hgd : o.guard = none) (s x : Operand) (t t' : TypeId)
    (ho : o.op = .call { callee := .builtin .append, args := #[s, x], argTypes := #[t, t'] }) (v u r : Value) (w' : World) (hs : a.eval s = v) (hx : a.eval x = u) (hr : (Builtin.append_ #[t, t'] o.type #[v, u]).run P w = .ok r w')
    (h : wpList P ops Q rest (a.put o.dst r) w') : wpList P ops Q (o :: rest) a w :=
  wpList_plain hgd fun _ hK => wp_append_ran2 s x t t' ho v u r w' hs hx hr (hK _ _ h)
theorem room_ok (b m : Nat) (v : Value) (s : St) (w : World) (h : Wr w b v s) (hm : 0 < m) (hn : s.n + m ≤ 16777216) :
    Calls Try.prog 69 #[.pointer (some ⟨b, 0, none⟩), .int .i64 m] w fun e w' => ∃ g cap, e = .returned (.slice (some ⟨g, s.n, none⟩) m (cap - s.n)) ∧
      Wr w' b (.slice (some ⟨g, 0, none⟩) (s.n + m) cap) { s with n := s.n + m, f := zeroed s.f s.n } ∧ Only2 b v.ownBlock w w' ∧ (some g = v.ownBlock ∨ w.heap.size ≤ g) := by
  obtain ⟨v', w1, hr, hO, hgr, hown⟩ := run_append_zeros w 25 v s.n m s.f h.body (by omega)
  have hgd := h.good
  have hfar := h.far
  have hbl := h.head.lt
  have hH1 : Head w1 b v s.ps s.op s.e := h.head.kept (hgr.block b hbl (fun e => hfar e.symm))
  have hlt := h.body.lt
  obtain ⟨g, cap, rfl, hcap, hcm⟩ : ∃ g cap, v' = .slice (some ⟨g, 0, none⟩) (s.n + m) cap ∧ s.n + m ≤ cap ∧ cap ≤ maxLen := by
    rcases hO.2 with ⟨_, h0⟩ | ⟨g, cap, cs, rfl, _, h1, h2, _⟩
    · omega
    · exact ⟨g, cap, rfl, h1, h2⟩
  have hgb : g ≠ b := by
    intro e
    rcases hown with hown | hown
    · exact hfar (by rw [← hown]; simp [Value.ownBlock, e])
    · have : g = w.heap.size := by simpa [Value.ownBlock] using hown
      omega
  have hgo : some g = v.ownBlock ∨ w.heap.size ≤ g := by
    rcases hown with hown | hown
    · exact .inl hown
    · exact .inr (by have : g = w.heap.size := by simpa [Value.ownBlock] using hown
                     omega)
  have hO2 : Owns (w1.setCell ⟨b, 0, none⟩ (.slice (some ⟨g, 0, none⟩) (s.n + m) cap)) (.slice (some ⟨g, 0, none⟩) (s.n + m) cap) (s.n + m) (zeroed s.f s.n) :=
    hO.kept (row := some b) ⟨rfl, rfl, rfl, by simp [World.setCell], fun k _ hk => Below.heap_setCell _ _ _ _ (fun e => hk (by rw [e]))⟩ (.inr (by simpa [Value.ownBlock] using hgb))
  have hH2 := hH1.set0 (.slice (some ⟨g, 0, none⟩) (s.n + m) cap)
  have hOn : Only2 b v.ownBlock w (w1.setCell ⟨b, 0, none⟩ (.slice (some ⟨g, 0, none⟩) (s.n + m) cap)) := (Only2.of_grown hgr).trans (o' := v.ownBlock) (Only2.of_set w1 0 _) (.inl rfl)
  have hWr : Wr (w1.setCell ⟨b, 0, none⟩ (.slice (some ⟨g, 0, none⟩) (s.n + m) cap)) b (.slice (some ⟨g, 0, none⟩) (s.n + m) cap) { s with n := s.n + m, f := zeroed s.f s.n } :=
    ⟨hH2, hO2, by simpa [Value.ownBlock] using hgb, ⟨hgd.op, hn, fun i hi => by have := hgd.ps i hi; exact ⟨this.1, by show s.ps i ≤ s.n + m; omega⟩⟩⟩
  obtain ⟨a, c, rfl, hR⟩ := h.body.row
  have c0 := h.head.c0
  have f0 := h.head.free 0
  have d0 := hH1.c0
  have e0 := hH1.free 0
  have x0 := hH2.c0
  have hgn := hgd.n
  have t2 : decide (wrap64 (16777216 - (s.n : Int)) < (m : Int)) = false := decide_eq_false (by unfold wrap64; omega)
  have hsn := Lib.hid hgn
  have hsm := Lib.hid hm
  have hne : ¬ cap = s.n := by omega
  have hnc : (s.n : Int) ≤ ((s.n + m : Nat) : Int) := by omega
  replace hWr := Lib.hid hWr
  replace hOn := Lib.hid hOn
  clear h hR hgn hm hO hgr hH1 hH2 hO2 hown hlt hgd hbl hfar hgb
  replace hn := Lib.hid hn
  replace hcap := Lib.hid hcap
  replace hcm := Lib.hid hcm
  go_enter Try.func69, Try.ntmps69
  go_wp2_with fail
  refine (refuse_no _ _).mono ?_
  rintro e w' ⟨rfl, hw⟩
  subst hw
  go_wp2_with (at_builtin; refine wpList_append_ran2 rfl _ _ 25 3 rfl _ _ _ w1 rfl rfl hr ?_)
  go_ret
  exact ⟨g, cap, rfl, hWr.out, hOn.out, hgo⟩
end Go.Proofs.Ytacnmnodbmbplaa
