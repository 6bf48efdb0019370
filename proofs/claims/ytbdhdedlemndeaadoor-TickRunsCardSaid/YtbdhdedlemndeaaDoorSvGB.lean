/-
  Numbers as bytes: their sizes, laid into a row, put together again.
-/
import Derived.Test.YtbdhdedlemndeaaDoorSvGA
import Derived.Test.YtbdhdedlemndeaaDoorSvLib
import Derived.WalkArith
import Derived.Deep.DeepCutAuto
import Derived.Lib.LazyBuf
namespace Go.Proofs.YtbdhdedlemndeaaDoor
open Go.RowKit Go.Shelf
set_option maxRecDepth 100000
set_option maxHeartbeats 1000000

theorem size_uint8 (w : World) : Calls Tryd.prog 88 #[] w fun e w' => e = .returned (.int .i64 1) ∧ w = w' := by
  have HL := fun W => Tryd.bits_Len64 255 W (by decide) (by decide)
  have hb : Lib.bitLen (255 : Int).toNat = 8 := by decide +kernel
  go_enter Tryd.func88, Tryd.ntmps88
  go_wp2_with (go_at_call 85; refine (HL _).mono ?_; rintro e w' ⟨rfl, rfl⟩; rw [hb])
  go_ret
  exact ⟨rfl, rfl⟩
theorem size_uint32 (w : World) : Calls Tryd.prog 71 #[] w fun e w' => e = .returned (.int .i64 4) ∧ w = w' := by
  have HL := fun W => Tryd.bits_Len64 4294967295 W (by decide) (by decide)
  have hb : Lib.bitLen (4294967295 : Int).toNat = 32 := by decide +kernel
  go_enter Tryd.func71, Tryd.ntmps71
  go_wp2_with (go_at_call 85; refine (HL _).mono ?_; rintro e w' ⟨rfl, rfl⟩; rw [hb])
  go_ret
  exact ⟨rfl, rfl⟩
end Go.Proofs.YtbdhdedlemndeaaDoor
namespace Go.Proofs.YtbdhdedlemndeaaDoor
open Go.RowKit Go.Shelf
set_option maxRecDepth 100000
set_option maxHeartbeats 1000000

/-- Byte i of a number. -/
def byteAt (v i : Nat) : Nat := v / 2 ^ (8 * i) % 256
theorem byteAt_lt (v i : Nat) : byteAt v i < 256 := Nat.mod_lt _ (by decide)
theorem byteAt_cast (v i : Nat) : (v : Int) / 2 ^ (8 * i) % 256 = ((byteAt v i : Nat) : Int) := by
  unfold byteAt
  rw [Int.natCast_emod, Int.natCast_ediv, Int.natCast_pow]
  rfl
theorem byteAt_one {v i : Nat} (hv : v < 256) (hi : i = 0) : (v : Int) / 2 ^ (8 * i) = ((byteAt v i : Nat) : Int) := by
  subst hi
  unfold byteAt
  rw [show 8 * 0 = 0 by rfl, Nat.pow_zero, Nat.div_one, Nat.mod_eq_of_lt hv]
  simp
/-- Block g: as it was in cs, but for the first k cells from o on, which hold the bytes of v. -/
structure Laid (w : World) (g o k v : Nat) (cs : Array Value) (W : World) : Prop where
  now : ∃ ds, Whole W g 5 ds ∧ ds.size = cs.size ∧ (∀ i, i < k → ds[o + i]? = some (.int .u8 (byteAt v i : Nat))) ∧ ∀ j, j < o ∨ o + k ≤ j → ds[j]? = cs[j]?
  only : w.grownBy W (some g)
theorem Laid.start {w : World} {g o v : Nat} {cs : Array Value} (h : Whole w g 5 cs) : Laid w g o 0 v cs w :=
  ⟨⟨cs, h, rfl, fun i hi => by omega, fun _ _ => rfl⟩, ⟨rfl, rfl, rfl, Nat.le_refl _, fun _ _ _ => rfl⟩⟩
theorem Laid.step {w W : World} {g o k v : Nat} {cs : Array Value} (h : Laid w g o k v cs W) (hk : o + k < cs.size) : Laid w g o (k + 1) v cs (W.setCell ⟨g, o + k, none⟩ (.int .u8 (byteAt v k : Nat))) := by
  obtain ⟨⟨ds, hw, hs, h1, h2⟩, ho⟩ := h
  refine ⟨⟨_, hw.put (o + k) _, by simp [hs], fun i hi => ?_, fun j hj => ?_⟩, ?_⟩
  · by_cases e : i = k
    · subst e
      rw [Array.getElem?_setIfInBounds_self_of_lt (by omega)]
    · rw [Array.getElem?_setIfInBounds_ne (by omega)]
      exact h1 i (by omega)
  · rw [Array.getElem?_setIfInBounds_ne (by omega)]
    exact h2 j (by omega)
  · exact ⟨ho.os, ho.tape, ho.output, by simp [World.setCell]; exact ho.size, fun j hj hne => (Below.heap_setCell _ _ _ _ (fun e => hne (by rw [e]))).trans (ho.block j hj hne)⟩
theorem Laid.cell {w W : World} {g o k v : Nat} {cs : Array Value} (h : Laid w g o k v cs W) (j : Nat) (hj : j < cs.size) : ∃ x, W.cell? ⟨g, j, none⟩ = some x ∧ W.frozen? ⟨g, j, none⟩ = false := by
  obtain ⟨⟨ds, hw, hs, _⟩, _⟩ := h
  exact ⟨ds[j]'(by omega), by rw [hw.cell]; exact Array.getElem?_eq_getElem (by omega), hw.free j⟩
theorem lay_uint8 (g o len c v : Nat) (cs : Array Value) (w : World) (h : Whole w g 5 cs) (hv : v < 256) (hl : 1 ≤ len) (ho : o + 1 ≤ cs.size) :
    Calls Tryd.prog 80 #[.slice (some ⟨g, o, none⟩) len c, .int .u8 v] w fun e w' => e = .returned (.tuple #[]) ∧ Laid w g o 1 v cs w' := by
  have hlen : (1 : Int) ≤ len := by omega
  have HV := Lib.hid hv
  have HO := Lib.hid ho
  clear hv ho hl
  go_enter Tryd.func80, Tryd.ntmps80
  go_wp2_with (go_at_call 88; refine (size_uint8 _).mono ?_; rintro e w' ⟨rfl, rfl⟩)
  go_loopw [6] (fun s6 wr => ∃ i : Nat, i ≤ 1 ∧ s6 = .int .i64 i ∧ Laid w g o i v cs wr) (fun s6 _ => 1 - (intOf s6).toNat)
  case atStart => exact ⟨0, Nat.zero_le _, rfl, Laid.start h⟩
  case round =>
    obtain ⟨i, hi, rfl, hL⟩ := hrel
    by_cases hlt : i < 1
    · obtain ⟨x, hx, hf⟩ := hL.cell (o + i) (by have := HO.out; omega)
      have hlt2 : (i : Int) < 1 := by omega
      have hil : (i : Int) < len := by omega
      clear h
      go_wp2_with fail
      go_roundw
      case rel => exact ⟨i + 1, by omega, by congr 1, by rw [byteAt_one HV.out (by omega)]; exact hL.step (by have := HO.out; omega)⟩
      case measure => simp [intOf]; omega
    · obtain rfl : i = 1 := by omega
      clear h
      go_wp2_with fail
      go_end0
      exact ⟨rfl, hL⟩
theorem lay_uint32 (g o len c v : Nat) (cs : Array Value) (w : World) (h : Whole w g 5 cs) (hv : v < 4294967296) (hl : 4 ≤ len) (ho : o + 4 ≤ cs.size) :
    Calls Tryd.prog 70 #[.slice (some ⟨g, o, none⟩) len c, .int .u32 v] w fun e w' => e = .returned (.tuple #[]) ∧ Laid w g o 4 v cs w' := by
  have hlen : (4 : Int) ≤ len := by omega
  have HV := Lib.hid hv
  have HO := Lib.hid ho
  clear hv ho hl
  go_enter Tryd.func70, Tryd.ntmps70
  go_wp2_with (go_at_call 71; refine (size_uint32 _).mono ?_; rintro e w' ⟨rfl, rfl⟩)
  go_loopw [6] (fun s6 wr => ∃ i : Nat, i ≤ 4 ∧ s6 = .int .i64 i ∧ Laid w g o i v cs wr) (fun s6 _ => 4 - (intOf s6).toNat)
  case atStart => exact ⟨0, Nat.zero_le _, rfl, Laid.start h⟩
  case round =>
    obtain ⟨i, hi, rfl, hL⟩ := hrel
    by_cases hlt : i < 4
    · obtain ⟨x, hx, hf⟩ := hL.cell (o + i) (by have := HO.out; omega)
      have hlt2 : (i : Int) < 4 := by omega
      have hil : (i : Int) < len := by omega
      clear h
      go_wp2_with fail
      go_roundw
      case rel => exact ⟨i + 1, by omega, by congr 1, by rw [byteAt_cast]; exact hL.step (by have := HO.out; omega)⟩
      case measure => simp [intOf]; omega
    · obtain rfl : i = 4 := by omega
      clear h
      go_wp2_with fail
      go_end0
      exact ⟨rfl, hL⟩
end Go.Proofs.YtbdhdedlemndeaaDoor
namespace Go.Proofs.YtbdhdedlemndeaaDoor
open Go.RowKit Go.Shelf
set_option maxRecDepth 100000
set_option maxHeartbeats 1000000

/-- What a writer is: its body's bytes, where its open parts begin, how many are open, what went wrong. -/
structure St where
  n : Nat
  f : Nat → Nat
  ps : Nat → Nat
  op : Nat
  e : Nat
structure St.Good (s : St) : Prop where
  op : s.op ≤ 16
  n : s.n ≤ 16777216
  ps : ∀ i, i < s.op → 4 ≤ s.ps i ∧ s.ps i ≤ s.n
/-- The writer's own cells. -/
structure Head (w : World) (b : Nat) (v : Value) (ps : Nat → Nat) (op e : Nat) : Prop where
  all : ∃ cs, Whole w b 92 cs ∧ cs.size = 19 ∧ cs[0]? = some v ∧ (∀ i, i < 16 → cs[1 + i]? = some (.int .i64 (ps i : Nat))) ∧ cs[17]? = some (.int .i64 (op : Nat)) ∧ cs[18]? = some (.int .i64 (e : Nat))
theorem Head.lt {w : World} {b : Nat} {v : Value} {ps : Nat → Nat} {op e : Nat} (h : Head w b v ps op e) : b < w.heap.size := let ⟨_, h, _⟩ := h.all; h.lt
theorem Head.c0 {w : World} {b : Nat} {v : Value} {ps : Nat → Nat} {op e : Nat} (h : Head w b v ps op e) : w.cell? ⟨b, 0, none⟩ = some v := let ⟨_, h, _, h0, _⟩ := h.all; (h.cell 0).trans h0
theorem Head.c17 {w : World} {b : Nat} {v : Value} {ps : Nat → Nat} {op e : Nat} (h : Head w b v ps op e) : w.cell? ⟨b, 17, none⟩ = some (.int .i64 (op : Nat)) := let ⟨_, h, _, _, _, h0, _⟩ := h.all; (h.cell 17).trans h0
theorem Head.c18 {w : World} {b : Nat} {v : Value} {ps : Nat → Nat} {op e : Nat} (h : Head w b v ps op e) : w.cell? ⟨b, 18, none⟩ = some (.int .i64 (e : Nat)) := let ⟨_, h, _, _, _, _, h0⟩ := h.all; (h.cell 18).trans h0
theorem Head.cp {w : World} {b : Nat} {v : Value} {ps : Nat → Nat} {op e : Nat} (h : Head w b v ps op e) (i : Nat) (hi : i < 16) : w.cell? ⟨b, 1 + i, none⟩ = some (.int .i64 (ps i : Nat)) := let ⟨_, h, _, _, h0, _⟩ := h.all; (h.cell (1 + i)).trans (h0 i hi)
theorem Head.free {w : World} {b : Nat} {v : Value} {ps : Nat → Nat} {op e : Nat} (h : Head w b v ps op e) (i : Nat) : w.frozen? ⟨b, i, none⟩ = false := let ⟨_, h, _⟩ := h.all; h.free i
theorem Head.kept {w w' : World} {b : Nat} {v : Value} {ps : Nat → Nat} {op e : Nat} (h : Head w b v ps op e) (hk : w'.heap[b]? = w.heap[b]?) : Head w' b v ps op e := let ⟨cs, h, r⟩ := h.all; ⟨cs, hk.trans h, r⟩
theorem Head.set0 {w : World} {b : Nat} {v : Value} {ps : Nat → Nat} {op e : Nat} (h : Head w b v ps op e) (u : Value) : Head (w.setCell ⟨b, 0, none⟩ u) b u ps op e := by
  obtain ⟨cs, h, hs, h0, hp, h1, h2⟩ := h.all
  refine ⟨_, h.put 0 u, by simp [hs], ?_, fun i hi => ?_, ?_, ?_⟩
  · rw [Array.getElem?_setIfInBounds_self_of_lt (by omega)]
  · rw [Array.getElem?_setIfInBounds_ne (by omega)]; exact hp i hi
  · rw [Array.getElem?_setIfInBounds_ne (by omega)]; exact h1
  · rw [Array.getElem?_setIfInBounds_ne (by omega)]; exact h2
theorem Head.set17 {w : World} {b : Nat} {v : Value} {ps : Nat → Nat} {op e : Nat} (h : Head w b v ps op e) (q : Nat) : Head (w.setCell ⟨b, 17, none⟩ (.int .i64 (q : Nat))) b v ps q e := by
  obtain ⟨cs, h, hs, h0, hp, h1, h2⟩ := h.all
  refine ⟨_, h.put 17 _, by simp [hs], ?_, fun i hi => ?_, ?_, ?_⟩
  · rw [Array.getElem?_setIfInBounds_ne (by omega)]; exact h0
  · rw [Array.getElem?_setIfInBounds_ne (by omega)]; exact hp i hi
  · rw [Array.getElem?_setIfInBounds_self_of_lt (by omega)]
  · rw [Array.getElem?_setIfInBounds_ne (by omega)]; exact h2
theorem Head.set18 {w : World} {b : Nat} {v : Value} {ps : Nat → Nat} {op e : Nat} (h : Head w b v ps op e) (q : Nat) : Head (w.setCell ⟨b, 18, none⟩ (.int .i64 (q : Nat))) b v ps op q := by
  obtain ⟨cs, h, hs, h0, hp, h1, h2⟩ := h.all
  refine ⟨_, h.put 18 _, by simp [hs], ?_, fun i hi => ?_, ?_, ?_⟩
  · rw [Array.getElem?_setIfInBounds_ne (by omega)]; exact h0
  · rw [Array.getElem?_setIfInBounds_ne (by omega)]; exact hp i hi
  · rw [Array.getElem?_setIfInBounds_ne (by omega)]; exact h1
  · rw [Array.getElem?_setIfInBounds_self_of_lt (by omega)]
theorem Head.setp {w : World} {b : Nat} {v : Value} {ps : Nat → Nat} {op e : Nat} (h : Head w b v ps op e) (j q : Nat) (hj : j < 16) : Head (w.setCell ⟨b, 1 + j, none⟩ (.int .i64 (q : Nat))) b v (upd ps j q) op e := by
  obtain ⟨cs, h, hs, h0, hp, h1, h2⟩ := h.all
  refine ⟨_, h.put (1 + j) _, by simp [hs], ?_, fun i hi => ?_, ?_, ?_⟩
  · rw [Array.getElem?_setIfInBounds_ne (by omega)]; exact h0
  · unfold upd
    by_cases e : i = j
    · subst e
      rw [Array.getElem?_setIfInBounds_self_of_lt (by omega), if_pos rfl]
    · rw [Array.getElem?_setIfInBounds_ne (by omega), if_neg e]; exact hp i hi
  · rw [Array.getElem?_setIfInBounds_ne (by omega)]; exact h1
  · rw [Array.getElem?_setIfInBounds_ne (by omega)]; exact h2
structure Wr (w : World) (b : Nat) (v : Value) (s : St) : Prop where
  head : Head w b v s.ps s.op s.e
  body : Owns w v s.n s.f
  far : v.ownBlock ≠ some b
  good : s.Good
/-- Nothing has turned that was there but block b and block o. -/
structure Only2 (b : Nat) (o : Option Nat) (w w' : World) : Prop where
  os : w'.os = w.os
  tape : w'.tape = w.tape
  output : w'.output = w.output
  size : w.heap.size ≤ w'.heap.size
  block : ∀ k, k < w.heap.size → k ≠ b → some k ≠ o → w'.heap[k]? = w.heap[k]?
theorem Only2.refl (b : Nat) (o : Option Nat) (w : World) : Only2 b o w w := ⟨rfl, rfl, rfl, Nat.le_refl _, fun _ _ _ _ => rfl⟩
theorem Only2.trans {b : Nat} {o o' : Option Nat} {w w' w'' : World} (h : Only2 b o w w') (k : Only2 b o' w' w'') (ho : o' = o ∨ ∀ x, o' = some x → w.heap.size ≤ x) : Only2 b o w w'' :=
  ⟨k.os.trans h.os, k.tape.trans h.tape, k.output.trans h.output, Nat.le_trans h.size k.size, fun x hx hb hne => (k.block x (Nat.lt_of_lt_of_le hx h.size) hb (by
    rcases ho with rfl | ho
    · exact hne
    · intro e; have := ho x e.symm; omega)).trans (h.block x hx hb hne)⟩
theorem Only2.of_grown {b : Nat} {o : Option Nat} {w w' : World} (h : w.grownBy w' o) : Only2 b o w w' := ⟨h.os, h.tape, h.output, h.size, fun k hk _ hne => h.block k hk hne⟩
theorem Only2.of_grownb {b : Nat} {o : Option Nat} {w w' : World} (h : w.grownBy w' (some b)) : Only2 b o w w' := ⟨h.os, h.tape, h.output, h.size, fun k hk hb _ => h.block k hk (fun e => hb (by injection e))⟩
theorem Only2.of_below {b : Nat} {o : Option Nat} {w w' : World} (h : Below w.heap.size w w') : Only2 b o w w' := ⟨h.os, h.tape, h.output, h.size, fun k hk _ _ => h.block k hk⟩
theorem Only2.of_set {b : Nat} {o : Option Nat} (w : World) (i : Nat) (u : Value) : Only2 b o w (w.setCell ⟨b, i, none⟩ u) := ⟨rfl, rfl, rfl, by simp [World.setCell], fun k _ hb _ => Below.heap_setCell _ _ _ _ hb⟩
theorem Only2.below {B b : Nat} {o : Option Nat} {v w w' : World} (h : Below B v w) (k : Only2 b o w w') (hb : B ≤ b) (ho : ∀ x, o = some x → B ≤ x) (hs : B ≤ w.heap.size) : Below B v w' :=
  h.trans ⟨k.os, k.tape, k.output, k.size, fun x hx => k.block x (by omega) (by omega) (fun e => by have := ho x e.symm; omega)⟩
theorem room_no (b m : Nat) (v : Value) (s : St) (w : World) (h : Wr w b v s) (hm : m ≤ 281474976710656) (hn : 16777216 < s.n + m) :
    Calls Tryd.prog 81 #[.pointer (some ⟨b, 0, none⟩), .int .i64 m] w fun e w' => e = fault 4 ∧ w' = w := by
  obtain ⟨a, c, rfl, hR⟩ := h.body.row
  have c0 := h.head.c0
  have hg := h.good.n
  have t1 : decide ((m : Int) > 16777216 - (s.n : Int)) = true := decide_eq_true (by omega)
  have t2 : decide (16777216 - (s.n : Int) < (m : Int)) = true := decide_eq_true (by omega)
  have hsn := Lib.hid hg
  have hsm := Lib.hid hm
  have w1 : wrap64 (16777216 - (s.n : Int)) = 16777216 - (s.n : Int) := by unfold wrap64; omega
  clear h hR hg hn hm
  generalize s.n = n at *
  go_enter Tryd.func81, Tryd.ntmps81
  go_wp2_with fail
  refine (refuse_yes _ _).mono ?_
  rintro e w' ⟨rfl, rfl⟩
  unfold fault
  go_wp2_with fail
  exact ⟨rfl, by rfl, rfl⟩
theorem wp_append_ran2 {o : Oper} {a : Act} {K : Act → World → Prop} {Q : Exit → Act → World → Prop} {P : Program} {w : World} (s x : Operand) (t t' : TypeId)
    (ho : o.op = .call { callee := .builtin .append, args := #[s, x], argTypes := #[t, t'] }) (v u r : Value) (w' : World) (hs : a.eval s = v) (hx : a.eval x = u) (hr : (Builtin.append_ #[t, t'] o.type #[v, u]).run P w = .ok r w')
    (h : K (a.put o.dst r) w') : o.wp P a w K Q := by
  unfold Oper.wp execOp
  simp only [ho, resolve, invoke, builtin, Sem.run_bind, Sem.run_pure, Result.andThen_ok, List.map_toArray, List.map_cons, List.map_nil, hs, hx, hr]
  exact h
theorem wpList_append_ran2 {ops : Array Oper} {rest : List Oper} {o : Oper} {a : Act} {Q : Exit → Act → World → Prop} {P : Program} {w : World} (hgd : o.guard = none) (s x : Operand) (t t' : TypeId)
    (ho : o.op = .call { callee := .builtin .append, args := #[s, x], argTypes := #[t, t'] }) (v u r : Value) (w' : World) (hs : a.eval s = v) (hx : a.eval x = u) (hr : (Builtin.append_ #[t, t'] o.type #[v, u]).run P w = .ok r w')
    (h : wpList P ops Q rest (a.put o.dst r) w') : wpList P ops Q (o :: rest) a w :=
  wpList_plain hgd fun _ hK => wp_append_ran2 s x t t' ho v u r w' hs hx hr (hK _ _ h)
theorem room_ok (b m : Nat) (v : Value) (s : St) (w : World) (h : Wr w b v s) (hm : 0 < m) (hn : s.n + m ≤ 16777216) :
    Calls Tryd.prog 81 #[.pointer (some ⟨b, 0, none⟩), .int .i64 m] w fun e w' => ∃ g cap, e = .returned (.slice (some ⟨g, s.n, none⟩) m (cap - s.n)) ∧
      Wr w' b (.slice (some ⟨g, 0, none⟩) (s.n + m) cap) { s with n := s.n + m, f := zeroed s.f s.n } ∧ Only2 b v.ownBlock w w' ∧ (some g = v.ownBlock ∨ w.heap.size ≤ g) := by
  obtain ⟨v', w1, hr, hO, hgr, hown⟩ := run_append_zeros w 46 v s.n m s.f h.body (by omega)
  have hgd := h.good
  have hfar := h.far
  have hbl := h.head.lt
  have hH1 : Head w1 b v s.ps s.op s.e := h.head.kept (hgr.block b hbl (fun e => hfar e.symm))
  have hlt := h.body.lt
  obtain ⟨g, cap, rfl, hcap, hcm⟩ : ∃ g cap, v' = .slice (some ⟨g, 0, none⟩) (s.n + m) cap ∧ s.n + m ≤ cap ∧ cap ≤ maxLen := by
    rcases hO.2 with ⟨_, h0⟩ | ⟨g, cap, cs, rfl, _, h1, h2, _⟩
    · omega
    · exact ⟨g, cap, rfl, h1, h2⟩
  have hgb : g ≠ b := by
    intro e
    rcases hown with hown | hown
    · exact hfar (by rw [← hown]; simp [Value.ownBlock, e])
    · have : g = w.heap.size := by simpa [Value.ownBlock] using hown
      omega
  have hgo : some g = v.ownBlock ∨ w.heap.size ≤ g := by
    rcases hown with hown | hown
    · exact .inl hown
    · exact .inr (by have : g = w.heap.size := by simpa [Value.ownBlock] using hown
                     omega)
  have hO2 : Owns (w1.setCell ⟨b, 0, none⟩ (.slice (some ⟨g, 0, none⟩) (s.n + m) cap)) (.slice (some ⟨g, 0, none⟩) (s.n + m) cap) (s.n + m) (zeroed s.f s.n) :=
    hO.kept (row := some b) ⟨rfl, rfl, rfl, by simp [World.setCell], fun k _ hk => Below.heap_setCell _ _ _ _ (fun e => hk (by rw [e]))⟩ (.inr (by simpa [Value.ownBlock] using hgb))
  have hH2 := hH1.set0 (.slice (some ⟨g, 0, none⟩) (s.n + m) cap)
  have hOn : Only2 b v.ownBlock w (w1.setCell ⟨b, 0, none⟩ (.slice (some ⟨g, 0, none⟩) (s.n + m) cap)) := (Only2.of_grown hgr).trans (o' := v.ownBlock) (Only2.of_set w1 0 _) (.inl rfl)
  have hWr : Wr (w1.setCell ⟨b, 0, none⟩ (.slice (some ⟨g, 0, none⟩) (s.n + m) cap)) b (.slice (some ⟨g, 0, none⟩) (s.n + m) cap) { s with n := s.n + m, f := zeroed s.f s.n } :=
    ⟨hH2, hO2, by simpa [Value.ownBlock] using hgb, ⟨hgd.op, hn, fun i hi => by have := hgd.ps i hi; exact ⟨this.1, by show s.ps i ≤ s.n + m; omega⟩⟩⟩
  obtain ⟨a, c, rfl, hR⟩ := h.body.row
  have c0 := h.head.c0
  have f0 := h.head.free 0
  have d0 := hH1.c0
  have e0 := hH1.free 0
  have x0 := hH2.c0
  have hgn := hgd.n
  have t2 : decide (wrap64 (16777216 - (s.n : Int)) < (m : Int)) = false := decide_eq_false (by unfold wrap64; omega)
  have hsn := Lib.hid hgn
  have hsm := Lib.hid hm
  have hne : ¬ cap = s.n := by omega
  have hnc : (s.n : Int) ≤ ((s.n + m : Nat) : Int) := by omega
  replace hWr := Lib.hid hWr
  replace hOn := Lib.hid hOn
  clear h hR hgn hm hO hgr hH1 hH2 hO2 hown hlt hgd hbl hfar hgb
  replace hn := Lib.hid hn
  replace hcap := Lib.hid hcap
  replace hcm := Lib.hid hcm
  go_enter Tryd.func81, Tryd.ntmps81
  go_wp2_with fail
  refine (refuse_no _ _).mono ?_
  rintro e w' ⟨rfl, hw⟩
  subst hw
  go_wp2_with (at_builtin; refine wpList_append_ran2 rfl _ _ 46 3 rfl _ _ _ w1 rfl rfl hr ?_)
  go_ret
  exact ⟨g, cap, rfl, hWr.out, hOn.out, hgo⟩
end Go.Proofs.YtbdhdedlemndeaaDoor
namespace Go.Proofs.YtbdhdedlemndeaaDoor
open Go.RowKit Go.Shelf
set_option maxRecDepth 100000
set_option maxHeartbeats 1000000

/-- The body's block is the one that it was, or a new one. -/
def NewOwn (v v' : Value) (w : World) : Prop := v'.ownBlock = v.ownBlock ∨ ∀ x, v'.ownBlock = some x → w.heap.size ≤ x
theorem NewOwn.refl (v : Value) (w : World) : NewOwn v v w := .inl rfl
theorem Wr.kept {w w' : World} {b : Nat} {v : Value} {s : St} (h : Wr w b v s) (hb : w'.heap[b]? = w.heap[b]?) (ho : ∀ x, v.ownBlock = some x → w'.heap[x]? = w.heap[x]?) : Wr w' b v s := by
  refine ⟨h.head.kept hb, ?_, h.far, h.good⟩
  refine ⟨h.body.1, ?_⟩
  rcases h.body.2 with h2 | ⟨g, cap, cs, rfl, hw, h3⟩
  · exact .inl h2
  · exact .inr ⟨g, cap, cs, rfl, (ho g rfl).trans hw, h3⟩
theorem Wr.below {w w' : World} {b : Nat} {v : Value} {s : St} (h : Wr w b v s) (hb : Below w.heap.size w w') : Wr w' b v s :=
  h.kept (hb.block b h.head.lt) (fun x hx => hb.block x (h.body.lt x hx))
theorem Wr.alloc {w : World} {b : Nat} {v : Value} {s : St} (h : Wr w b v s) (o : Obj) : Wr (w.alloc o) b v s := h.below ((Below.refl _ w).alloc (Nat.le_refl _) o)
theorem Wr.away {w : World} {b : Nat} {v : Value} {s : St} (h : Wr w b v s) {x : Nat} (h1 : x ≠ b) (h2 : v.ownBlock ≠ some x) (i : Nat) (u : Value) : Wr (w.setCell ⟨x, i, none⟩ u) b v s :=
  h.kept (Below.heap_setCell _ _ _ _ (fun e => h1 e.symm)) (fun y hy => Below.heap_setCell _ _ _ _ (fun e => h2 (by rw [hy, e])))
theorem Wr.wrong {w : World} {b : Nat} {v : Value} {s : St} (h : Wr w b v s) (c : Nat) : Wr (w.setCell ⟨b, 18, none⟩ (.int .i64 (c : Nat))) b v { s with e := c } :=
  ⟨h.head.set18 c, h.body.kept (row := some b) ⟨rfl, rfl, rfl, by simp [World.setCell], fun k _ hk => Below.heap_setCell _ _ _ _ (fun e => hk (by rw [e]))⟩ (.inr h.far), h.far, h.good.op, h.good.n, h.good.ps⟩
theorem wattempt_skip {b : Nat} {v : Value} {s : St} (g : Value) (w : World) (h : Wr w b v s) (he : s.e ≠ 0) : Calls Tryd.prog 78 #[.pointer (some ⟨b, 0, none⟩), g] w fun e w' => e = .returned (.tuple #[]) ∧ w' = w := by
  have c18 := h.head.c18
  have t : ((s.e : Int) == 0) = false := by rw [beq_eq_false_iff_ne]; omega
  clear he h
  go_enter Tryd.func78, Tryd.ntmps78
  go_wp2_with fail
  go_end0
  exact ⟨rfl, rfl⟩
theorem wattempt_ok {b k : Nat} {caps : Array Value} {v : Value} {s s' : St} (w : World) (h : Wr w b v s) (he : s.e = 0) (he' : s'.e = 0) (hen : ∀ (args : Array Value) (W : World), (callFunc k args).run Tryd.prog W = .ok (.enter k args) W)
    (hdo : Calls Tryd.prog k caps (w.alloc (.cells #[.int .i64 0] 40)) fun e w' => e = .returned (.tuple #[]) ∧ ∃ v', Wr w' b v' s' ∧ Only2 b v.ownBlock (w.alloc (.cells #[.int .i64 0] 40)) w' ∧ NewOwn v v' (w.alloc (.cells #[.int .i64 0] 40))) :
    Calls Tryd.prog 78 #[.pointer (some ⟨b, 0, none⟩), .func (.func k) #[] caps] w fun e w' => e = .returned (.tuple #[]) ∧ ∃ v', Wr w' b v' s' ∧ Only2 b v.ownBlock w w' ∧ NewOwn v v' w := by
  have c18 := h.head.c18
  rw [he] at c18
  have hbl := h.head.lt
  have hol := h.body.lt
  have HA := Lib.hid (attempt_any w (fun V => ∃ v', Wr V b v' s' ∧ Only2 b v.ownBlock (w.alloc (.cells #[.int .i64 0] 40)) V ∧ NewOwn v v' (w.alloc (.cells #[.int .i64 0] 40))) (fun _ _ => False) hen (hdo.mono (by
    rintro e w' ⟨rfl, v', h1, h2, h3⟩
    exact ⟨(h2.block w.heap.size (by simp) (by omega) (fun e => by have := hol _ e.symm; omega)).trans (Whole.fresh w _ _), .inl ⟨rfl, v', h1, h2, h3⟩⟩)))
  clear hdo hen h
  go_enter Tryd.func78, Tryd.ntmps78
  go_wp2_with fail
  refine HA.out.mono ?_
  rintro e w' (⟨rfl, V, ⟨v', h1, h2, h3⟩, rfl⟩ | ⟨c, V, _, hF, _⟩)
  · have hvx : v'.ownBlock ≠ some w.heap.size := by
      rcases h3 with h3 | h3
      · rw [h3]; intro e; have := hol _ e; omega
      · intro e; have := h3 _ e; simp at this; omega
    have h4 := h1.away (x := w.heap.size) (by omega) hvx 0 (.int .i64 0)
    have h5 := h4.wrong 0
    have o1 : Only2 b v.ownBlock w (V.setCell ⟨w.heap.size, 0, none⟩ (.int .i64 0)) := by
      have o0 : Only2 b v.ownBlock w V := (Only2.of_below ((Below.refl _ w).alloc (Nat.le_refl _) _)).trans h2 (.inl rfl)
      exact ⟨o0.os, o0.tape, o0.output, by simp [World.setCell]; exact o0.size, fun k hk hb ho => (Below.heap_setCell _ _ _ _ (by simp; omega)).trans (o0.block k hk hb ho)⟩
    have o2 := o1.trans (Only2.of_set (o := v.ownBlock) (V.setCell ⟨w.heap.size, 0, none⟩ (.int .i64 0)) 18 (.int .i64 (0 : Nat))) (.inl rfl)
    have hn : NewOwn v v' w := h3.imp id (fun h x hx => by have := h x hx; simp at this; omega)
    have x18 := h4.head.c18
    have f18 := h4.head.free 18
    have hs' : ({ s' with e := 0 } : St) = s' := by cases s'; simp_all
    rw [hs'] at h5
    clear h1 h2 h3 h4 HA o1 c18
    go_wp2_with fail
    go_end0
    exact ⟨rfl, v', h5, o2, hn⟩
  · exact hF.elim
theorem wattempt_no {b k c : Nat} {caps : Array Value} {v : Value} {s : St} (w : World) (h : Wr w b v s) (he : s.e = 0) (hen : ∀ (args : Array Value) (W : World), (callFunc k args).run Tryd.prog W = .ok (.enter k args) W)
    (hdo : Calls Tryd.prog k caps (w.alloc (.cells #[.int .i64 0] 40)) fun e w' => e = fault c ∧ Below (w.heap.size + 1) (w.alloc (.cells #[.int .i64 0] 40)) w') :
    Calls Tryd.prog 78 #[.pointer (some ⟨b, 0, none⟩), .func (.func k) #[] caps] w fun e w' => e = .returned (.tuple #[]) ∧ Wr w' b v { s with e := c } ∧ Only2 b v.ownBlock w w' := by
  have c18 := h.head.c18
  rw [he] at c18
  have hbl := h.head.lt
  have hol := h.body.lt
  have HA := Lib.hid (attempt_any w (fun _ => False) (fun q V => q = c ∧ Below (w.heap.size + 1) (w.alloc (.cells #[.int .i64 0] 40)) V) hen (hdo.mono (by
    rintro e w' ⟨rfl, hb⟩
    exact ⟨(Whole.fresh w _ _).below hb (Nat.lt_succ_self _), .inr ⟨c, rfl, rfl, hb⟩⟩)))
  replace h := Lib.hid h
  clear hdo hen
  go_enter Tryd.func78, Tryd.ntmps78
  go_wp2_with fail
  refine HA.out.mono ?_
  rintro e w' (⟨_, V, hF, _⟩ | ⟨q, V, rfl, ⟨rfl, hb⟩, rfl⟩)
  · exact hF.elim
  · have hsa : (w.alloc (.cells #[.int .i64 0] 40)).heap.size = w.heap.size + 1 := by simp
    have h4 := (((h.out.alloc (.cells #[.int .i64 0] 40)).below (by rw [hsa]; exact hb)).alloc (.cells #[.int .i64 (c : Nat)] 96)).away (x := w.heap.size) (by omega) (fun e => by have := hol _ e; omega) 0 (.int .i64 (c : Nat))
    have h5 := h4.wrong c
    have bb : Below w.heap.size w ((V.alloc (.cells #[.int .i64 (c : Nat)] 96)).setCell ⟨w.heap.size, 0, none⟩ (.int .i64 (c : Nat))) :=
      (((((Below.refl w.heap.size w).alloc (Nat.le_refl _) (.cells #[.int .i64 0] 40)).trans (hb.mono (Nat.le_succ _)))).alloc (by have := hb.size; simp at this; omega) _).setCell (p := ⟨w.heap.size, 0, none⟩) (Nat.le_refl _) _
    have o2 := (Only2.of_below (b := b) (o := v.ownBlock) bb).trans (Only2.of_set (o := v.ownBlock) _ 18 (.int .i64 (c : Nat))) (.inl rfl)
    have x18 := h4.head.c18
    have f18 := h4.head.free 18
    clear h4 HA bb c18 h
    generalize (V.alloc (.cells #[.int .i64 (c : Nat)] 96)).setCell ⟨w.heap.size, 0, none⟩ (.int .i64 (c : Nat)) = W at *
    go_wp2_with fail
    go_end0
    exact ⟨rfl, h5, o2⟩
end Go.Proofs.YtbdhdedlemndeaaDoor
namespace Go.Proofs.YtbdhdedlemndeaaDoor
open Go.RowKit Go.Shelf
set_option maxRecDepth 100000
set_option maxHeartbeats 1000000

/-- m bytes more at the body's end. -/
def St.put (s : St) (m : Nat) (g : Nat → Nat) : St := { s with n := s.n + m, f := fun i => if i < s.n then s.f i else g (i - s.n) }
/-- As far as there is room. -/
def St.putW (s : St) (m : Nat) (g : Nat → Nat) : St := if 16777216 < s.n + m then { s with e := 4 } else s.put m g
def overSv (f : Nat → Nat) (o k : Nat) (g : Nat → Nat) : Nat → Nat := fun i => if o ≤ i ∧ i < o + k then g (i - o) else f i
theorem Wr.cs {w : World} {b g N cap : Nat} {s : St} (h : Wr w b (.slice (some ⟨g, 0, none⟩) N cap) s) : ∃ cs, Whole w g 5 cs ∧ cs.size = cap ∧ s.n = N ∧ N ≤ cap ∧ cap ≤ maxLen ∧ ∀ i, i < N → cs[i]? = some (.int .u8 (s.f i : Nat)) := by
  rcases h.body.2 with ⟨e, _⟩ | ⟨g', cap', cs, e, h1, h2, h3, h4, h5⟩
  · cases e
  · injection e with e1 e2 e3
    injection e1 with e1
    injection e1 with e1
    subst e1 e2 e3
    exact ⟨cs, h1, h4, rfl, h2, h3, h5⟩
theorem Wr.laid {w w' : World} {b g N cap o k x : Nat} {s : St} {cs : Array Value} (h : Wr w b (.slice (some ⟨g, 0, none⟩) N cap) s) (hcs : Whole w g 5 cs) (hL : Laid w g o k x cs w') (_ : o + k ≤ N) :
    Wr w' b (.slice (some ⟨g, 0, none⟩) N cap) { s with f := overSv s.f o k (byteAt x) } := by
  obtain ⟨cs', h1, h2, h3, h4, h5, h6⟩ := h.cs
  have e : cs = cs' := by
    have := Option.some.inj ((show w.heap[g]? = _ from hcs).symm.trans h1)
    injection this
  subst e
  obtain ⟨⟨ds, hd, hs, l1, l2⟩, hO⟩ := hL
  have hgb : g ≠ b := by have := h.far; simpa [Value.ownBlock] using this
  refine ⟨h.head.kept (hO.block b h.head.lt (fun e => hgb (by injection e with e; exact e.symm))), ⟨fun i hi => ?_, .inr ⟨g, cap, ds, by rw [← h3], hd, by rw [h3]; exact h4, h5, by omega, fun i hi => ?_⟩⟩, h.far, h.good.op, h.good.n, h.good.ps⟩
  · show overSv s.f o k (byteAt x) i < 256
    unfold overSv
    split
    · exact byteAt_lt _ _
    · exact h.body.1 i hi
  · show ds[i]? = some (.int .u8 (overSv s.f o k (byteAt x) i : Nat))
    unfold overSv
    split
    · rename_i hc
      have := l1 (i - o) (by omega)
      rw [show o + (i - o) = i by omega] at this
      exact this
    · rename_i hc
      rw [l2 i (by omega)]
      exact h6 i (by rw [← h3]; exact hi)
theorem Only2.laid {w w' : World} {b g o k x : Nat} {cs : Array Value} (hL : Laid w g o k x cs w') : Only2 b (some g) w w' := Only2.of_grown hL.only
theorem St.put_eq (s : St) (m : Nat) (x : Nat) : ({ s with n := s.n + m, f := overSv (zeroed s.f s.n) s.n m (byteAt x) } : St) = { s.put m (byteAt x) with f := overSv (zeroed s.f s.n) s.n m (byteAt x) } := rfl
theorem Wr.congr {w : World} {b : Nat} {v : Value} {s s' : St} (h : Wr w b v s) (hn : s'.n = s.n) (hp : s'.ps = s.ps) (ho : s'.op = s.op) (he : s'.e = s.e) (hf : ∀ i, i < s.n → s'.f i = s.f i) : Wr w b v s' := by
  obtain ⟨n, f, ps, op, e⟩ := s
  obtain ⟨n', f', ps', op', e'⟩ := s'
  dsimp only at hn hp ho he hf
  subst hn hp ho he
  exact ⟨h.head, h.body.congr hf, h.far, h.good.op, h.good.n, h.good.ps⟩
theorem put_no_uint8 (b x : Nat) (v : Value) (s : St) (w : World) (h : Wr w b v s) (hn : 16777216 < s.n + 1) :
    Calls Tryd.prog 83 #[.pointer (some ⟨b, 0, none⟩), .int .u8 x] w fun e w' => e = fault 4 ∧ w' = w := by
  have HR := Lib.hid (room_no b 1 v s w h (by decide) hn)
  clear h hn
  go_enter Tryd.func83, Tryd.ntmps83
  go_wp2_with (go_at_call 88; refine (size_uint8 _).mono ?_; rintro e w' ⟨rfl, rfl⟩)
  refine HR.out.mono ?_
  rintro e w' ⟨rfl, rfl⟩
  unfold fault
  go_wp2_with fail
  exact ⟨rfl, by rfl, rfl⟩
theorem put_ok_uint8 (b x : Nat) (v : Value) (s : St) (w : World) (h : Wr w b v s) (hx : x < 256) (hn : s.n + 1 ≤ 16777216) :
    Calls Tryd.prog 83 #[.pointer (some ⟨b, 0, none⟩), .int .u8 x] w fun e w' => e = .returned (.tuple #[]) ∧ ∃ v', Wr w' b v' (s.put 1 (byteAt x)) ∧ Only2 b v.ownBlock w w' ∧ NewOwn v v' w := by
  have HR := Lib.hid (room_ok b 1 v s w h (by decide) hn)
  clear h
  replace hx := Lib.hid hx
  replace hn := Lib.hid hn
  go_enter Tryd.func83, Tryd.ntmps83
  go_wp2_with (go_at_call 88; refine (size_uint8 _).mono ?_; rintro e w' ⟨rfl, rfl⟩)
  refine HR.out.mono ?_
  rintro e w1 ⟨g, cap, rfl, hW, hO, hg⟩
  obtain ⟨cs, hcs, hsz, _, hcap, _, _⟩ := hW.cs
  have HL := Lib.hid (lay_uint8 g s.n 1 (cap - s.n) x cs w1 hcs hx.out (by decide) (by omega))
  clear HR
  go_wp2_with fail
  refine HL.out.mono ?_
  rintro e w2 ⟨rfl, hL⟩
  have hW2 := hW.laid hcs hL (Nat.le_refl _)
  have hO2 := hO.trans (Only2.laid (b := b) hL) (hg.imp id (fun h y hy => by injection hy with hy; omega))
  clear HL
  go_wp2_with fail
  go_end0
  refine ⟨rfl, _, hW2.congr rfl rfl rfl rfl (fun i hi => ?_), hO2, hg.imp (fun h => h) (fun h y hy => Nat.le_trans h (Nat.le_of_eq (by simpa [Value.ownBlock] using hy)))⟩
  simp only [St.put, overSv, zeroed]
  by_cases hin : i < s.n
  · rw [if_pos hin, if_neg (by omega), if_pos hin]
  · rw [if_neg hin, if_pos ⟨by omega, hi⟩]
theorem wbyte (b x : Nat) (v : Value) (s : St) (w : World) (h : Wr w b v s) (he : s.e = 0) (hx : x < 256) :
    Calls Tryd.prog 68 #[.pointer (some ⟨b, 0, none⟩), .int .u8 x] w fun e w' => e = .returned (.tuple #[]) ∧ ∃ v', Wr w' b v' (s.putW 1 (byteAt x)) ∧ Only2 b v.ownBlock w w' ∧ NewOwn v v' w := by
  have hmf := makeF
  have h1 := (h.alloc (.cells #[.pointer (some ⟨b, 0, none⟩)] 76)).alloc (.cells #[.int .u8 x] 5)
  have hp0 := (Whole.fresh w 76 #[.pointer (some ⟨b, 0, none⟩)]).alloc (.cells #[.int .u8 x] 5)
  have hp1 := Whole.fresh (w.alloc (.cells #[.pointer (some ⟨b, 0, none⟩)] 76)) 5 #[.int .u8 x]
  rw [World.size_alloc] at hp1
  have hB := ((Below.refl w.heap.size w).alloc (Nat.le_refl _) (.cells #[.pointer (some ⟨b, 0, none⟩)] 76)).alloc (by simp) (.cells #[.int .u8 x] 5)
  have hsz := hB.size
  have hol := h.body.lt
  clear h
  go_enter Tryd.func68, Tryd.ntmps68
  go_wp2_with fail
  generalize (w.alloc (.cells #[.pointer (some ⟨b, 0, none⟩)] 76)).alloc (.cells #[.int .u8 x] 5) = W at *
  have hen := enters_of Tryd.func82 (by kernel_rfl) rfl
  have q0 := (hp0.alloc (.cells #[.int .i64 0] 40)).cell 0
  have q1 := (hp1.alloc (.cells #[.int .i64 0] 40)).cell 0
  simp only [List.getElem?_toArray, List.getElem?_cons_zero] at q0 q1
  by_cases hn : 16777216 < s.n + 1
  · have hdo : Calls Tryd.prog 82 #[.pointer (some ⟨w.heap.size, 0, none⟩), .pointer (some ⟨w.heap.size + 1, 0, none⟩)] (W.alloc (.cells #[.int .i64 0] 40)) fun e w' => e = fault 4 ∧ Below (W.heap.size + 1) (W.alloc (.cells #[.int .i64 0] 40)) w' := by
      have HP := Lib.hid (put_no_uint8 b x v s _ (h1.alloc (.cells #[.int .i64 0] 40)) hn)
      generalize W.alloc (.cells #[.int .i64 0] 40) = V at *
      clear hn h1 hmf hp0 hp1 hB hsz hol hen
      go_enter Tryd.func82, Tryd.ntmps82
      go_wp2_with fail
      refine HP.out.mono ?_
      rintro e w' ⟨rfl, rfl⟩
      unfold fault
      go_wp2_with fail
      exact ⟨rfl, by rfl, Below.refl _ _⟩
    have HA := Lib.hid (wattempt_no W h1 he hen hdo)
    clear hdo hen q0 q1 h1 hp0 hp1
    refine HA.out.mono ?_
    rintro e w' ⟨rfl, h2, h3⟩
    clear HA
    go_wp2_with fail
    go_end0
    exact ⟨rfl, v, by unfold St.putW; rw [if_pos hn]; exact h2, (Only2.of_below hB).trans h3 (.inl rfl), NewOwn.refl _ _⟩
  · have hdo : Calls Tryd.prog 82 #[.pointer (some ⟨w.heap.size, 0, none⟩), .pointer (some ⟨w.heap.size + 1, 0, none⟩)] (W.alloc (.cells #[.int .i64 0] 40)) fun e w' => e = .returned (.tuple #[]) ∧ ∃ v', Wr w' b v' (s.put 1 (byteAt x)) ∧ Only2 b v.ownBlock (W.alloc (.cells #[.int .i64 0] 40)) w' ∧ NewOwn v v' (W.alloc (.cells #[.int .i64 0] 40)) := by
      have HP := Lib.hid (put_ok_uint8 b x v s _ (h1.alloc (.cells #[.int .i64 0] 40)) hx (by omega))
      generalize W.alloc (.cells #[.int .i64 0] 40) = V at *
      clear hn h1 hmf hp0 hp1 hB hsz hol hen hx
      go_enter Tryd.func82, Tryd.ntmps82
      go_wp2_with fail
      refine HP.out.mono ?_
      rintro e w' ⟨rfl, h2⟩
      clear HP
      go_wp2_with fail
      go_end0
      exact ⟨rfl, h2⟩
    have HA := Lib.hid (wattempt_ok W h1 he (show (s.put 1 (byteAt x)).e = 0 from he) hen hdo)
    clear hdo hen q0 q1 h1 hp0 hp1
    refine HA.out.mono ?_
    rintro e w' ⟨rfl, v', h2, h3, h4⟩
    clear HA
    go_wp2_with fail
    go_end0
    exact ⟨rfl, v', by unfold St.putW; rw [if_neg hn]; exact h2, (Only2.of_below hB).trans h3 (.inl rfl), h4.imp id (fun h y hy => Nat.le_trans hsz (h y hy))⟩
end Go.Proofs.YtbdhdedlemndeaaDoor
