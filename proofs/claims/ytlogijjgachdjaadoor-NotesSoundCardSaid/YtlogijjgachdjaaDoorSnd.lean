/-
  A byte and what stands behind it.
-/
import Derived.Test.YtlogijjgachdjaaDoorTxt
import Derived.Test.YtlogijjgachdjaaDoorFind
import Derived.Laws.OwnMore
namespace Go.Proofs.YtlogijjgachdjaaDoor
open Go.RowKit
set_option maxRecDepth 100000
set_option maxHeartbeats 4000000
set_option linter.unusedVariables false

theorem wp_append_ran {o : Oper} {a : Act} {K : Act → World → Prop} {Q : Exit → Act → World → Prop} {P : Program} {w : World} (s x : Operand) (t : TypeId)
    (ho : o.op = .call { callee := .builtin .append, args := #[s, x], argTypes := #[t, t] }) (v u r : Value) (w' : World) (hs : a.eval s = v) (hx : a.eval x = u) (hr : (Builtin.append_ #[t, t] o.type #[v, u]).run P w = .ok r w')
    (h : K (a.put o.dst r) w') : o.wp P a w K Q := by
  unfold Oper.wp execOp
  simp only [ho, resolve, invoke, builtin, Sem.run_bind, Sem.run_pure, Result.andThen_ok, List.map_toArray, List.map_cons, List.map_nil, hs, hx, hr]
  exact h
theorem wpList_append_ran {ops : Array Oper} {rest : List Oper} {o : Oper} {a : Act} {Q : Exit → Act → World → Prop} {P : Program} {w : World} (hgd : o.guard = none) (s x : Operand) (t : TypeId)
    (ho : o.op = .call { callee := .builtin .append, args := #[s, x], argTypes := #[t, t] }) (v u r : Value) (w' : World) (hs : a.eval s = v) (hx : a.eval x = u) (hr : (Builtin.append_ #[t, t] o.type #[v, u]).run P w = .ok r w')
    (h : wpList P ops Q rest (a.put o.dst r) w') : wpList P ops Q (o :: rest) a w :=
  wpList_plain hgd fun _ hK => wp_append_ran s x t ho v u r w' hs hx hr (hK _ _ h)
def consF (c : Nat) (f : Nat → Nat) : Nat → Nat := fun i => if i = 0 then c else f (i - 1)
theorem all_append (c n cap B : Nat) (f : Nat → Nat) (a : Option Addr) (ty : TypeId) (W : World) (hc : c < 256) (hX : Whole W B 5 #[.int .u8 c]) (hR : Row W a n f) (ha : a = none → cap = 0) (hcap : n ≤ cap) (hn : n ≤ 140737488351232) :
    ∃ v' W', (Builtin.append_ #[33, 33] ty #[.slice (some ⟨B, 0, none⟩) 1 1, .slice a n cap]).run Tryd.prog W = .ok v' W' ∧ ∃ G cap', v' = .slice (some ⟨G, 0, none⟩) (1 + n) cap' ∧ 1 + n ≤ cap' ∧ Row W' (some ⟨G, 0, none⟩) (1 + n) (consF c f) ∧ Below B W W' := by
  have hown : W.ownsRow B 5 1 (.slice (some ⟨B, 0, none⟩) 1 1) 1 [.int .u8 c] := ⟨rfl, .inr ⟨B, 1, _, rfl, Nat.le_refl _, hX, Nat.le_refl _, by decide, rfl, rfl⟩⟩
  have key : ∀ v' W', W'.ownsRow B 5 1 v' (1 + n) ([.int .u8 c] ++ (List.range n).map fun i => Value.int .u8 (f i : Nat)) → Below B W W' → ∃ G cap', v' = .slice (some ⟨G, 0, none⟩) (1 + n) cap' ∧ 1 + n ≤ cap' ∧ Row W' (some ⟨G, 0, none⟩) (1 + n) (consF c f) ∧ Below B W W' := by
    intro v' W' h hB
    rcases h.2 with ⟨_, h0⟩ | ⟨G, cap', cur, rfl, _, hh, hl, _⟩
    · omega
    refine ⟨G, cap', rfl, hl, ⟨fun i hi => ?_, .inr ⟨G, 0, rfl, (Array.getElem?_eq_some_iff.1 hh).1, fun i hi => ?_⟩⟩, hB⟩
    · unfold consF
      by_cases e : i = 0
      · rw [if_pos e]; exact hc
      · rw [if_neg e]; exact hR.1 (i - 1) (by omega)
    · rw [Nat.zero_add, h.cellAt i (by omega)]
      unfold consF
      by_cases e : i = 0
      · subst e
        rfl
      · rw [if_neg e]
        obtain ⟨j, rfl⟩ : ∃ j, i = j + 1 := ⟨i - 1, by omega⟩
        rw [List.singleton_append, List.getElem?_cons_succ, List.getElem?_map, List.getElem?_range (by omega)]
        rfl
  cases a with
  | none =>
    obtain rfl := ha rfl
    obtain rfl : n = 0 := by omega
    obtain ⟨i0, hi, hz0, hz1, hz2⟩ := info_parts info_parts8
    exact ⟨_, _, run_append_owned_none W B 33 ty 5 i0 1 Tryd.underlying33 hi _ 1 _ hown, key _ _ hown (Below.refl _ _)⟩
  | some p =>
    obtain ⟨i0, hi, hz0, hz1, hz2⟩ := info_parts info_parts8
    obtain ⟨v', W', hr, ho, hg, _⟩ := run_append_own W B 33 ty 5 i0 _ 1 1 Tryd.underlying33 hi hz0 hz1 hz2 rfl (by decide) _ 1 _ hown p n cap ((List.range n).map fun i => Value.int .u8 (f i : Nat)) (by simp) (by
      intro j u hj
      have hj' : j < n := by have := (List.getElem?_eq_some_iff.1 hj).1; simpa using this
      rw [List.getElem?_map, List.getElem?_range hj'] at hj
      simp only [Option.map_some, Option.some.injEq] at hj
      subst hj
      rcases hR.2 with h0 | ⟨b, o, e, _, hcl⟩
      · omega
      · injection e with e
        subst e
        rw [Addr.add_lit]
        exact hcl j hj') (by intro u hu; obtain ⟨i, _, rfl⟩ := List.mem_map.1 hu; rfl) (by unfold maxLen; omega) (by omega) (Nat.le_of_lt hX.lt)
    refine ⟨v', W', hr, key v' W' ho ((Below.refl B W).grown hg (Nat.le_of_lt hX.lt) (fun r e => by cases e; exact Nat.le_refl _))⟩
end Go.Proofs.YtlogijjgachdjaaDoor
