/-
  Pack by the document: its samples, noughts behind them.
-/
import Derived.Test.YtekjcgckniopdaaBPkC
namespace Go.Proofs.Ytekjcgckniopdaa
open Go.RowKit Go.Shelf Go.Sort
set_option maxRecDepth 100000
set_option maxHeartbeats 1000000
set_option linter.unusedVariables false
set_option linter.unusedSimpArgs false

/-- The samples, noughts behind them: as many as whole pieces have. -/
def allP (s : Nat → Int) (n m : Nat) : List Value := (List.range m).map fun j => .int .i16 (if j < n then s j else 0)
theorem allP_length (s : Nat → Int) (n m : Nat) : (allP s n m).length = m := by simp [allP]
theorem allP_succ (s : Nat → Int) (n m : Nat) (h : n ≤ m) : allP s n m ++ [.int .i16 0] = allP s n (m + 1) := by
  unfold allP
  rw [List.range_succ, List.map_append]
  simp [Nat.not_lt.2 h]
theorem allP_at (s : Nat → Int) (n m j : Nat) (hj : j < m) : (allP s n m)[j]? = some (.int .i16 (if j < n then s j else 0)) := by
  unfold allP
  rw [List.getElem?_map, List.getElem?_range hj]
  rfl
/-- A slice's length. -/
def lenV : Value → Nat
  | .slice _ n _ => n
  | _ => 0
theorem wp_append_ran {o : Oper} {a : Act} {K : Act → World → Prop} {Q : Exit → Act → World → Prop} {P : Program} {w : World} (s x : Operand) (t : TypeId)
    (ho : o.op = .call { callee := .builtin .append, args := #[s, x], argTypes := #[t, t] }) (v u r : Value) (w' : World) (hs : a.eval s = v) (hx : a.eval x = u) (hr : (Builtin.append_ #[t, t] o.type #[v, u]).run P w = .ok r w')
    (h : K (a.put o.dst r) w') : o.wp P a w K Q := by
  unfold Oper.wp execOp
  simp only [ho, resolve, invoke, builtin, Sem.run_bind, Sem.run_pure, Result.andThen_ok, List.map_toArray, List.map_cons, List.map_nil, hs, hx, hr]
  exact h
theorem wpList_append_ran {ops : Array Oper} {rest : List Oper} {o : Oper} {a : Act} {Q : Exit → Act → World → Prop} {P : Program} {w : World} (hgd : o.guard = none) (s x : Operand) (t : TypeId)
    (ho : o.op = .call { callee := .builtin .append, args := #[s, x], argTypes := #[t, t] }) (v u r : Value) (w' : World) (hs : a.eval s = v) (hx : a.eval x = u) (hr : (Builtin.append_ #[t, t] o.type #[v, u]).run P w = .ok r w')
    (h : wpList P ops Q rest (a.put o.dst r) w') : wpList P ops Q (o :: rest) a w :=
  wpList_plain hgd fun _ hK => wp_append_ran s x t ho v u r w' hs hx hr (hK _ _ h)
theorem allP_one (s : Nat → Int) (n m : Nat) : ∀ v ∈ allP s n m, v.oneCell' = true := by
  intro u hu
  unfold allP at hu
  rw [List.mem_map] at hu
  obtain ⟨i, _, rfl⟩ := hu
  rfl
/-- What is handed in is put behind nothing. -/
theorem first_append (w : World) (a : Option Addr) (n c : Nat) (s : Nat → Int) (hI : IRow w a n s) (hn : n ≤ 1048576) :
    ∃ v' w', (Builtin.append_ #[27, 27] 27 #[.slice none 0 0, .slice a n c]).run Try.prog w = .ok v' w' ∧ w'.ownsRow w.heap.size 23 1 v' n (allP s n n) ∧ Below w.heap.size w w' := by
  obtain ⟨j0, hj0, hz0, hz1, hz2⟩ := info_parts info23
  cases a with
  | none =>
    obtain rfl : n = 0 := by
      rcases hI with h | ⟨b, o, h, _⟩
      · exact h
      · cases h
    refine ⟨.slice none 0 0, w, ?_, World.ownsRow_nil _ _ _ _, Below.refl _ _⟩
    have ht := Try.underlying27
    simp [Builtin.append_, run_underlying ht, sizeOf, typeInfo, hj0, Builtin.lenOf, Builtin.firstCells]
  | some ad =>
    have hnews : ∀ j u, (allP s n n)[j]? = some u → w.cell? (ad.add j) = some u := by
      intro j u hu
      have hj : j < n := by
        rcases Nat.lt_or_ge j n with h' | h'
        · exact h'
        · rw [List.getElem?_eq_none (by rw [allP_length]; exact h')] at hu
          cases hu
      rcases hI with h | ⟨b, o, h, hb, hc⟩
      · omega
      · cases h
        rw [allP_at s n n j hj, if_pos hj] at hu
        rw [Addr.add_lit, hc j hj]
        exact hu
    obtain ⟨v', w', hr, hown, hg, _⟩ := run_append_own (P := Try.prog) (w := w) w.heap.size 27 27 23 j0 _ 1 2 Try.underlying27 hj0 hz0 hz1 hz2 rfl (by decide) (.slice none 0 0) 0 [] (World.ownsRow_nil _ _ _ _) ad n c (allP s n n) (by rw [allP_length, Nat.mul_one]) hnews (allP_one s n n) (by unfold maxLen; omega) (by omega) (Nat.le_refl _)
    rw [Nat.zero_add, List.nil_append] at hown
    exact ⟨v', w', hr, hown, grown_below hg (Nat.le_refl _) (fun k hk => by cases hk)⟩
/-- Two rows of unlike types have unlike blocks. -/
theorem rows_apart {w : World} {B B' n m sz sz' : Nat} {e e' : TypeId} {v u : Value} {xs ys : List Value} (h : w.ownsRow B e sz v n xs) (k : w.ownsRow B' e' sz' u m ys) (hne : e ≠ e') : v.ownBlock = none ∨ v.ownBlock ≠ u.ownBlock := by
  cases hv : v.ownBlock with
  | none => exact .inl rfl
  | some g =>
    right
    intro hu
    obtain ⟨cs, f, h2⟩ := own_type h hv
    obtain ⟨ds, f', k2⟩ := own_type k hu.symm
    have := h2.symm.trans k2
    simp only [Option.some.injEq, Obj.cells.injEq] at this
    exact hne this.2.1
/-- The samples of the blocks so far; the bytes so far. -/
def pkD (s : Nat → Int) (n : Nat) : Nat → List Value
  | 0 => []
  | i + 1 => pkD s n i ++ outL (pkB s n i) (pkS s n i).1 (pkS s n i).2 16
def pkX (s : Nat → Int) (n i : Nat) : Nat → Nat := fun j => pkB s n i j + if i + 1 = pieN n ∧ j = 0 then 1 else 0
theorem pkX_eq (s : Nat → Int) (n i j : Nat) : pkX s n i j = pkB s n i j + if i + 1 = pieN n ∧ j = 0 then 1 else 0 := by unfold pkX; exact Eq.refl _
theorem pkX_lt (s : Nat → Int) (n i j : Nat) : pkX s n i j < 256 := by
  have h1 := pkB_lt s n i j
  rw [pkX_eq]
  by_cases h : i + 1 = pieN n ∧ j = 0
  · obtain ⟨h, rfl⟩ := h
    have h3 := (pkB_head s n i).1
    rw [if_pos ⟨h, rfl⟩]
    generalize pkB s n i 0 = b at *
    omega
  · rw [if_neg h, Nat.add_zero]
    exact h1
def pkE (s : Nat → Int) (n : Nat) : Nat → List Value
  | 0 => []
  | i + 1 => pkE s n i ++ nine (pkX s n i)
theorem pkD_length (s : Nat → Int) (n i : Nat) : (pkD s n i).length = 16 * i := by
  induction i with
  | zero => rfl
  | succ i ih => rw [pkD, List.length_append, ih, outL_length]; omega
theorem pkE_length (s : Nat → Int) (n m : Nat) : (pkE s n m).length = 9 * m := by
  induction m with
  | zero => rfl
  | succ m ih => rw [pkE, List.length_append, ih]; simp [nine]; omega
theorem pkE_at (s : Nat → Int) (n m i : Nat) (hi : i < 9 * m) : (pkE s n m)[i]? = some (.int .u8 (pkX s n (i / 9) (i % 9) : Nat)) := by
  induction m with
  | zero => omega
  | succ m ih =>
    rw [pkE]
    by_cases h : i < 9 * m
    · rw [List.getElem?_append_left (by rw [pkE_length]; exact h)]
      exact ih h
    · rw [List.getElem?_append_right (by rw [pkE_length]; omega), pkE_length, nine_at _ _ (by omega)]
      rw [show i / 9 = m by omega, show i % 9 = i - 9 * m by omega]
theorem pkX_pkG (s : Nat → Int) (n j : Nat) : pkX s n (j / 9) (j % 9) = pkG s n j := by
  have hm := pieN_pos n
  unfold pkX pkG
  by_cases h : j = 9 * pieN n - 9
  · rw [if_pos h, if_pos ⟨by omega, by omega⟩]
  · rw [if_neg h, if_neg (fun e => h (by omega))]
theorem outL_end (g : Nat → Nat) (p q : Int) : (outL g p q 16)[15]? = some (.int .i16 (stB g p q 16).1) ∧ (outL g p q 16)[14]? = some (.int .i16 (stB g p q 16).2) := by
  unfold outL
  constructor
  · rw [List.getElem?_map, List.getElem?_range (by decide)]; rfl
  · rw [List.getElem?_map, List.getElem?_range (by decide)]; rfl
theorem pkD_end (s : Nat → Int) (n i : Nat) : (pkD s n (i + 1))[16 * (i + 1) - 1]? = some (.int .i16 (pkS s n (i + 1)).1) ∧ (pkD s n (i + 1))[16 * (i + 1) - 2]? = some (.int .i16 (pkS s n (i + 1)).2) := by
  obtain ⟨h1, h2⟩ := outL_end (pkB s n i) (pkS s n i).1 (pkS s n i).2
  rw [pkD]
  constructor
  · rw [List.getElem?_append_right (by rw [pkD_length]; omega), pkD_length, show 16 * (i + 1) - 1 - 16 * i = 15 by omega]; exact h1
  · rw [List.getElem?_append_right (by rw [pkD_length]; omega), pkD_length, show 16 * (i + 1) - 2 - 16 * i = 14 by omega]; exact h2
theorem rpahead_any (w : World) (B i : Nat) (v : Value) (s : Nat → Int) (n : Nat) (h : w.ownsRow B 23 1 v (16 * i) (pkD s n i)) (hN : 16 * i ≤ 140737488355328) :
    (Calls Try.prog 29 #[v, .int .i64 1] w fun e w' => e = .returned (.int .i16 (pkS s n i).1) ∧ w' = w) ∧
    (Calls Try.prog 29 #[v, .int .i64 2] w fun e w' => e = .returned (.int .i16 (pkS s n i).2) ∧ w' = w) := by
  cases i with
  | zero =>
    rcases h.2 with ⟨rfl, _⟩ | ⟨gg, cap, cur, rfl, _⟩
    · exact ⟨rahead_no w none 0 0 1 (by decide), rahead_no w none 0 0 2 (by decide)⟩
    · exact ⟨rahead_no w _ 0 cap 1 (by decide), rahead_no w _ 0 cap 2 (by decide)⟩
  | succ i =>
    obtain ⟨e1, e2⟩ := pkD_end s n i
    rcases h.2 with ⟨_, h0⟩ | ⟨g, cap, cur, rfl, hb, hg, hx⟩
    · exact absurd h0 (by omega)
    have c1 : w.cell? ⟨g, 0 + (16 * (i + 1) - 1), none⟩ = some (.int .i16 (pkS s n (i + 1)).1) := by rw [Nat.zero_add, h.cellAt _ (by omega)]; exact e1
    have c2 : w.cell? ⟨g, 0 + (16 * (i + 1) - 2), none⟩ = some (.int .i16 (pkS s n (i + 1)).2) := by rw [Nat.zero_add, h.cellAt _ (by omega)]; exact e2
    exact ⟨rahead_at w g 0 _ cap 1 _ (by decide) (by omega) hN c1, rahead_at w g 0 _ cap 2 _ (by decide) (by omega) hN c2⟩
end Go.Proofs.Ytekjcgckniopdaa
