/-
  An operand as a text; the map of the writers.
-/
import Derived.Test.YtlogijjgachdjaaDoorClo
import Derived.Maps.Own
import Derived.Maps.OwnOps
import Derived.Maps.Views
namespace Go.Proofs.YtlogijjgachdjaaDoor
open Go.RowKit Go.Maps
set_option maxRecDepth 100000
set_option maxHeartbeats 4000000
set_option linter.unusedVariables false

/-- An operand as a text: its letter, the code, its number, the address behind. -/
def opL (l c n b : Nat) : List Nat :=
  match l with
  | 65 => [65]
  | 88 => [88]
  | 89 => [89]
  | 87 => [89, 65]
  | 67 => [67]
  | 83 => [83, 80]
  | 80 => [80, 83, 87]
  | 105 => [40, 88, 41]
  | 106 => [40, 89, 41]
  | 43 => [40, 88, 41, 43]
  | 35 => [35] ++ hxL n 2 ++ []
  | 100 => [] ++ hxL n 2 ++ []
  | 68 => [] ++ hxL n 2 ++ []
  | 120 => [] ++ hxL n 2 ++ [43, 88]
  | 121 => [] ++ hxL n 2 ++ [43, 89]
  | 108 => [91] ++ hxL n 2 ++ [43, 88, 93]
  | 109 => [91] ++ hxL n 2 ++ [93, 43, 89]
  | 117 => [70, 70] ++ hxL n 2 ++ []
  | 97 => [33] ++ hxL n 4 ++ []
  | 112 => [33] ++ hxL n 4 ++ [43, 88]
  | 113 => [33] ++ hxL n 4 ++ [43, 89]
  | 42 => [91, 33] ++ hxL n 4 ++ [43, 88, 93]
  | 110 => [] ++ hxL (n % 8192) 4 ++ [46] ++ tnL (n / 8192)
  | 47 => [47] ++ hxL (n % 8192) 4 ++ [46] ++ tnL (n / 8192)
  | 98 => hxL n 2 ++ [46] ++ tnL (c / 32)
  | 116 => tnL (c / 16)
  | 114 => hxL (brF n b) 4
  | _ => []
/-- A value that is a function which writes the operand of a letter, in every world in which all but the map stands as it does. -/
def Does (mb : Nat) (W : World) (l : Nat) (v : Value) : Prop :=
  ∃ fn caps, v = .func (.func fn) #[] caps ∧ (∀ args w, (callFunc fn args).run Tryd.prog w = .ok (.enter fn args) w) ∧
    ∀ W', W.grownBy W' (some mb) → ∀ c n b, c < 256 → n < 65536 → b < 65536 → (l = 114 → n < 256) →
      Calls Tryd.prog fn (#[opV c n b] ++ caps) W' fun e w' => e = .returned (.string (bsOf (opL l c n b))) ∧ Below W'.heap.size W' w'
theorem Does.mono {mb : Nat} {W W' : World} {l : Nat} {v : Value} (h : Does mb W l v) (hg : W.grownBy W' (some mb)) : Does mb W' l v := by
  obtain ⟨fn, caps, rfl, he, h⟩ := h
  exact ⟨fn, caps, rfl, he, fun W'' hg2 => h W'' (hg.trans hg2)⟩
theorem grown_of_below {W W' : World} (h : Below W.heap.size W W') (r : Option Nat) : W.grownBy W' r := ⟨h.os, h.tape, h.output, h.size, fun k hk _ => h.block k hk⟩
theorem Whole.grown {w w' : World} {g : Nat} {t : TypeId} {cs : Array Value} {row : Option Nat} (h : Whole w g t cs) (hg : w.grownBy w' row) (hne : row ≠ some g) : Whole w' g t cs :=
  (hg.block g h.lt (fun e => hne e.symm)).trans h
theorem same_any (l mb : Nat) (S : ByteArray) (p : List Nat) (W : World) (hS : S = bsOf p) (hop : ∀ c n b, opL l c n b = p) (hmb : mb < W.heap.size) :
    Calls Tryd.prog 40 #[.string S] W fun e w' => ∃ v, e = .returned v ∧ Does mb w' l v ∧ Below W.heap.size W w' := by
  have hX := Whole.fresh W 9 #[.string S]
  have hB := (Below.refl W.heap.size W).alloc (Nat.le_refl _) (.cells #[.string S] 9)
  have hD : Does mb (W.alloc (.cells #[.string S] 9)) l (.func (.func 41) #[] #[.pointer (some ⟨W.heap.size, 0, none⟩)]) := by
    refine ⟨_, _, rfl, enters_of Tryd.func41 (by kernel_rfl) rfl, fun W' hg c n b hc hn hb hr => ?_⟩
    rw [hop, ← hS]
    exact same_clo S c n b W.heap.size W' (hX.grown hg (by simp; omega))
  clear hX hS hop
  go_enter Tryd.func40, Tryd.ntmps40
  go_upto_region 1 with (fail)
  generalize W.alloc (.cells #[.string S] 9) = W1 at *
  go_wp2_with fail
  go_ret
  exact ⟨_, rfl, hD, hB⟩
theorem around_any (l mb : Nat) (S T : ByteArray) (s : Nat) (p q : List Nat) (W : World) (hs : s = 2 ∨ s = 4) (hS : S = bsOf p) (hT : T = bsOf q) (hp : p.length ≤ 5) (hq : q.length ≤ 5) (hop : ∀ c n b, opL l c n b = p ++ hxL n s ++ q) (hmb : mb < W.heap.size) :
    Calls Tryd.prog 42 #[.string S, .int .i64 s, .string T] W fun e w' => ∃ v, e = .returned v ∧ Does mb w' l v ∧ Below W.heap.size W w' := by
  have hX := ((Whole.fresh W 9 #[.string S]).alloc (.cells #[.int .i64 s] 3)).alloc (.cells #[.string T] 9)
  have hY := (Whole.fresh (W.alloc (.cells #[.string S] 9)) 3 #[.int .i64 s]).alloc (.cells #[.string T] 9)
  have hZ := Whole.fresh ((W.alloc (.cells #[.string S] 9)).alloc (.cells #[.int .i64 s] 3)) 9 #[.string T]
  simp only [World.size_alloc] at hY hZ
  have hB := (((Below.refl W.heap.size W).alloc (Nat.le_refl _) (.cells #[.string S] 9)).alloc (by simp) (.cells #[.int .i64 s] 3)).alloc (by simp; omega) (.cells #[.string T] 9)
  have hD : Does mb (((W.alloc (.cells #[.string S] 9)).alloc (.cells #[.int .i64 s] 3)).alloc (.cells #[.string T] 9)) l (.func (.func 43) #[] #[.pointer (some ⟨W.heap.size, 0, none⟩), .pointer (some ⟨W.heap.size + 1, 0, none⟩), .pointer (some ⟨W.heap.size + 1 + 1, 0, none⟩)]) := by
    refine ⟨_, _, rfl, enters_of Tryd.func43 (by kernel_rfl) rfl, fun W' hg c n b hc hn hb hr => ?_⟩
    rw [hop]
    subst hS hT
    exact around_clo p q s c n b W.heap.size (W.heap.size + 1) (W.heap.size + 1 + 1) W' hs hp hq hn (hX.grown hg (by simp; omega)) (hY.grown hg (by simp; omega)) (hZ.grown hg (by simp; omega))
  clear hX hY hZ hS hT hop
  go_enter Tryd.func42, Tryd.ntmps42
  go_upto_region 1 with (fail)
  generalize ((W.alloc (.cells #[.string S] 9)).alloc (.cells #[.int .i64 s] 3)).alloc (.cells #[.string T] 9) = W1 at *
  go_wp2_with fail
  go_ret
  exact ⟨_, rfl, hD, hB⟩
theorem bit_any (l mb : Nat) (S : ByteArray) (p : List Nat) (W : World) (hS : S = bsOf p) (hp : p.length ≤ 5) (hop : ∀ c n b, opL l c n b = p ++ hxL (n % 8192) 4 ++ [46] ++ tnL (n / 8192)) (hmb : mb < W.heap.size) :
    Calls Tryd.prog 44 #[.string S] W fun e w' => ∃ v, e = .returned v ∧ Does mb w' l v ∧ Below W.heap.size W w' := by
  have hX := Whole.fresh W 9 #[.string S]
  have hB := (Below.refl W.heap.size W).alloc (Nat.le_refl _) (.cells #[.string S] 9)
  have hD : Does mb (W.alloc (.cells #[.string S] 9)) l (.func (.func 45) #[] #[.pointer (some ⟨W.heap.size, 0, none⟩)]) := by
    refine ⟨_, _, rfl, enters_of Tryd.func45 (by kernel_rfl) rfl, fun W' hg c n b hc hn hb hr => ?_⟩
    rw [hop]
    subst hS
    exact bit_clo p c n b W.heap.size W' hp hn (hX.grown hg (by simp; omega))
  clear hX hS hop
  go_enter Tryd.func44, Tryd.ntmps44
  go_upto_region 1 with (fail)
  generalize W.alloc (.cells #[.string S] 9) = W1 at *
  go_wp2_with fail
  go_ret
  exact ⟨_, rfl, hD, hB⟩
theorem four_does (mb : Nat) (W : World) : Does mb W 98 (.func (.func 47) #[] #[]) :=
  ⟨_, _, rfl, enters_of Tryd.func47 (by kernel_rfl) rfl, fun W' _ c n b hc hn _ _ => four_clo c n b W' hc hn⟩
theorem five_does (mb : Nat) (W : World) : Does mb W 116 (.func (.func 48) #[] #[]) :=
  ⟨_, _, rfl, enters_of Tryd.func48 (by kernel_rfl) rfl, fun W' _ c n b hc _ _ _ => five_clo c n b W' hc⟩
theorem six_does (mb : Nat) (W : World) : Does mb W 114 (.func (.func 49) #[] #[]) :=
  ⟨_, _, rfl, enters_of Tryd.func49 (by kernel_rfl) rfl, fun W' _ c n b _ _ hb hr => six_clo c n b W' (hr rfl) hb⟩
/-- What an element of the map reads as: itself. -/
def rdV (v : Value) : Option (DataW Value × List MemPlace) := some (.held v, [])
theorem key_law : Keyed Tryd.prog 21 := int_keyed Tryd.underlying21
theorem key_at (l : Int) (h : (Lit.int .i32 l).wf = true) : keyOf Tryd.prog 21 (.int .i32 l) = some (.int .i32 l) := keyOf_int_mk Tryd.underlying21 h
/-- What is laid at a key in a map literal. -/
theorem wpList_insert_held {ops : Array Oper} {rest : List Oper} {o : Oper} {a : Act} {w : World} {Q : Exit → Act → World → Prop} (hg : o.guard = none) (m x v : Operand) (hop : o.op = Op.insert 57 m x v)
    (mb n : Nat) (D : DataW Value) (l : Nat) (u : Value) (hm : a.eval m = .map (some mb)) (hx : a.eval x = .int .i32 ((l : Nat) : Int)) (hv : a.eval v = u) (hl : (Lit.int .i32 ((l : Nat) : Int)).wf = true) (hn : n < maxLen) (hown : w.ownsMap Tryd.prog 21 rdV mb n D)
    (h : ∀ w', w'.ownsMap Tryd.prog 21 rdV mb (n + 1) (D.put (.int .i32 ((l : Nat) : Int)) (.held u)) → w.grownBy w' (some mb) → wpList Tryd.prog ops Q rest (a.put o.dst undef) w') : wpList Tryd.prog ops Q (o :: rest) a w := by
  refine wpList_plain hg fun K hK => ?_
  obtain ⟨w', hrun, h1, h2⟩ := hown.update key_law Tryd.underlying57 hn (key_at l hl) (show rdV u = some (.held u, []) from rfl)
  have hR := hK _ _ (h w' h1 h2)
  unfold Oper.wp
  simp [execOp, hop, hm, hx, hv, hrun, Result.andThen]
  exact hR
/-- A map in which each of some letters has a writer that does what it should. -/
def GoodW (mb : Nat) (W : World) (D : DataW Value) (L : List Nat) : Prop :=
  IsMap D ∧ ∀ l ∈ L, ∃ v, D.atKey (.int .i32 ((l : Nat) : Int)) (.held .nilFunc) = .held v ∧ Does mb W l v
theorem GoodW.mono {mb : Nat} {W W' : World} {D : DataW Value} {L : List Nat} (h : GoodW mb W D L) (hg : W.grownBy W' (some mb)) : GoodW mb W' D L :=
  ⟨h.1, fun l hl => let ⟨v, h1, h2⟩ := h.2 l hl; ⟨v, h1, h2.mono hg⟩⟩
theorem GoodW.put {mb : Nat} {W : World} {D : DataW Value} {L : List Nat} {k : Nat} {v : Value} (h : GoodW mb W D L) (hv : Does mb W k v) : GoodW mb W (D.put (.int .i32 ((k : Nat) : Int)) (.held v)) (k :: L) := by
  refine ⟨h.1.put _ _, fun l hl => ?_⟩
  by_cases e : l = k
  · subst e
    exact ⟨v, atKey_put_same h.1 (by trivial) _ _, hv⟩
  · obtain ⟨u, h1, h2⟩ := h.2 l ((List.mem_cons.1 hl).resolve_left e)
    refine ⟨u, ?_, h2⟩
    rw [atKey_put_other (fun e2 => e (by injection e2 with _ e3; omega))]
    exact h1
/-- The map of the writers. -/
structure Wrs (W : World) (mb : Nat) : Prop where
  at_ : ∃ D, W.ownsMap Tryd.prog 21 rdV mb 27 D ∧ GoodW mb W D [114, 116, 98, 47, 110, 42, 113, 112, 97, 117, 109, 108, 121, 120, 68, 100, 35, 43, 106, 105, 80, 83, 67, 87, 89, 88, 65]
end Go.Proofs.YtlogijjgachdjaaDoor
