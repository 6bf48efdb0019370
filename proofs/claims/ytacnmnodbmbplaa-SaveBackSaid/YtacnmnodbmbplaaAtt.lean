/-
  A writer's attempt: what is done stays, or what went wrong is kept.
-/
import Derived.Test.YtacnmnodbmbplaaWr
namespace Go.Proofs.Ytacnmnodbmbplaa
open Go.RowKit Go.Shelf
set_option maxRecDepth 100000
set_option maxHeartbeats 1000000

/-- The body's block is the one that it was, or a new one. -/
def NewOwn (v v' : Value) (w : World) : Prop := v'.ownBlock = v.ownBlock ∨ ∀ x, v'.ownBlock = some x → w.heap.size ≤ x
theorem NewOwn.refl (v : Value) (w : World) : NewOwn v v w := .inl rfl
theorem Wr.kept {w w' : World} {b : Nat} {v : Value} {s : St} (h : Wr w b v s) (hb : w'.heap[b]? = w.heap[b]?) (ho : ∀ x, v.ownBlock = some x → w'.heap[x]? = w.heap[x]?) : Wr w' b v s := by
  refine ⟨h.head.kept hb, ?_, h.far, h.good⟩
  refine ⟨h.body.1, ?_⟩
  rcases h.body.2 with h2 | ⟨g, cap, cs, rfl, hw, h3⟩
  · exact .inl h2
  · exact .inr ⟨g, cap, cs, rfl, (ho g rfl).trans hw, h3⟩
theorem Wr.below {w w' : World} {b : Nat} {v : Value} {s : St} (h : Wr w b v s) (hb : Below w.heap.size w w') : Wr w' b v s :=
  h.kept (hb.block b h.head.lt) (fun x hx => hb.block x (h.body.lt x hx))
theorem Wr.alloc {w : World} {b : Nat} {v : Value} {s : St} (h : Wr w b v s) (o : Obj) : Wr (w.alloc o) b v s := h.below ((Below.refl _ w).alloc (Nat.le_refl _) o)
theorem Wr.away {w : World} {b : Nat} {v : Value} {s : St} (h : Wr w b v s) {x : Nat} (h1 : x ≠ b) (h2 : v.ownBlock ≠ some x) (i : Nat) (u : Value) : Wr (w.setCell ⟨x, i, none⟩ u) b v s :=
  h.kept (Below.heap_setCell _ _ _ _ (fun e => h1 e.symm)) (fun y hy => Below.heap_setCell _ _ _ _ (fun e => h2 (by rw [hy, e])))
theorem Wr.wrong {w : World} {b : Nat} {v : Value} {s : St} (h : Wr w b v s) (c : Nat) : Wr (w.setCell ⟨b, 18, none⟩ (.int .i64 (c : Nat))) b v { s with e := c } :=
  ⟨h.head.set18 c, h.body.kept (row := some b) ⟨rfl, rfl, rfl, by simp [World.setCell], fun k _ hk => Below.heap_setCell _ _ _ _ (fun e => hk (by rw [e]))⟩ (.inr h.far), h.far, h.good.op, h.good.n, h.good.ps⟩
theorem wattempt_skip {b : Nat} {v : Value} {s : St} (g : Value) (w : World) (h : Wr w b v s) (he : s.e ≠ 0) : Calls Try.prog 56 #[.pointer (some ⟨b, 0, none⟩), g] w fun e w' => e = .returned (.tuple #[]) ∧ w' = w := by
  have c18 := h.head.c18
  have t : ((s.e : Int) == 0) = false := by rw [beq_eq_false_iff_ne]; omega
  clear he h
  go_enter Try.func56, Try.ntmps56
  go_wp2_with fail
  go_end0
  exact ⟨rfl, rfl⟩
theorem wattempt_ok {b k : Nat} {caps : Array Value} {v : Value} {s s' : St} (w : World) (h : Wr w b v s) (he : s.e = 0) (he' : s'.e = 0) (hen : ∀ (args : Array Value) (W : World), (callFunc k args).run Try.prog W = .ok (.enter k args) W)
    (hdo : Calls Try.prog k caps (w.alloc (.cells #[.int .i64 0] 27)) fun e w' => e = .returned (.tuple #[]) ∧ ∃ v', Wr w' b v' s' ∧ Only2 b v.ownBlock (w.alloc (.cells #[.int .i64 0] 27)) w' ∧ NewOwn v v' (w.alloc (.cells #[.int .i64 0] 27))) :
    Calls Try.prog 56 #[.pointer (some ⟨b, 0, none⟩), .func (.func k) #[] caps] w fun e w' => e = .returned (.tuple #[]) ∧ ∃ v', Wr w' b v' s' ∧ Only2 b v.ownBlock w w' ∧ NewOwn v v' w := by
  have c18 := h.head.c18
  rw [he] at c18
  have hbl := h.head.lt
  have hol := h.body.lt
  have HA := Lib.hid (attempt_any w (fun V => ∃ v', Wr V b v' s' ∧ Only2 b v.ownBlock (w.alloc (.cells #[.int .i64 0] 27)) V ∧ NewOwn v v' (w.alloc (.cells #[.int .i64 0] 27))) (fun _ _ => False) hen (hdo.mono (by
    rintro e w' ⟨rfl, v', h1, h2, h3⟩
    exact ⟨(h2.block w.heap.size (by simp) (by omega) (fun e => by have := hol _ e.symm; omega)).trans (Whole.fresh w _ _), .inl ⟨rfl, v', h1, h2, h3⟩⟩)))
  clear hdo hen h
  go_enter Try.func56, Try.ntmps56
  go_wp2_with fail
  refine HA.out.mono ?_
  rintro e w' (⟨rfl, V, ⟨v', h1, h2, h3⟩, rfl⟩ | ⟨c, V, _, hF, _⟩)
  · have hvx : v'.ownBlock ≠ some w.heap.size := by
      rcases h3 with h3 | h3
      · rw [h3]; intro e; have := hol _ e; omega
      · intro e; have := h3 _ e; simp at this; omega
    have h4 := h1.away (x := w.heap.size) (by omega) hvx 0 (.int .i64 0)
    have h5 := h4.wrong 0
    have o1 : Only2 b v.ownBlock w (V.setCell ⟨w.heap.size, 0, none⟩ (.int .i64 0)) := by
      have o0 : Only2 b v.ownBlock w V := (Only2.of_below ((Below.refl _ w).alloc (Nat.le_refl _) _)).trans h2 (.inl rfl)
      exact ⟨o0.os, o0.tape, o0.output, by simp [World.setCell]; exact o0.size, fun k hk hb ho => (Below.heap_setCell _ _ _ _ (by simp; omega)).trans (o0.block k hk hb ho)⟩
    have o2 := o1.trans (Only2.of_set (o := v.ownBlock) (V.setCell ⟨w.heap.size, 0, none⟩ (.int .i64 0)) 18 (.int .i64 (0 : Nat))) (.inl rfl)
    have hn : NewOwn v v' w := h3.imp id (fun h x hx => by have := h x hx; simp at this; omega)
    have x18 := h4.head.c18
    have f18 := h4.head.free 18
    have hs' : ({ s' with e := 0 } : St) = s' := by cases s'; simp_all
    rw [hs'] at h5
    clear h1 h2 h3 h4 HA o1 c18
    go_wp2_with fail
    go_end0
    exact ⟨rfl, v', h5, o2, hn⟩
  · exact hF.elim
theorem wattempt_no {b k c : Nat} {caps : Array Value} {v : Value} {s : St} (w : World) (h : Wr w b v s) (he : s.e = 0) (hen : ∀ (args : Array Value) (W : World), (callFunc k args).run Try.prog W = .ok (.enter k args) W)
    (hdo : Calls Try.prog k caps (w.alloc (.cells #[.int .i64 0] 27)) fun e w' => e = fault c ∧ Below (w.heap.size + 1) (w.alloc (.cells #[.int .i64 0] 27)) w') :
    Calls Try.prog 56 #[.pointer (some ⟨b, 0, none⟩), .func (.func k) #[] caps] w fun e w' => e = .returned (.tuple #[]) ∧ Wr w' b v { s with e := c } ∧ Only2 b v.ownBlock w w' := by
  have c18 := h.head.c18
  rw [he] at c18
  have hbl := h.head.lt
  have hol := h.body.lt
  have HA := Lib.hid (attempt_any w (fun _ => False) (fun q V => q = c ∧ Below (w.heap.size + 1) (w.alloc (.cells #[.int .i64 0] 27)) V) hen (hdo.mono (by
    rintro e w' ⟨rfl, hb⟩
    exact ⟨(Whole.fresh w _ _).below hb (Nat.lt_succ_self _), .inr ⟨c, rfl, rfl, hb⟩⟩)))
  replace h := Lib.hid h
  clear hdo hen
  go_enter Try.func56, Try.ntmps56
  go_wp2_with fail
  refine HA.out.mono ?_
  rintro e w' (⟨_, V, hF, _⟩ | ⟨q, V, rfl, ⟨rfl, hb⟩, rfl⟩)
  · exact hF.elim
  · have hsa : (w.alloc (.cells #[.int .i64 0] 27)).heap.size = w.heap.size + 1 := by simp
    have h4 := (((h.out.alloc (.cells #[.int .i64 0] 27)).below (by rw [hsa]; exact hb)).alloc (.cells #[.int .i64 (c : Nat)] 101)).away (x := w.heap.size) (by omega) (fun e => by have := hol _ e; omega) 0 (.int .i64 (c : Nat))
    have h5 := h4.wrong c
    have bb : Below w.heap.size w ((V.alloc (.cells #[.int .i64 (c : Nat)] 101)).setCell ⟨w.heap.size, 0, none⟩ (.int .i64 (c : Nat))) :=
      (((((Below.refl w.heap.size w).alloc (Nat.le_refl _) (.cells #[.int .i64 0] 27)).trans (hb.mono (Nat.le_succ _)))).alloc (by have := hb.size; simp at this; omega) _).setCell (p := ⟨w.heap.size, 0, none⟩) (Nat.le_refl _) _
    have o2 := (Only2.of_below (b := b) (o := v.ownBlock) bb).trans (Only2.of_set (o := v.ownBlock) _ 18 (.int .i64 (c : Nat))) (.inl rfl)
    have x18 := h4.head.c18
    have f18 := h4.head.free 18
    clear h4 HA bb c18 h
    generalize (V.alloc (.cells #[.int .i64 (c : Nat)] 101)).setCell ⟨w.heap.size, 0, none⟩ (.int .i64 (c : Nat)) = W at *
    go_wp2_with fail
    go_end0
    exact ⟨rfl, h5, o2⟩
end Go.Proofs.Ytacnmnodbmbplaa
