/-
  Named, by the code: the codes of a name.
-/
import Derived.Test.YtmbpkpideepghaaDoorRangeM
import Derived.Test.YtmbpkpideepghaaDoorAwk
import Derived.Test.YtmbpkpideepghaaDoorOpn
import Derived.Deep.AppendLies
namespace Go.Proofs.YtmbpkpideepghaaDoor
open Go.RowKit Go.Shelf
attribute [local go_sem] Oper.semAt_some
set_option maxRecDepth 100000
set_option maxHeartbeats 1000000
set_option linter.unusedVariables false

/-- Which of some codes have a name. -/
def namedOf (nm : ByteArray) (l : List Nat) : List Nat := l.filter fun c => (nameF c).toList == nm.toList
def bytesV (l : List Nat) : List Value := l.map fun x => Value.int .u8 (x : Nat)
theorem bytesV_len (l : List Nat) : (bytesV l).length = l.length := by simp [bytesV]
theorem namedOf_snoc (nm : ByteArray) (l : List Nat) (c : Nat) : namedOf nm (l ++ [c]) = namedOf nm l ++ (if ((nameF c).toList == nm.toList) = true then [c] else []) := by
  unfold namedOf
  rw [List.filter_append]
  congr 1
  cases h : (nameF c).toList == nm.toList
  · simp [h]
  · simp [h]
theorem namedOf_len (nm : ByteArray) (l : List Nat) : (namedOf nm l).length ≤ l.length := List.length_filter_le _ _
theorem own_abides {W W' : World} {B : Nat} {e : TypeId} {s n : Nat} {v : Value} {xs : List Value} {row : Option Nat} (h : W.ownsRow B e s v n xs) (hg : W.grownBy W' row) (hr : ∀ r, row = some r → ∃ o : Obj, W.heap[r]? = some o ∧ o.isCells = false) : W'.ownsRow B e s v n xs := by
  refine h.kept hg ?_
  rcases h.2 with ⟨rfl, _⟩ | ⟨g, cap, cur, rfl, _, hh, _⟩
  · exact .inl rfl
  · right
    intro e1
    obtain ⟨o, ho, hc⟩ := hr g e1.symm
    rw [hh] at ho
    injection ho with ho
    subst ho
    simp [Obj.isCells] at hc
theorem whole_abides {W W' : World} {g : Nat} {t : TypeId} {cs : Array Value} {row : Option Nat} (h : Whole W g t cs) (hg : W.grownBy W' row) (hr : ∀ r, row = some r → ∃ o : Obj, W.heap[r]? = some o ∧ o.isCells = false) : Whole W' g t cs := by
  refine (hg.block g h.lt (fun e => ?_)).trans h
  obtain ⟨o, ho, hc⟩ := hr g e.symm
  rw [show W.heap[g]? = some (.cells cs t (0, 0)) from h] at ho
  injection ho with ho
  subst ho
  simp [Obj.isCells] at hc
theorem keepsOthers_grown {W W' : World} {B : Nat} {e : TypeId} {s n : Nat} {v : Value} {xs : List Value} (h : W.ownsRow B e s v n xs) (hg : W.grownBy W' v.ownBlock) : KeepsOthers W W' := by
  refine ⟨hg.size, fun k o hk ho => (hg.block k (Array.getElem?_eq_some_iff.1 hk).1 (fun e1 => ?_)).trans hk⟩
  rcases h.2 with ⟨rfl, _⟩ | ⟨g, cap, cur, rfl, _, hh, _⟩
  · cases e1
  · simp only [Value.ownBlock, Option.some.injEq] at e1
    subst e1
    rw [hh] at hk
    injection hk with hk
    subst hk
    simp [Obj.isCells] at ho
theorem all_any (w : World) : Calls Tryd.prog 17 #[] w fun e w' => e = .returned (.func (.func 37) #[] #[]) ∧ w = w' := by
  go_enter Tryd.func17, Tryd.ntmps17
  go_wp2
  go_ret
  exact ⟨rfl, rfl⟩
theorem own_apart {w : World} {B : Nat} {e t : TypeId} {s n g : Nat} {v : Value} {xs : List Value} {cs : Array Value} (h : w.ownsRow B e s v n xs) (hg : Whole w g t cs) (hne : e ≠ t) : v.ownBlock ≠ some g := by
  intro he
  rcases h.2 with ⟨rfl, _⟩ | ⟨g', cap, cur, rfl, _, hh, _⟩
  · simp [Value.ownBlock] at he
  · have : g' = g := by simpa [Value.ownBlock] using he
    subst this
    rw [show w.heap[g']? = some (.cells cs t (0, 0)) from hg] at hh
    injection hh with hh
    injection hh with _ h2
    exact hne h2.symm
theorem Whole.grown {w w' : World} {g : Nat} {t : TypeId} {cs : Array Value} {row : Option Nat} (h : Whole w g t cs) (hg : w.grownBy w' row) (hne : row ≠ some g) : Whole w' g t cs :=
  (hg.block g h.lt (fun e => hne e.symm)).trans h
theorem row_put {w : World} {B : Nat} {e : TypeId} {s n : Nat} {v : Value} {xs : List Value} (h : w.ownsRow B e s v n xs) {p : Addr} (hp : v.ownBlock ≠ some p.block) (u : Value) : (w.setCell p u).ownsRow B e s v n xs :=
  h.kept (row := some p.block) ⟨rfl, rfl, rfl, by simp [World.setCell], fun k _ hk => Below.heap_setCell w p u k (fun e => hk (by rw [e]))⟩ (.inr hp)
theorem upC_val (i : Nat) (hi : i ≤ 256) : (upC i).map (·.1) = List.range i := by
  unfold upC
  rw [List.map_map]
  conv => rhs; rw [← List.map_id (List.range i)]
  apply List.map_congr_left
  intro x hx
  exact cdOf_val (by have := List.mem_range.1 hx; omega)
/-- What stands between two rounds: the name's box, the slice's. -/
def NmAt (w : World) (nm : ByteArray) (l : List Nat) (W : World) : Prop :=
  Whole W w.heap.size 9 #[.string nm] ∧ (∃ v, Whole W (w.heap.size + 1) 32 #[v] ∧ W.ownsRow w.heap.size 5 1 v (namedOf nm l).length (bytesV (namedOf nm l))) ∧ Below w.heap.size w W
def objC (c : Nat) : Obj := .cells #[.int .u8 c, .string (nameF c), .int .u8 (modeF c), .int .u8 (useF (nameF c).toList (modeF c)), .int .u8 (widthF (nameF c).toList)] 23
attribute [local irreducible] upC nameF modeF useF widthF
theorem named_any (nm : ByteArray) (w : World) :
    Calls Tryd.prog 18 #[.string nm] w fun e w' => ∃ v, e = .returned v ∧ w'.ownsRow w.heap.size 5 1 v (namedOf nm (List.range 256)).length (bytesV (namedOf nm (List.range 256))) ∧ Below w.heap.size w w' := by
  refine (callsIn_wide (n := 5)).1 ?_
  refine callsIn_of_wp_marks Tryd.func18 rfl trivial ?_ rfl
  simp only [Tryd.ntmps18, List.size_toArray, List.length_cons, List.length_nil, Nat.reduceAdd, Nat.reduceSub, Array.replicate_succ, Array.replicate_zero, List.push_toArray, List.append_toArray, List.nil_append, List.cons_append]
  gi_wp2_with fail
  refine ⟨trivial, ?_⟩
  refine (callsIn_wide.2 (all_any _)).mono ?_
  rintro e w' ⟨rfl, rfl⟩
  gi_wp2_with fail
  have k0 := (Whole.fresh w 9 #[.string nm]).alloc (.cells #[.slice none 0 0] 32)
  have k1 := Whole.fresh (w.alloc (.cells #[.string nm] 9)) 32 #[.slice none 0 0]
  rw [World.size_alloc] at k1
  have hB0 := ((Below.refl w.heap.size w).alloc (Nat.le_refl _) (.cells #[.string nm] 9)).alloc (by simp) (.cells #[.slice none 0 0] 32)
  have hsz : ((w.alloc (.cells #[.string nm] 9)).alloc (.cells #[.slice none 0 0] 32)).heap.size = w.heap.size + 2 := by simp
  have hI0 : NmAt w nm (([] : List Cd).map (·.1)) ((w.alloc (.cells #[.string nm] 9)).alloc (.cells #[.slice none 0 0] 32)) := ⟨k0, ⟨_, k1, World.ownsRow_nil _ _ _ _⟩, hB0⟩
  clear k0 k1 hB0
  generalize (w.alloc (.cells #[.string nm] 9)).alloc (.cells #[.slice none 0 0] 32) = W0 at *
  refine range_made (o := fun x : Cd => objC x.1) rfl (by omega) (gf := 37) (lb := #[]) rfl trivial (enters_of Tryd.func37 (by kernel_rfl) rfl)
    (all_stops W0 _ (by omega)) (fun _ => rfl) (fun pre W => NmAt w nm (pre.map (·.1)) W) (fun _ _ _ => False)
    (fun s A B row h hg hr => ?own) (fun _ _ _ _ _ h _ _ => h) hI0 (fun _ => rfl)
    (fun (x : Cd) (X : Nat) => { tmps := #[Value.string nm, Value.pointer (some { block := w.heap.size, off := 0 }), Value.slice none 0 0,
          Value.pointer (some { block := w.heap.size + 1, off := 0 }), Value.pointer (some { block := X, off := 0 }), Value.func (Fn.func 37) #[] #[], cdV x.1,
          undef, undef, undef, undef, undef, undef, undef, undef, undef, undef], defers := [] }) ?assign ?body ?done ?stop
  case own =>
    obtain ⟨h1, ⟨v, h2, h3⟩, h4⟩ := h
    have hr' : ∀ r, row = some r → ∃ o : Obj, A.heap[r]? = some o ∧ o.isCells = false := fun r e => (hr r e).2
    exact ⟨whole_abides h1 hg hr', ⟨v, whole_abides h2 hg hr', own_abides h3 hg hr'⟩, h4.grown hg h4.size (fun r e => by have := (hr r e).1; omega)⟩
  case assign =>
    intro l x W K hK
    simp only [encC, cdV, codeV, objC] at hK ⊢
    gi_wp2
    exact hK
  case body =>
    rintro l pre x W X ⟨h1, ⟨v, h2, h3⟩, h4⟩ hlen hX hXo
    have hX' : Whole W X 23 #[.int .u8 x.1, .string (nameF x.1), .int .u8 (modeF x.1), .int .u8 (useF (nameF x.1).toList (modeF x.1)), .int .u8 (widthF (nameF x.1).toList)] := hXo
    have x0 := hX'.cell 0
    have x1 := hX'.cell 1
    have c1 := h1.cell 0
    have c2 := h2.cell 0
    have f2 := h2.free 0
    simp only [List.getElem?_toArray, List.getElem?_cons_zero, List.getElem?_cons_succ] at x0 x1 c1 c2
    have hsn := namedOf_snoc nm (pre.map (·.1)) x.1
    have hln := namedOf_len nm (pre.map (·.1))
    rw [List.length_map] at hln
    have hmap : (pre ++ [x]).map (·.1) = pre.map (·.1) ++ [x.1] := by simp
    unfold leftM
    clear hXo hX'
    cases hq : (nameF x.1).toList == nm.toList with
    | false =>
      rw [hq, if_neg (by decide), List.append_nil] at hsn
      have hlast : NmAt w nm ((pre ++ [x]).map (·.1)) W := by
        refine ⟨h1, ⟨v, h2, ?_⟩, h4⟩
        rw [hmap, hsn]
        exact h3
      clear h1 h2 h3 h4 hsn hmap hln
      generalize nameF x.1 = nx at *
      replace hlast := Lib.hid hlast
      gi_wp2
      exact ⟨KeepsOthers.refl _, trivial, hlast.out⟩
    | true =>
      rw [hq, if_pos rfl] at hsn
      have hbv : bytesV (namedOf nm (pre.map (·.1))) ++ [.int .u8 (x.1 : Nat)] = bytesV (namedOf nm (pre.map (·.1) ++ [x.1])) := by rw [hsn]; simp [bytesV]
      have hlv : (namedOf nm (pre.map (·.1))).length + 1 = (namedOf nm (pre.map (·.1) ++ [x.1])).length := by rw [hsn]; simp
      rw [← hmap] at hbv hlv
      clear hsn hmap
      generalize hL1 : namedOf nm ((pre ++ [x]).map (·.1)) = L1 at *
      obtain ⟨L0, hL0⟩ : ∃ L0, namedOf nm (pre.map (·.1)) = L0 := ⟨_, rfl⟩
      have hlast : ∀ W', Whole W' w.heap.size 9 #[.string nm] → (∃ v, Whole W' (w.heap.size + 1) 32 #[v] ∧ W'.ownsRow w.heap.size 5 1 v L1.length (bytesV L1)) → Below w.heap.size w W' → NmAt w nm ((pre ++ [x]).map (·.1)) W' := by
        intro W' a b c
        refine ⟨a, ?_, c⟩
        rw [hL1]
        exact b
      rw [hL0] at h3 hbv hlv hln
      obtain ⟨j0, hj0, hz0, hz1, hz2⟩ := info_parts info_parts8
      have hap := own_apart h3 h2 (by decide)
      have h1a := h1.alloc (.cells #[.int .u8 x.1] 5)
      have h2a := h2.alloc (.cells #[.int .u8 x.1] 5)
      have h3a := h3.alloc (.cells #[.int .u8 x.1] 5)
      have h4a := h4.alloc h4.size (.cells #[.int .u8 x.1] 5)
      have hap1 := own_apart h3 h1 (by decide)
      have hko := keepsOthers_alloc W (.cells #[.int .u8 x.1] 5)
      have hsz4 := h4.size
      clear h1 h2 h3 h4 hL0
      generalize nameF x.1 = nx at *
      have hlen2 : pre.length < 257 := hlen
      gi_wp2_with (gi_at_builtin; refine wpListIn_append_own _ rfl _ _ 32 rfl w.heap.size 5 j0 (.int .u8 0) 1 1 Tryd.underlying32 hj0 hz0 hz1 hz2 rfl (by decide) _ _ _ rfl h3a ⟨W.heap.size, 0, none⟩ 1 1 [.int .u8 x.1] rfl rfl (cell_one_new _ _ _) (by simp [Value.oneCell']) (by unfold maxLen; omega) (by omega) (by simp; omega) ?_)
      intro v' w3 hown3 hg3 _
      obtain ⟨g', cap', rfl⟩ : ∃ g' cap', v' = .slice (some ⟨g', 0, none⟩) L1.length cap' := by
        rcases hown3.2 with ⟨_, h0⟩ | ⟨g', cap', cur, e, _⟩
        · omega
        · exact ⟨g', cap', e⟩
      have h1b := h1a.grown hg3 hap1
      have h2b := h2a.grown hg3 hap
      have h4b := h4a.grown hg3 h4a.size (fun r e => (h3a.lt r e).1)
      have hko2 := hko.trans (keepsOthers_grown h3a hg3)
      have d2 := h2b.cell 0
      have f2 := h2b.free 0
      simp only [List.getElem?_toArray, List.getElem?_cons_zero] at d2
      have hfin := hlast (w3.setCell ⟨w.heap.size + 1, 0, none⟩ (.slice (some ⟨g', 0, none⟩) L1.length cap')) (h1b.away (p := ⟨w.heap.size + 1, 0, none⟩) (show w.heap.size ≠ w.heap.size + 1 by omega) _) ⟨_, h2b.put 0 (.slice (some ⟨g', 0, none⟩) L1.length cap'), row_put hown3 (p := ⟨w.heap.size + 1, 0, none⟩) (own_apart hown3 h2b (by decide)) _⟩ (h4b.setCell (p := ⟨w.heap.size + 1, 0, none⟩) (Nat.le_succ _) _)
      have hfin2 := Lib.hid (And.intro (hko2.trans (KeepsOthers.setCell w3 ⟨w.heap.size + 1, 0, none⟩ (.slice (some ⟨g', 0, none⟩) L1.length cap'))) hfin)
      clear hlast hfin hko hko2 h1a h2a h3a h4a h1b h2b h4b hown3 hg3 hap hap1 x0 x1 c1 c2
      gi_wp2
      exact ⟨hfin2.out.1, trivial, hfin2.out.2⟩
  case done =>
    rintro D xs W hD rfl ⟨h1, ⟨v, h2, h3⟩, h4⟩ hK
    have c2 := h2.cell 0
    simp only [List.getElem?_toArray, List.getElem?_cons_zero] at c2
    gi_wp2
    rw [upC_val 256 (Nat.le_refl _)] at h3
    refine ⟨by simp, .inl ⟨_, _, rfl, run_takeDeferred hK, ?_⟩⟩
    refine ⟨v, by simp [results, Tryd.f18, go_sem], v, rfl, own_abides h3 (grownBy_putObj' _ D (.deferred none)) (fun r e => by cases e; exact ⟨_, hK, rfl⟩), h4.grown (grownBy_putObj' W D (.deferred none)) h4.size (fun r e => by cases e; omega)⟩
  case stop =>
    rintro D cd pre W hD hpre hI hK
    exact hI.elim
end Go.Proofs.YtmbpkpideepghaaDoor
