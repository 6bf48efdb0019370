/-
  BrrNearest: for every slice of samples, every two samples, every shift and nibbles: the block that the code encodes sixteen samples as is at most as far from them as any block with the filter 0 and a shift up to 12, and what such a block stands for is encoded without a loss; what comes in is left as it was.
-/
import Derived.Test.YtekjcgckniopdaaRows
import Derived.WalkKit
import Derived.ProofKit
import Derived.Test.YtekjcgckniopdaaBOpn
import Derived.Test.YtekjcgckniopdaaBNrW
import Derived.OpenShut
import Derived.ShutString
import Derived.ChangeOld
import Derived.Below
namespace Go.Proofs.Ytekjcgckniopdaa.brrNearest
open Go.ChangeShapes Go.WideShapes Go.ChangeAt Go.RowKit
open Go.ChangeMaps (open_string shut_string)
set_option linter.unusedVariables false

theorem own : ownKnob Try.prog.godebug = none := by kernel_rfl
theorem laidOut : laidOutB Try.prog = true := by kernel_rfl

set_option maxRecDepth 100000 in
theorem lifted (os : Os) (started : os.Started) (H : Type) (enc : TypeId × Value → H) :
    ReturnsInHanded {} Try.checked os 8 .any (Rows.brrNearestSpec.pre6 enc Try.prog Try.f8 Rows.brrNearestRow.domain false) (Rows.brrNearestSpec.post enc Try.prog Try.f8 false true false false) := by
  refine returnsInHanded_of_change_sized (C := Try.checked) own started (by kernel_rfl) Try.func8
    (ChangeSpec.witness6 (enc := enc) (C := Try.checked) false ⟨#[], #[.slice none 0 0, .agg #[.int .i16 0, .int .i16 0], .agg #[.int .u8 0, .slice none 0 0]], []⟩ 8 (by kernel_rfl) (by kernel_rfl) (by kernel_rfl) (by kernel_rfl)) ?_
  intro W base args ds gs before hval0 hW hcnd hsz0 _
  have hsz : (DataW.weightsEach Try.prog (Try.f8.params.toList ++ Rows.brrNearestSpec.plain.varTypes Try.prog) (ds ++ gs)).all (· ≤ reachBytes) = true := hsz0
  clear hsz0
  have hval : ∀ (j : Nat) t v, Try.f8.params[j]? = some t → args[j]? = some v → Value.okWide Try.prog W .any base t v := hval0
  have hW' := hW
  obtain ⟨p, q, hA0, hV, rfl, hfz, hnd⟩ := hW
  have hA : DataW.TrodAll enc Try.prog W 0 (fun _ => true) true Try.f8.params.toList args.toList ds p := hA0
  rw [Try.params8] at hA hval hsz
  obtain ⟨v0, vs0, d0, ds0, p0, q0, hargs, rfl, rfl, h0, r0⟩ := trodAll_cons hA
  obtain ⟨v1, vs1, d1, ds1, p1, q1, rfl, rfl, rfl, h1, r1⟩ := trodAll_cons r0
  obtain ⟨v2, vs2, d2, ds2, p2, q2, rfl, rfl, rfl, h2, r2⟩ := trodAll_cons r1
  obtain ⟨rfl, rfl, rfl⟩ := trodAll_nil r2
  obtain rfl : args = #[v0, v1, v2] := by cases args; simp_all
  obtain ⟨rfl, rfl⟩ := trodVars_none hV
  have k0 := h0
  have lt0 : ∀ x ∈ p0, x.block < W.heap.size := by obtain ⟨m, hm⟩ := k0; exact DataW.trod_lt m _ _ _ hm
  obtain ⟨a0, len0, cap0, rfl⟩ := okWide_slice Try.underlying27 (hval 0 27 v0 rfl rfl)
  obtain ⟨m0, hm0⟩ := h0
  obtain ⟨zs0, hS0⟩ := seen_ints (ts := Try.f8.params.toList ++ Rows.brrNearestSpec.plain.varTypes Try.prog) (k := .i16) (bytes := 2) 0 Try.underlying27 Try.underlying23 (by kernel_rfl) (by kernel_rfl) (show DataW.trod enc Try.prog W 0 (fun _ => true) true m0 27 (Value.slice a0 len0 cap0).cells.toList = some (d0, p0) from hm0) (by rw [Try.params8]; exact hsz) (by rw [Try.params8]; rfl) rfl
  obtain ⟨hI0, hs0, hl0⟩ := irow_of_seen hS0
  have hlc0 : len0 ≤ cap0 := slice_cap Try.underlying27 (show DataW.trod enc Try.prog W 0 (fun _ => true) true m0 27 [.slice a0 len0 cap0] = some (d0, p0) by simpa [Value.cells] using hm0)
  have k1 := h1
  have lt1 : ∀ x ∈ p1, x.block < W.heap.size := by obtain ⟨m, hm⟩ := k1; exact DataW.trod_lt m _ _ _ hm
  obtain ⟨pa1, pb1, rfl, ha1, hb1⟩ := open_back (hval 1 25 v1 rfl rfl) h1
  have k2 := h2
  have lt2 : ∀ x ∈ p2, x.block < W.heap.size := by obtain ⟨m, hm⟩ := k2; exact DataW.trod_lt m _ _ _ hm
  obtain ⟨sh2, a2, len2, cap2, g2, rfl, hsh2, hR2, hbn2, hlc2⟩ := open_nibs (hval 2 47 v2 rfl rfl) h2 (fun x hx => by
    have := List.all_eq_true.1 hsz x (DataW.weights_mem_each (P := Try.prog) (j := 2) (t := 47) (d := d2) rfl rfl x hx)
    simpa using this)
  clear hA0 hval0
  refine (walk a0 len0 cap0 (fun i => zs0[i]?.getD 0) pa1 pb1 sh2 a2 len2 cap2 g2 W hI0 hs0 (by omega) hlc0 ha1 hb1 hsh2 hR2 hbn2).mono fun e W' ⟨he, bel⟩ => ?_
  subst he
  exact ⟨_, rfl, _, _, _, [], _, [], hW', trodAll_mk1 (shut_bool Try.underlying4 _), (trodAll_cons_mk (Below.trod laidOut (by kernel_rfl) (of_decide_eq_true (by kernel_rfl)) k0 bel lt0) (trodAll_cons_mk (Below.trod laidOut (by kernel_rfl) (of_decide_eq_true (by kernel_rfl)) k1 bel lt1) (trodAll_cons_mk (Below.trod laidOut (by kernel_rfl) (of_decide_eq_true (by kernel_rfl)) k2 bel lt2) trodAll_mk0))), rfl, bel.frame _, fun h => by cases h⟩

theorem named : Try.pinned.checked.prog.funcNamed Rows.brrNearestRow.func = some 8 := by kernel_rfl
theorem c1 : (Rows.brrNearestRow.inPlace == Try.pinned.checked.prog.inPlace 8) = true := by kernel_rfl
theorem c2 : (Rows.brrNearestRow.unfollowed == Try.pinned.checked.prog.unfollowed 8) = true := by kernel_rfl
theorem c3 : (Rows.brrNearestRow.recurses == Try.pinned.checked.prog.recurses 8) = true := by kernel_rfl
theorem c4 : (Rows.brrNearestRow.named == Try.pinned.checked.prog.varsNamed 8) = true := by kernel_rfl
theorem c5 : laidOutB Try.pinned.checked.prog = true := by kernel_rfl
theorem closed : joinedFacts Try.pinned.checked.prog 8 Try.f8 Rows.brrNearestSpec Rows.brrNearestRow = true := by
  unfold joinedFacts
  rw [c1, c2, c3, c4, c5]
  kernel_rfl
theorem inst : Func.isInstance Try.pinned.checked.prog Try.f8 Rows.brrNearestRow.origin Rows.brrNearestRow.targs := of_decide_eq_true (by kernel_rfl)
theorem wrap : Func.isWrapper Try.pinned.checked.prog Try.f8 Rows.brrNearestRow.wrapper Rows.brrNearestRow.mainSum := by unfold Func.isWrapper; first | (rw [if_pos (by decide +kernel)]; kernel_rfl) | (rw [if_neg (by decide +kernel)]; exact ⟨rfl, rfl⟩)
theorem over : Rows.BrrNearestSaid :=
  OpenClaim.holds_of_wide 8 Try.f8 rfl rfl rfl rfl rfl rfl rfl ⟨rfl, rfl, rfl, rfl, rfl⟩ rfl rfl rfl rfl rfl named Try.func8 closed inst wrap
    (fun os started H enc _ => lifted os started H enc)

/-- ████ THE STATEMENT ████ -/
theorem proved : Rows.BrrNearestSaid := over
#print axioms proved
end Go.Proofs.Ytekjcgckniopdaa.brrNearest
