/-
  BrrPacks of package lanthornlaw14 holds for every slice of samples: samples are packed as the document says.
-/
import Derived.Test.YtekjcgckniopdaaRows
import Derived.WalkKit
import Derived.ProofKit
import Derived.Test.YtekjcgckniopdaaBOpn
import Derived.Test.YtekjcgckniopdaaBPkW
import Derived.OpenShut
import Derived.ShutString
import Derived.ChangeOld
import Derived.Below
namespace Go.Proofs.Ytekjcgckniopdaa.brrPacks
open Go.ChangeShapes Go.WideShapes Go.ChangeAt Go.RowKit
open Go.ChangeMaps (open_string shut_string)
set_option linter.unusedVariables false

theorem own : ownKnob Try.prog.godebug = none := by kernel_rfl
theorem laidOut : laidOutB Try.prog = true := by kernel_rfl

set_option maxRecDepth 100000 in
theorem lifted (os : Os) (started : os.Started) (H : Type) (enc : TypeId × Value → H) :
    ReturnsInHanded {} Try.checked os 6 .any (Rows.brrPacksSpec.pre6 enc Try.prog Try.f6 Rows.brrPacksRow.domain false) (Rows.brrPacksSpec.post enc Try.prog Try.f6 false true false false) := by
  refine returnsInHanded_of_change_sized (C := Try.checked) own started (by kernel_rfl) Try.func6
    (ChangeSpec.witness6 (enc := enc) (C := Try.checked) false ⟨#[], #[.slice none 0 0], []⟩ 8 (by kernel_rfl) (by kernel_rfl) (by kernel_rfl) (by kernel_rfl)) ?_
  intro W base args ds gs before hval0 hW hcnd hsz0 _
  have hsz : (DataW.weightsEach Try.prog (Try.f6.params.toList ++ Rows.brrPacksSpec.plain.varTypes Try.prog) (ds ++ gs)).all (· ≤ reachBytes) = true := hsz0
  clear hsz0
  have hval : ∀ (j : Nat) t v, Try.f6.params[j]? = some t → args[j]? = some v → Value.okWide Try.prog W .any base t v := hval0
  have hW' := hW
  obtain ⟨p, q, hA0, hV, rfl, hfz, hnd⟩ := hW
  have hA : DataW.TrodAll enc Try.prog W 0 (fun _ => true) true Try.f6.params.toList args.toList ds p := hA0
  rw [Try.params6] at hA hval hsz
  obtain ⟨v0, vs0, d0, ds0, p0, q0, hargs, rfl, rfl, h0, r0⟩ := trodAll_cons hA
  obtain ⟨rfl, rfl, rfl⟩ := trodAll_nil r0
  obtain rfl : args = #[v0] := by cases args; simp_all
  obtain ⟨rfl, rfl⟩ := trodVars_none hV
  have k0 := h0
  have lt0 : ∀ x ∈ p0, x.block < W.heap.size := by obtain ⟨m, hm⟩ := k0; exact DataW.trod_lt m _ _ _ hm
  obtain ⟨a0, len0, cap0, rfl⟩ := okWide_slice Try.underlying27 (hval 0 27 v0 rfl rfl)
  obtain ⟨m0, hm0⟩ := h0
  obtain ⟨zs0, hS0⟩ := seen_ints (ts := Try.f6.params.toList ++ Rows.brrPacksSpec.plain.varTypes Try.prog) (k := .i16) (bytes := 2) 0 Try.underlying27 Try.underlying23 (by kernel_rfl) (by kernel_rfl) (show DataW.trod enc Try.prog W 0 (fun _ => true) true m0 27 (Value.slice a0 len0 cap0).cells.toList = some (d0, p0) from hm0) (by rw [Try.params6]; exact hsz) (by rw [Try.params6]; rfl) rfl
  obtain ⟨hI0, hs0, hl0⟩ := irow_of_seen hS0
  have hlc0 : len0 ≤ cap0 := slice_cap Try.underlying27 (show DataW.trod enc Try.prog W 0 (fun _ => true) true m0 27 [.slice a0 len0 cap0] = some (d0, p0) by simpa [Value.cells] using hm0)
  clear hA0 hval0
  refine (walk a0 len0 cap0 (fun i => zs0[i]?.getD 0) W hI0 hs0 (by omega) hlc0).mono fun e W' ⟨he, bel⟩ => ?_
  subst he
  exact ⟨_, rfl, _, _, _, [], _, [], hW', trodAll_mk1 (shut_bool Try.underlying4 _), (trodAll_cons_mk (Below.trod laidOut (by kernel_rfl) (of_decide_eq_true (by kernel_rfl)) k0 bel lt0) trodAll_mk0), rfl, bel.frame _, fun h => by cases h⟩

theorem named : Try.pinned.checked.prog.funcNamed Rows.brrPacksRow.func = some 6 := by kernel_rfl
theorem c1 : (Rows.brrPacksRow.inPlace == Try.pinned.checked.prog.inPlace 6) = true := by kernel_rfl
theorem c2 : (Rows.brrPacksRow.unfollowed == Try.pinned.checked.prog.unfollowed 6) = true := by kernel_rfl
theorem c3 : (Rows.brrPacksRow.recurses == Try.pinned.checked.prog.recurses 6) = true := by kernel_rfl
theorem c4 : (Rows.brrPacksRow.named == Try.pinned.checked.prog.varsNamed 6) = true := by kernel_rfl
theorem c5 : laidOutB Try.pinned.checked.prog = true := by kernel_rfl
theorem closed : joinedFacts Try.pinned.checked.prog 6 Try.f6 Rows.brrPacksSpec Rows.brrPacksRow = true := by
  unfold joinedFacts
  rw [c1, c2, c3, c4, c5]
  kernel_rfl
theorem inst : Func.isInstance Try.pinned.checked.prog Try.f6 Rows.brrPacksRow.origin Rows.brrPacksRow.targs := of_decide_eq_true (by kernel_rfl)
theorem wrap : Func.isWrapper Try.pinned.checked.prog Try.f6 Rows.brrPacksRow.wrapper Rows.brrPacksRow.mainSum := by unfold Func.isWrapper; first | (rw [if_pos (by decide +kernel)]; kernel_rfl) | (rw [if_neg (by decide +kernel)]; exact ⟨rfl, rfl⟩)
theorem over : Rows.BrrPacksSaid :=
  OpenClaim.holds_of_wide 6 Try.f6 rfl rfl rfl rfl rfl rfl rfl ⟨rfl, rfl, rfl, rfl, rfl⟩ rfl rfl rfl rfl rfl named Try.func6 closed inst wrap
    (fun os started H enc _ => lifted os started H enc)

/-- ████ THE STATEMENT ████ -/
theorem proved : Rows.BrrPacksSaid := over
#print axioms proved
end Go.Proofs.Ytekjcgckniopdaa.brrPacks
