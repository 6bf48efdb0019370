/-
  The document's Least: the time of the first of the order.
-/
import Derived.Test.YtijcfpdcijpenaaRfOrd
import Derived.Deep.RegionWith
namespace Go.Proofs.Ytijcfpdcijpenaa
open Go.RowKit Go.Shelf
set_option maxRecDepth 100000
set_option maxHeartbeats 1000000
set_option linter.unusedVariables false
theorem Rf.drew {w : World} {p q : Nat} {ss ts : List Int} (h : Rf w p q ss ts) : Rf w.drew p q ss ts := h.below (Below.drew (Below.refl _ _))
theorem Whole.drew {w : World} {g : Nat} {t : TypeId} {cs : Array Value} (h : Whole w g t cs) : Whole w.drew g t cs := h
theorem rleast_any (b : Nat) (w : World) {p q cp cq : Nat} {ss ts : List Int} (h : Rf w p q ss ts) (hn : ss.length ≤ 16) (hb : b < ss.length) (hb0 : cntTo ts b ss.length = 0) :
    Calls Try.prog 17 #[rv p q ss.length cp cq] w fun e w' => e = .returned (.int .i64 (ts[b]?.getD 0)) ∧ Below w.heap.size w w' := by
  have HO := Lib.hid (fun (W : World) (hW : Rf W p q ss ts) => rorder_any (cp := cp) (cq := cq) W hW hn)
  unfold rv at HO ⊢
  have hR := h.alloc (.cells #[.slice (some ⟨p, 0, none⟩) ss.length cp, .slice (some ⟨q, 0, none⟩) ss.length cq] 25)
  have hC := Whole.fresh w 25 #[.slice (some ⟨p, 0, none⟩) ss.length cp, .slice (some ⟨q, 0, none⟩) ss.length cq]
  have hB0 : Below w.heap.size w (w.alloc (.cells #[.slice (some ⟨p, 0, none⟩) ss.length cp, .slice (some ⟨q, 0, none⟩) ss.length cq] 25)) := (Below.refl _ _).alloc (Nat.le_refl _) _
  have HZ := Lib.hid hb0
  clear h hb0
  go_enter Try.func17, Try.ntmps17
  go_wp2_with fail
  generalize (w.alloc (Obj.cells #[.slice (some ⟨p, 0, none⟩) ss.length cp, .slice (some ⟨q, 0, none⟩) ss.length cq] 25)) = W0 at hB0 hR hC ⊢
  have c0 := hC.cell 0
  have c1 := hC.cell 1
  simp only [List.getElem?_toArray, List.getElem?_cons_zero, List.getElem?_cons_succ] at c0 c1
  have d := hR.tm b hb
  go_region_with (go_at_call 32; refine (HO.out _ (by first | exact hR | exact hR.drew)).mono ?_; rintro e W1 ⟨g, ls, rfl, hL, hLd, hg, hB1⟩; have hB2 := hB0.trans ((Below.trans (Below.drew (Below.refl _ _)) hB1).mono hB0.size); have x0 := (hC.drew.below hB1 hC.drew.lt).cell 0; have x1 := (hC.drew.below hB1 hC.drew.lt).cell 1; simp only [List.getElem?_toArray, List.getElem?_cons_zero, List.getElem?_cons_succ] at x0 x1; have dd := (hR.drew.below hB1).tm b hb; have ll : W1.cell? ⟨g, 0, none⟩ = some (.int .i64 (b : Nat)) := (by rw [hL.cell 0]; have h1 := hLd.2 b hb; rw [HZ.out] at h1; have h2 : 0 < ls.length := (by rw [hLd.1]; omega); rw [List.getElem?_eq_getElem h2, Option.getD_some] at h1; simp [vals, h2, h1]))
  all_goals
    clear HO HZ hLd hL hC hR hB1 hB0
    go_wp2
    try simp only [Act.put, List.getElem_toArray, List.getElem_cons_succ, List.getElem_cons_zero, List.setIfInBounds_toArray, List.set_cons_succ, List.set_cons_zero]
    go_ret
    exact ⟨rfl, hB2⟩
end Go.Proofs.Ytijcfpdcijpenaa
