/-
  The document's tables in memory.
-/
import Derived.Test.YthecghmhohkcmaaGreatDoorTab
import Derived.Great.BuildSlice
namespace Go.Proofs.YthecghmhohkcmaaGreatDoor
open Go.RowKit
set_option maxRecDepth 1000000
set_option maxHeartbeats 4000000
set_option linter.unusedVariables false

/-- A slice literal whose values are constants of one cell each, every place written. -/
theorem wpList_buildConsts {P : Program} {ops : Array Oper} {rest : List Oper} {o : Oper} {a : Act} {w : World} {Q : Exit → Act → World → Prop} (hg : o.guard = none) (t e : TypeId) (len : Nat) (parts : Array (Nat × Operand)) (ho : o.op = .buildSlice t len parts)
    (zs : List Value) (hone : ∀ v ∈ zs, v.cells = #[v])
    (hu : P.underlying t = some (.slice e)) (hsz : (P.info? e).map (·.size) = some 1) (hz : ((P.info? e).bind (·.zero)).isSome = true)
    (hlen : len = zs.length) (hpos : 0 < len) (hsmall : len ≤ 2 ^ 24)
    (hparts : parts.toList = (zs.zipIdx 0).map fun x => (x.2, Operand.const x.1))
    (h : wpList P ops Q rest (a.put o.dst (.slice (some ⟨w.heap.size, 0, none⟩) len len)) (w.alloc (.cells zs.toArray e))) : wpList P ops Q (o :: rest) a w := by
  cases hie : P.info? e with
  | none => simp [hie] at hsz
  | some ie =>
    simp only [hie, Option.map_some, Option.some.injEq, Option.bind_some] at hsz hz
    obtain ⟨z, hzz⟩ := Option.isSome_iff_exists.1 hz
    refine wpList_buildSlice hg t e len parts ho _ ie z hu hie hzz (by rw [hsz]; omega) (by rw [hsz]; omega) ?_ h
    have hp : (parts.map fun (i, x) => (i, a.eval x)).toList = (zs.zipIdx 0).map fun x => (x.2, x.1) := by
      rw [Array.toList_map, hparts, List.map_map]
      rfl
    rw [hp, hsz]
    exact Great.fill_flat _ _ hone (by simp [hlen])

theorem names_any (w : World) : Calls Tryz.prog 28 #[] w fun e w' => e = .returned (.slice (some ⟨w.heap.size, 0, none⟩) 256 256) ∧ w' = w.alloc (.cells nmsV 9) := by
  go_enter Tryz.func28, Tryz.ntmps28
  go_upto_region 1 with (fail)
  show Code.wp _ (Code.region _ #[{ dst := _, op := Op.buildSlice _ _ ?ps, type := _, pos := _, after := _, guard := _ }, _] _) _ _ _
  generalize hps0 : ?ps = P0
  have hps : P0.toList = (nmsV.toList.zipIdx 0).map fun x => (x.2, Operand.const x.1) := by rw [← hps0]; kernel_rfl
  replace hps0 := Lib.hid hps0
  replace hps := Lib.hid hps
  go_wp2_with (refine wpList_buildConsts rfl 69 9 256 P0 rfl nmsV.toList (by intro v hv; simp only [nmsV, List.mem_map] at hv; obtain ⟨l, _, rfl⟩ := hv; rfl) Tryz.underlying69 (by kernel_rfl) (by kernel_rfl) (by rfl) (by decide) (by decide) hps.out ?_)
  go_ret
  exact ⟨rfl, rfl⟩
theorem forms_any (w : World) : Calls Tryz.prog 29 #[] w fun e w' => e = .returned (.slice (some ⟨w.heap.size, 0, none⟩) 256 256) ∧ w' = w.alloc (.cells fmsV 9) := by
  go_enter Tryz.func29, Tryz.ntmps29
  go_upto_region 1 with (fail)
  show Code.wp _ (Code.region _ #[{ dst := _, op := Op.buildSlice _ _ ?ps, type := _, pos := _, after := _, guard := _ }, _] _) _ _ _
  generalize hps0 : ?ps = P0
  have hps : P0.toList = (fmsV.toList.zipIdx 0).map fun x => (x.2, Operand.const x.1) := by rw [← hps0]; kernel_rfl
  replace hps0 := Lib.hid hps0
  replace hps := Lib.hid hps
  go_wp2_with (refine wpList_buildConsts rfl 69 9 256 P0 rfl fmsV.toList (by intro v hv; simp only [fmsV, List.mem_map] at hv; obtain ⟨l, _, rfl⟩ := hv; rfl) Tryz.underlying69 (by kernel_rfl) (by kernel_rfl) (by rfl) (by decide) (by decide) hps.out ?_)
  go_ret
  exact ⟨rfl, rfl⟩
theorem cycles_any (w : World) : Calls Tryz.prog 30 #[] w fun e w' => e = .returned (.slice (some ⟨w.heap.size, 0, none⟩) 256 256) ∧ w' = w.alloc (.cells cycV 3) := by
  go_enter Tryz.func30, Tryz.ntmps30
  go_upto_region 1 with (fail)
  show Code.wp _ (Code.region _ #[{ dst := _, op := Op.buildSlice _ _ ?ps, type := _, pos := _, after := _, guard := _ }, _] _) _ _ _
  generalize hps0 : ?ps = P0
  have hps : P0.toList = (cycV.toList.zipIdx 0).map fun x => (x.2, Operand.const x.1) := by rw [← hps0]; kernel_rfl
  replace hps0 := Lib.hid hps0
  replace hps := Lib.hid hps
  go_wp2_with (refine wpList_buildConsts rfl 71 3 256 P0 rfl cycV.toList (by intro v hv; simp only [cycV, List.mem_map] at hv; obtain ⟨l, _, rfl⟩ := hv; rfl) Tryz.underlying71 (by kernel_rfl) (by kernel_rfl) (by rfl) (by decide) (by decide) hps.out ?_)
  go_ret
  exact ⟨rfl, rfl⟩
end Go.Proofs.YthecghmhohkcmaaGreatDoor
