/-
  TickBoots: the walk; the start-up program's bytes, by the code and by the document.
-/
import Derived.Test.YtbdhdedlemndeaaDoorKOpn
import Derived.Great.BuildSlice
import Derived.Deep.DeepCutAuto
namespace Go.Proofs.YtbdhdedlemndeaaDoor
open Go.RowKit Go.Shelf
set_option maxRecDepth 100000
set_option maxHeartbeats 1000000
set_option linter.unusedVariables false

theorem wpList_buildConsts {P : Program} {ops : Array Oper} {rest : List Oper} {o : Oper} {a : Act} {w : World} {Q : Exit → Act → World → Prop} (hg : o.guard = none) (t e : TypeId) (len : Nat) (parts : Array (Nat × Operand)) (ho : o.op = .buildSlice t len parts)
    (zs : List Value) (hone : ∀ v ∈ zs, v.cells = #[v])
    (hu : P.underlying t = some (.slice e)) (hsz : (P.info? e).map (·.size) = some 1) (hz : ((P.info? e).bind (·.zero)).isSome = true)
    (hlen : len = zs.length) (hpos : 0 < len) (hsmall : len ≤ 2 ^ 24)
    (hparts : parts.toList = (zs.zipIdx 0).map fun x => (x.2, Operand.const x.1))
    (h : wpList P ops Q rest (a.put o.dst (.slice (some ⟨w.heap.size, 0, none⟩) len len)) (w.alloc (.cells zs.toArray e))) : wpList P ops Q (o :: rest) a w := by
  cases hie : P.info? e with
  | none => simp [hie] at hsz
  | some ie =>
    simp only [hie, Option.map_some, Option.some.injEq, Option.bind_some] at hsz hz
    obtain ⟨z, hzz⟩ := Option.isSome_iff_exists.1 hz
    refine wpList_buildSlice hg t e len parts ho _ ie z hu hie hzz (by rw [hsz]; omega) (by rw [hsz]; omega) ?_ h
    have hp : (parts.map fun (i, x) => (i, a.eval x)).toList = (zs.zipIdx 0).map fun x => (x.2, x.1) := by
      rw [Array.toList_map, hparts, List.map_map]
      rfl
    rw [hp, hsz]
    exact Great.fill_flat _ _ hone (by simp [hlen])
def bootZ : List Int := [205, 239, 189, 143, 165, 244, 120, 90, 244, 208, 251, 186, 246, 218, 0, 205, 0, 141, 0, 216, 244, 61, 62, 244, 240, 9, 228, 244, 208, 248, 205, 0, 31, 246, 0, 228, 245, 215, 0, 252, 208, 2, 171, 1, 216, 244, 61, 208, 229, 61, 47, 226, 0, 0, 0, 0, 0, 0, 0, 0, 0, 0, 192, 255]
def bootV : List Value := bootZ.map (Value.int .u8)
theorem rboot_any (w : World) : Calls Tryd.prog 28 #[] w fun e w' => e = .returned (.slice (some ⟨w.heap.size, 0, none⟩) 64 64) ∧ w' = w.alloc (.cells bootV.toArray 5) := by
  go_enter Tryd.func28, Tryd.ntmps28
  go_upto_region 1 with (fail)
  show Code.wp _ (Code.region _ #[{ dst := _, op := Op.buildSlice _ _ ?ps, type := _, pos := _, after := _, guard := _ }, _] _) _ _ _
  generalize hps0 : ?ps = P0
  have hps : P0.toList = (bootV.zipIdx 0).map fun x => (x.2, Operand.const x.1) := by rw [← hps0]; kernel_rfl
  replace hps0 := Lib.hid hps0
  replace hps := Lib.hid hps
  go_wp2_with (refine wpList_buildConsts rfl 46 5 64 P0 rfl bootV (by intro v hv; simp only [bootV, List.mem_map] at hv; obtain ⟨l, _, rfl⟩ := hv; rfl) Tryd.underlying46 (by kernel_rfl) (by kernel_rfl) (by rfl) (by decide) (by decide) hps.out ?_)
  go_ret
  exact ⟨rfl, rfl⟩
theorem boot_at {w : World} {b : Nat} (h : Whole w b 5 bootV.toArray) (k : Nat) (hk : k < 64) : w.cell? ⟨b, k, none⟩ = some (.int .u8 (bootZ.getD k 0)) := by
  rw [h.cell]
  have hl : bootZ.length = 64 := rfl
  simp only [bootV, List.getElem?_toArray, List.getElem?_map]
  rw [List.getElem?_eq_getElem (by omega)]
  simp [List.getD_eq_getElem?_getD, List.getElem?_eq_getElem (show k < bootZ.length by omega)]
/-- The code's table holds these bytes. -/
structure Bt (w : World) : Prop where
  lt : 1 < w.heap.size
  cell : ∀ k, k < 64 → w.cell? ⟨1, k, none⟩ = some (.int .u8 (bootZ.getD k 0))
theorem bt_of {W : World} (h : laidMet Tryd.prog [("lanthorn/tick.startUp", Rows.laid_lanthorn_tick_startUp)] W) : Bt W := by
  have hT : Lib.TabIs Tryd.prog W "lanthorn/tick.startUp" .u8 bootZ := Lib.tabIs_of_head (g := 1) (t := 89) (e := 5) (n := 64) (rest := []) (by kernel_rfl) (by kernel_rfl) Tryd.underlying89 Tryd.underlying5 (by kernel_rfl) (by kernel_rfl) h
  have hg : Tryd.prog.globalNamed "lanthorn/tick.startUp" = some 1 := by kernel_rfl
  have hc : ∀ k, k < 64 → W.cell? ⟨1, k, none⟩ = some (.int .u8 (bootZ.getD k 0)) := fun k hk => hT.cell hg k hk
  exact ⟨World.block_lt_of_cell? W ⟨1, 0, none⟩ (hc 0 (by decide)), hc⟩
theorem boot_ok (k : Nat) (w : World) (h : Bt w) (hk : k < 64) : Calls Tryd.prog 27 #[.int .i64 (k : Nat)] w fun e w' => e = .returned (.tuple #[.int .u8 (bootZ.getD k 0), .int .i64 0]) ∧ w' = w := by
  have c := h.cell k hk
  clear h
  generalize bootZ.getD k 0 = X at *
  go_enter Tryd.func27, Tryd.ntmps27
  go_wp2_with fail
  go_ret2
  exact ⟨rfl, rfl⟩
theorem boot_no (k : Int) (w : World) (hk : k < 0 ∨ 64 ≤ k) : Calls Tryd.prog 27 #[.int .i64 k] w fun e w' => e = .returned (.tuple #[.int .u8 0, .int .i64 3]) ∧ w' = w := by
  rcases hk with hk | hk
  · go_enter Tryd.func27, Tryd.ntmps27
    go_wp2_with fail
    go_ret2
    exact ⟨rfl, rfl⟩
  · have hk0 : ¬ k < 0 := by omega
    go_enter Tryd.func27, Tryd.ntmps27
    go_wp2_with fail
    go_ret2
    exact ⟨rfl, rfl⟩
namespace tickBoots
theorem walk (k : Int) (w : World) (hp : Bt w) (hk : -9223372036854775808 ≤ k ∧ k ≤ 9223372036854775807) :
    Calls Tryd.prog 5 #[.int .i64 k] w fun e w' => e = .returned (.bool true) ∧ Below w.heap.size w w' := by
  clear hk
  by_cases h1 : k < 0
  · have HB := Lib.hid fun W => boot_no k W (.inl h1)
    clear hp
    go_enter Tryd.func5, Tryd.ntmps5
    go_wp2_with fail
    refine (HB.out _).mono ?_
    rintro e w' ⟨rfl, rfl⟩
    go_wp2_with fail
    go_ret
    exact ⟨rfl, Below.refl _ _⟩
  by_cases h2 : 63 < k
  · have HB := Lib.hid fun W => boot_no k W (.inr (by omega))
    clear hp
    go_enter Tryd.func5, Tryd.ntmps5
    go_wp2_with fail
    refine (HB.out _).mono ?_
    rintro e w' ⟨rfl, rfl⟩
    go_wp2_with fail
    go_ret
    exact ⟨rfl, Below.refl _ _⟩
  · obtain ⟨n, rfl⟩ : ∃ n : Nat, k = n := ⟨k.toNat, by omega⟩
    have hn : n < 64 := by omega
    have HB := Lib.hid (boot_ok n w hp hn)
    have HR := Lib.hid (rboot_any w)
    have hc := boot_at (Whole.fresh w 5 bootV.toArray) n hn
    have hb := Lib.hid ((Below.refl w.heap.size w).alloc (Nat.le_refl _) (.cells bootV.toArray 5))
    have q1 : ¬ (n : Int) < 0 := by omega
    have q2 : ¬ (63 : Int) < n := by omega
    clear hp h1 h2
    generalize w.alloc (.cells bootV.toArray 5) = W at *
    generalize bootZ.getD n 0 = X at *
    obtain ⟨G, hG⟩ : ∃ G, w.heap.size = G := ⟨_, rfl⟩
    rw [hG] at hc HR hb ⊢
    replace hG := Lib.hid hG
    go_enter Tryd.func5, Tryd.ntmps5
    go_wp2_with fail
    refine HB.out.mono ?_
    rintro e w' ⟨rfl, hw⟩
    subst hw
    go_wp2_with fail
    refine HR.out.mono ?_
    rintro e w' ⟨rfl, hw⟩
    subst hw
    go_wp2_with fail
    go_ret
    exact ⟨rfl, hb.out⟩
end tickBoots
end Go.Proofs.YtbdhdedlemndeaaDoor
