/-
  Cells of a memory as they come in.
-/
import Derived.Test.YtknlbmjncginnaaGreatDoorTOpn
import Derived.Test.YtknlbmjncginnaaGreatDoorTMem
namespace Go.Proofs.YtknlbmjncginnaaGreatDoor
open Go.RowKit Go.ChangeShapes Go.WideShapes Go.ChangeAt Go.Joins Go.Deep
set_option linter.unusedVariables false
set_option maxRecDepth 100000

theorem trod_struct2 {H : Type} {enc : TypeId × Value → H} {P : Program} {w : World} {base : Nat} {spare : Nat → Bool} {held : Bool} {t : TypeId} {f0 f1 : Field} {fuel : Nat} {cs : List Value} {x : DataW H × List MemPlace}
    (ht : P.underlying t = some (.struct #[f0, f1])) (h : DataW.trod enc P w base spare held fuel t cs = some x) :
    ∃ y0 y1 n, x.1 = .agg [y0.1, y1.1] ∧ DataW.trod enc P w base spare held n f0.type ((cs.drop f0.offset).take (P.cellsOf f0.type)) = some y0 ∧
      DataW.trod enc P w base spare held n f1.type ((cs.drop f1.offset).take (P.cellsOf f1.type)) = some y1 := by
  obtain ⟨xs, n, _, rfl, hl, hlen, hf⟩ := DataW.trod_struct ht h
  match xs, hlen with
  | [y0, y1], _ => exact ⟨y0, y1, n, by simp, by simpa using hf 0 f0 rfl, by simpa using hf 1 f1 rfl⟩
theorem seen_cells {H : Type} {enc : TypeId × Value → H} {w : World} {base : Nat} {held : Bool} {fuel : Nat} {a : Option Addr} {len cap : Nat} {d : DataW H} {p : List MemPlace}
    {ts : List TypeId} {ds : List (DataW H)} (j : Nat) (h : DataW.trod enc Tryz.prog w base (fun _ => true) held fuel 33 (Value.slice a len cap).cells.toList = some (d, p))
    (hsz : (DataW.weightsEach Tryz.prog ts ds).all (· ≤ reachBytes) = true) (hj : ts[j]? = some 33) (hd : ds[j]? = some d) : ∃ fA fV, CRow w a len fA fV ∧ len ≤ 140737488355328 := by
  rcases Deep.open_slice Tryz.underlying33 h with ⟨hcs, _⟩ | ⟨ad, l, c, m, n, D, Pl, hcs, hb, hl, hm, hmm, hx, hel⟩
  · simp [Value.cells] at hcs
    obtain ⟨rfl, rfl, rfl⟩ := hcs
    exact ⟨fun _ => 0, fun _ => 0, ⟨fun i hi => absurd hi (Nat.not_lt_zero _), .inl rfl⟩, Nat.zero_le _⟩
  · simp [Value.cells] at hcs
    obtain ⟨rfl, rfl, rfl⟩ := hcs
    simp only [if_true] at hmm
    subst hmm
    have hlen : len ≤ 140737488355328 := by
      simp only [Prod.mk.injEq] at hx
      obtain ⟨hxd, _⟩ := hx
      rw [hxd] at hd
      have hr := sized_slice hsz hj hd Tryz.underlying33
      rw [show Tryz.prog.bytesOf 100 = 4 by kernel_rfl] at hr
      simp only [List.length_map, List.length_range, reachBytes] at hr
      omega
    by_cases h0 : len = 0
    · subst h0
      exact ⟨fun _ => 0, fun _ => 0, ⟨fun i hi => absurd hi (Nat.not_lt_zero _), .inl rfl⟩, Nat.zero_le _⟩
    obtain ⟨b, off, spot⟩ := ad
    have hspot : spot = none := by
      obtain ⟨cs', h1, h2⟩ := hel 0 (by omega)
      rw [show Tryz.prog.cellsOf 100 = 2 by kernel_rfl] at h1
      obtain ⟨_, hlen, hcell⟩ := World.cells?_some h1
      obtain ⟨v, hv⟩ : ∃ v, cs'[0]? = some v := ⟨cs'[0]'(by omega), List.getElem?_eq_getElem (by omega)⟩
      have f0 := hcell 0 (by omega)
      rw [hv] at f0
      simpa [Addr.add] using World.cell?_spot f0
    subst hspot
    have each : ∀ k, k < len → ∃ q : Nat × Nat, b < w.heap.size ∧ (q.1 < 65536 ∧ q.2 < 256) ∧ w.cell? ⟨b, off + k * 2, none⟩ = some (.int .u16 (q.1 : Nat)) ∧ w.cell? ⟨b, off + k * 2 + 1, none⟩ = some (.int .u8 (q.2 : Nat)) := by
      intro k hk
      obtain ⟨cs', h1, h2⟩ := hel k (by omega)
      rw [show Tryz.prog.cellsOf 100 = 2 by kernel_rfl] at h1
      obtain ⟨_, hlen, hcell⟩ := World.cells?_some h1
      obtain ⟨y0, y1, n', hxy, g0, g1⟩ := trod_struct2 Tryz.underlying100 h2
      obtain ⟨v0, v1, rfl⟩ : ∃ v0 v1, cs' = [v0, v1] := by
        match cs', hlen with
        | [v0, v1], _ => exact ⟨v0, v1, rfl⟩
      simp only [show Tryz.prog.cellsOf 22 = 1 by kernel_rfl, show Tryz.prog.cellsOf 5 = 1 by kernel_rfl, List.drop_zero, List.drop_succ_cons, List.take_succ_cons, List.take_zero] at g0 g1
      obtain ⟨n0, e0, -, w0⟩ := DataW.trod_int Tryz.underlying22 g0
      obtain ⟨n1, e1, -, w1⟩ := DataW.trod_int Tryz.underlying5 g1
      obtain ⟨n0, rfl, l0⟩ := nat16 w0
      obtain ⟨n1, rfl, l1⟩ := nat8 w1
      have f0 := hcell 0 (by omega)
      have f1 := hcell 1 (by omega)
      injection e0 with e0
      injection e1 with e1
      subst e0 e1
      rw [Go.WideShapes.add_plain, Go.WideShapes.add_plain] at f0 f1
      exact ⟨(n0, n1), World.block_lt_of_cell? w ⟨b, off + k * 2 + 0, none⟩ f0, ⟨l0, l1⟩, by simpa using f0, by simpa using f1⟩
    obtain ⟨q, hq⟩ := Deep.choose_lt each
    exact ⟨fun i => (q i).1, fun i => (q i).2, ⟨fun i hi => (hq i hi).2.1, .inr ⟨b, off, rfl, (hq 0 (by omega)).1, fun i hi => (hq i hi).2.2⟩⟩, hlen⟩
end Go.Proofs.YtknlbmjncginnaaGreatDoor
