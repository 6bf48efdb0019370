/-
  A player in memory; worlds in which only some blocks are others; accesses copied.
-/
import Derived.Test.YtknlbmjncginnaaGreatDoorPPl
import Derived.Test.YtknlbmjncginnaaGreatDoorCpy
import Derived.Laws.CopyRow
import Derived.Laws.MakeOwn
namespace Go.Proofs.YtknlbmjncginnaaGreatDoor
open Go.RowKit Go.Shelf
set_option maxRecDepth 100000
set_option maxHeartbeats 1000000
set_option linter.unusedVariables false

/-- Only blocks of S, and new ones, are others. -/
structure Fr (S : Nat → Prop) (w w' : World) : Prop where
  os : w'.os = w.os
  tape : w'.tape = w.tape
  output : w'.output = w.output
  size : w.heap.size ≤ w'.heap.size
  block : ∀ k, k < w.heap.size → ¬ S k → w'.heap[k]? = w.heap[k]?
section
variable {S T : Nat → Prop} {w w' w'' : World}
theorem Fr.refl (S : Nat → Prop) (w : World) : Fr S w w := ⟨rfl, rfl, rfl, Nat.le_refl _, fun _ _ _ => rfl⟩
theorem Fr.trans (h : Fr S w w') (k : Fr S w' w'') : Fr S w w'' := ⟨k.os.trans h.os, k.tape.trans h.tape, k.output.trans h.output, Nat.le_trans h.size k.size, fun x hx hS => (k.block x (Nat.lt_of_lt_of_le hx h.size) hS).trans (h.block x hx hS)⟩
theorem Fr.mono (h : Fr S w w') (hST : ∀ k, k < w.heap.size → S k → T k) : Fr T w w' := ⟨h.os, h.tape, h.output, h.size, fun x hx hS => h.block x hx fun hs => hS (hST x hx hs)⟩
/-- .. where blocks behind the first world may be others. -/
theorem Fr.trans2 (h : Fr S w w') (k : Fr T w' w'') (hT : ∀ x, x < w.heap.size → T x → S x) : Fr S w w'' := ⟨k.os.trans h.os, k.tape.trans h.tape, k.output.trans h.output, Nat.le_trans h.size k.size, fun x hx hS => (k.block x (Nat.lt_of_lt_of_le hx h.size) fun ht => hS (hT x hx ht)).trans (h.block x hx hS)⟩
theorem Fr.of (h : Below w.heap.size w w') : Fr S w w' := ⟨h.os, h.tape, h.output, h.size, fun k hk _ => h.block k hk⟩
theorem Fr.below {B : Nat} (h : Fr S w w') (hB : B ≤ w.heap.size) (hS : ∀ k, S k → B ≤ k) : Below B w w' := ⟨h.os, h.tape, h.output, h.size, fun k hk => h.block k (Nat.lt_of_lt_of_le hk hB) fun hs => absurd (hS k hs) (Nat.not_le_of_lt hk)⟩
theorem Fr.setCell (h : Fr S w w') {p : Addr} (hp : S p.block) (u : Value) : Fr S w (w'.setCell p u) :=
  ⟨by simpa [World.setCell] using h.os, by simpa [World.setCell] using h.tape, by simpa [World.setCell] using h.output, by simpa [World.setCell] using h.size, fun k hk hS => by
    have hne : k ≠ p.block := fun e => hS (e ▸ hp)
    rw [← h.block k hk hS]
    exact Below.heap_setCell w' p u k hne⟩
theorem Fr.whole {x : Nat} {t : TypeId} {cs : Array Value} (h : Fr S w w') (hw : Whole w x t cs) (hx : ¬ S x) : Whole w' x t cs := (h.block x hw.lt hx).trans hw
theorem Fr.cell {a : Addr} (h : Fr S w w') (hx : a.block < w.heap.size) (hS : ¬ S a.block) : w'.cell? a = w.cell? a := World.cell?_of_block (h.block _ hx hS)
theorem Fr.row {a : Option Addr} {n : Nat} {f : Nat → Nat} (h : Fr S w w') (hR : Row w a n f) (hS : ∀ p, a = some p → n ≠ 0 → ¬ S p.block) : Row w' a n f := by
  rcases hR with ⟨h0, h1 | ⟨b, o, rfl, hlt, hc⟩⟩
  · exact ⟨h0, .inl h1⟩
  · refine ⟨h0, ?_⟩
    by_cases hn : n = 0
    · exact .inl hn
    · exact .inr ⟨b, o, rfl, Nat.lt_of_lt_of_le hlt h.size, fun i hi => (h.cell (a := ⟨b, o + i, none⟩) hlt (hS ⟨b, o, none⟩ rfl hn)).trans (hc i hi)⟩
theorem Fr.arow {a : Option Addr} {l : List Ac} (h : Fr S w w') (hA : ARow w a l) (hS : ∀ g cs, Whole w g 42 cs → ¬ S g) : ARow w' a l := by
  rcases hA with h1 | ⟨g, rfl, ⟨cs, hw⟩, hc⟩
  · exact .inl h1
  · refine .inr ⟨g, rfl, ⟨cs, h.whole hw (hS g cs hw)⟩, fun i hi => ?_⟩
    obtain ⟨h1, h2, h3⟩ := hc i hi
    have hn := hS g cs hw
    exact ⟨(h.cell (a := ⟨g, i * 3, none⟩) hw.lt hn).trans h1, (h.cell (a := ⟨g, i * 3 + 1, none⟩) hw.lt hn).trans h2, (h.cell (a := ⟨g, i * 3 + 2, none⟩) hw.lt hn).trans h3⟩
theorem Fr.own {B n sz : Nat} {e : TypeId} {v : Value} {xs : List Value} (h : Fr S w w') (ho : w.ownsRow B e sz v n xs) (hS : ∀ g, v.ownBlock = some g → ¬ S g) : w'.ownsRow B e sz v n xs := by
  rcases ho with ⟨h1, ⟨h2, h3⟩ | ⟨g, cap, cur, rfl, h3, h4, h5⟩⟩
  · exact ⟨h1, .inl ⟨h2, h3⟩⟩
  · have hlt : g < w.heap.size := by
      rcases Nat.lt_or_ge g w.heap.size with hl | hl
      · exact hl
      · rw [Array.getElem?_eq_none hl] at h4; cases h4
    exact ⟨h1, .inr ⟨g, cap, cur, rfl, h3, (h.block g hlt (hS g rfl)).trans h4, h5⟩⟩
end
/-- .. and the list that lies at la is new. -/
def FrL (P : Nat) (la : Option Addr) (w w' : World) : Prop := Fr (fun k => k = P) w w' ∧ ∀ a, la = some a → w.heap.size ≤ a.block
theorem FrL.trans {P : Nat} {la : Option Addr} {w w' w'' : World} (h : Fr (fun k => k = P) w w') (k : FrL P la w' w'') : FrL P la w w'' := ⟨h.trans k.1, fun a e => Nat.le_trans h.size (k.2 a e)⟩
theorem acc_info3 : (Tryz.prog.info? 42).map (fun i => (i.zero, i.size, i.bytes)) = some (some (.agg #[.int .u8 0, .int .u32 0, .int .u8 0]), 3, 12) := by kernel_rfl
def accZ : Array Value := (Value.agg #[.int .u8 0, .int .u32 0, .int .u8 0]).cells
theorem run_make_acc (n : Nat) (hn : n ≤ 16777216) (W : World) : (Instr.makeSlice 26 (.int .i64 (n : Int)) (.int .i64 (n : Int))).run Tryz.prog W = .ok (.slice (some ⟨W.heap.size, 0, none⟩) n n) (W.alloc (.cells (madeCells accZ (n * 3)) 42)) := by
  obtain ⟨i, hi, hz, hs, hb⟩ := info_parts acc_info3
  have h := run_make (P := Tryz.prog) W 26 42 i _ Tryz.underlying26 hi hz .i64 .i64 n n (by omega) (Int.le_refl _) (by rw [hb]; omega) (by omega)
  simp only [Int.toNat_natCast, hs] at h
  exact h
/-- So many accesses, copied over as many noughts. -/
theorem run_copy_acc (w : World) (ty : TypeId) (G : Nat) (g n c d : Nat) (l : List Ac) (cur : Array Value) (hl : l.length = n) (hG : Whole w G 42 cur) (hc : cur.size = n * 3) (hA : ARow w (some ⟨g, 0, none⟩) l) (h0 : l ≠ []) :
    ∃ w', (Builtin.copy_ #[26, 26] ty #[.slice (some ⟨G, 0, none⟩) n d, .slice (some ⟨g, 0, none⟩) n c]).run Tryz.prog w = .ok (goInt n) w' ∧ Whole w' G 42 (accX l).toArray ∧ Fr (fun k => k = G) w w' := by
  obtain ⟨i, hi, hz, hs, hb⟩ := info_parts acc_info3
  have hlen : (accX l).length = n * 3 := by
    rw [← hl]
    clear hl hG hc hA h0
    induction l with
    | nil => rfl
    | cons x t ih =>
      have e : accX (x :: t) = .int .u8 (x.1 : Nat) :: .int .u32 (x.2.1 : Nat) :: .int .u8 (x.2.2 : Nat) :: accX t := rfl
      rw [e]
      simp only [List.length_cons, ih]
      omega
  have hsrc : ∀ j v, (accX l)[j]? = some v → w.cell? ((⟨g, 0, none⟩ : Addr).add j) = some v := by
    intro j v hv
    have hj : j < n * 3 := by rw [← hlen]; exact (List.getElem?_eq_some_iff.1 hv).1
    rw [Addr.add_lit, Nat.zero_add]
    obtain ⟨a1, a2, a3⟩ := accX_get l (j / 3) (by rw [hl]; omega)
    obtain ⟨c1, c2, c3⟩ := hA.at_ (j / 3) (by rw [hl]; omega)
    rcases (show j = j / 3 * 3 ∨ j = j / 3 * 3 + 1 ∨ j = j / 3 * 3 + 2 by omega) with e | e | e
    · rw [e] at hv ⊢; rw [c1, ← a1]; exact hv
    · rw [e] at hv ⊢; rw [c2, ← a2]; exact hv
    · rw [e] at hv ⊢; rw [c3, ← a3]; exact hv
  have h1 : ∀ v ∈ accX l, v.oneCell' = true := by
    clear hsrc hlen hA hl h0
    induction l with
    | nil => intro v hv; cases hv
    | cons x t ih =>
      intro v hv
      have e : accX (x :: t) = .int .u8 (x.1 : Nat) :: .int .u32 (x.2.1 : Nat) :: .int .u8 (x.2.2 : Nat) :: accX t := rfl
      rw [e] at hv
      rcases List.mem_cons.1 hv with rfl | hv
      · rfl
      rcases List.mem_cons.1 hv with rfl | hv
      · rfl
      rcases List.mem_cons.1 hv with rfl | hv
      · rfl
      exact ih v hv
  have hld := run_loadCells_list (P := Tryz.prog) w ⟨g, 0, none⟩ (accX l) hsrc
  have hst := run_storeCells_at Tryz.prog G 0 42 (accX l) 0 cur w hG (by rw [hlen, hc]; omega) h1
  have hfin : (cur.toList.take (0 + 0) ++ accX l ++ cur.toList.drop (0 + 0 + (accX l).length)).toArray = (accX l).toArray := by
    have hd : cur.toList.drop (0 + 0 + (accX l).length) = [] := by
      apply List.drop_of_length_le
      rw [hlen]
      simp [hc]
    rw [hd]
    simp
  rw [hfin] at hst
  refine ⟨w.setRow G (accX l).toArray, ?_, ?_, ?_⟩
  · rw [hlen] at hld
    simp [Builtin.copy_, run_underlying Tryz.underlying26, Builtin.lenOf, Builtin.firstCells, sizeOf, typeInfo, hi, hs, hld, hst]
  · exact setRow_heap w G cur _ 42 (0, 0) hG
  · exact ⟨rfl, rfl, rfl, by simp [World.setRow], fun k hk hS => by
      simp only [World.setRow, Array.getElem?_modify]
      rw [if_neg (fun e => hS e.symm)]⟩
end Go.Proofs.YtknlbmjncginnaaGreatDoor
