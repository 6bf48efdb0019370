/-
  Bytes copied; bytes held against bytes.
-/
import Derived.Test.YtknlbmjncginnaaGreatDoorTCr
import Derived.Deep.QuietTactic
namespace Go.Proofs.YtknlbmjncginnaaGreatDoor
open Go.RowKit Go.Shelf
set_option maxRecDepth 100000
set_option maxHeartbeats 1000000
set_option linter.unusedVariables false

/-- The first k bytes, then noughts. -/
def firstF (f : Nat → Nat) (k : Nat) : Nat → Nat := fun j => if j < k then f j else 0
theorem firstF_step (f : Nat → Nat) (k : Nat) : upd (firstF f k) k (f k) = firstF f (k + 1) := by
  funext j
  unfold upd firstF
  by_cases e : j = k
  · subst e; simp
  · rw [if_neg e]
    by_cases h : j < k
    · rw [if_pos h, if_pos (by omega)]
    · rw [if_neg h, if_neg (by omega)]
theorem copied_any (a : Option Addr) (n cap : Nat) (f : Nat → Nat) (w : World) (h : Row w a n f) (hn : n ≤ 140737488355328) :
    Calls Tryz.prog 15 #[.slice a n cap] w fun e w' => ∃ G, e = .returned (.slice (some ⟨G, 0, none⟩) n n) ∧ Holds w' G n f ∧ w.heap.size ≤ G ∧ Below w.heap.size w w' := by
  have hmk := fun W => run_make_row' (P := Tryz.prog) 25 5 (.int .u8 0) 1 Tryz.underlying25 (by kernel_rfl) rfl .i64 .i64 n (by omega) (by omega) W
  go_enter Tryz.func15, Tryz.ntmps15
  go_wp2_with fail
  have hB0 : Below w.heap.size w (w.alloc (Obj.cells (madeCells #[Value.int .u8 0] n) 5)) := (Below.refl _ w).alloc (Nat.le_refl _) _
  have hH0 := holds_of_made (Whole.fresh w 5 (madeCells #[Value.int .u8 0] n))
  generalize (w.alloc (Obj.cells (madeCells #[Value.int .u8 0] n) 5)) = W0 at hB0 hH0 ⊢
  clear hmk
  obtain ⟨G, hG⟩ : ∃ G, w.heap.size = G := ⟨_, rfl⟩
  have hle : w.heap.size ≤ G := by omega
  rw [hG] at hH0 hB0 ⊢
  go_loopw [4] (fun i wr => ∃ k : Nat, k ≤ n ∧ i = .int .i64 k ∧ Holds wr G n (firstF f k) ∧ Below G w wr) (fun i _ => n - (intOf i).toNat)
  case atStart => exact ⟨0, Nat.zero_le _, rfl, hH0.congr (fun i _ => by simp [firstF]), hB0⟩
  case round =>
    obtain ⟨k, hk, rfl, hH, hB⟩ := hrel
    clear hB0 hH0
    by_cases hlt : k < n
    · rcases h with ⟨hb, h0 | ⟨b, o, rfl, hbl, hc⟩⟩
      · omega
      have hck := (hB.cell (p := ⟨b, o + k, none⟩) (show b < G by omega)).trans (hc k hlt)
      have hfk := hH.free k
      have hwk := hH.cell k hlt
      have hx := hb k hlt
      have hP := hH.put k (f k) hx
      rw [firstF_step] at hP
      have hB2 := hB.setCell (p := ⟨G, k, none⟩) (Nat.le_refl _) (.int .u8 (f k : Nat))
      clear hc hH
      generalize f k = x at *
      go_wp2_with fail
      refine ⟨⟨k + 1, by omega, by congr 1, hP, hB2⟩, ?_⟩
      simp only [intOf]
      omega
    · obtain rfl : k = n := by omega
      go_wp2_with fail
      go_ret
      exact ⟨G, rfl, hH.congr (fun i hi => by simp [firstF, hi]), hle, hG ▸ hB⟩
theorem kit_same (a b : Option Addr) (n c d : Nat) (f : Nat → Nat) (w : World) (h1 : Row w a n f) (h2 : Row w b n f) (hn : n ≤ 140737488355328) :
    Calls Tryz.prog 18 #[.slice a n c, .slice b n d] w fun e w' => e = .returned (.bool true) ∧ Below w.heap.size w w' := by
  have H1 := Lib.hid h1
  have H2 := Lib.hid h2
  clear h1 h2
  go_enter Tryz.func18, Tryz.ntmps18
  go_wp2_with fail
  go_loopw [5] (fun si wr => ∃ k : Nat, k ≤ n ∧ si = .int .i64 k ∧ Hid (∃ q, wr = w.drewN q)) (fun si _ => n - (intOf si).toNat)
  case atStart => exact ⟨0, Nat.zero_le _, rfl, Lib.hid ⟨0, rfl⟩⟩
  case round =>
    obtain ⟨k, hk, rfl, hq⟩ := hrel
    by_cases hlt : k < n
    · rcases H1.out with ⟨hx, h0 | ⟨b, o, rfl, hb, hcell⟩⟩
      · omega
      rcases H2.out with ⟨_, h0 | ⟨b', o', rfl, hb', hcell'⟩⟩
      · omega
      have d1 : wr.cell? ⟨b, o + k, none⟩ = some (.int .u8 (f k : Nat)) := by
        obtain ⟨q, e⟩ := hq.out
        rw [e]
        exact hcell k hlt
      have d2 : wr.cell? ⟨b', o' + k, none⟩ = some (.int .u8 (f k : Nat)) := by
        obtain ⟨q, e⟩ := hq.out
        rw [e]
        exact hcell' k hlt
      clear hx hcell hcell'
      generalize f k = z at d1 d2
      go_wp2_with fail
      go_quiet (fail)
      go_wp2_with fail
      go_roundw
      case rel => exact ⟨k + 1, by omega, by go_num, Lib.hid (by obtain ⟨q, e⟩ := hq.out; exact ⟨q + nq, by rw [e]; simp [World.drewN, Nat.add_assoc]⟩)⟩
      case measure => simp [intOf]; omega
    · obtain rfl : k = n := by omega
      go_wp2_with fail
      go_ret
      exact ⟨rfl, below_drawn (Below.refl _ _) hq.out⟩
/-- An owned row of bytes is read as one. -/
theorem own_row {W : World} {B n : Nat} {v : Value} {l : List Nat} (h : W.ownsRow B 5 1 v n (l.map fun x => Value.int .u8 (x : Nat))) (hn : n = l.length) (hl : ∀ x ∈ l, x < 256) :
    ∃ a c, v = .slice a l.length c ∧ Row W a l.length (fun i => l.getD i 0) ∧ l.length ≤ c := by
  subst hn
  rcases h.2 with ⟨rfl, h0⟩ | ⟨g, cap, cur, rfl, _, hw, h1, _⟩
  · exact ⟨none, 0, by rw [h0], by rw [h0]; exact Row.nil _ _ _, by omega⟩
  · have hc := h.cells (g := g) rfl
    refine ⟨_, cap, rfl, ⟨fun i hi => ?_, .inr ⟨g, 0, rfl, (show Whole W g _ _ from hw).lt, fun i hi => ?_⟩⟩, h1⟩
    · show l.getD i 0 < 256
      rw [List.getD_eq_getElem?_getD, List.getElem?_eq_getElem hi]
      exact hl _ (List.getElem_mem hi)
    · have := hc i (.int .u8 (l[i] : Nat)) (by rw [List.getElem?_map, List.getElem?_eq_getElem hi]; rfl)
      rw [Addr.add_lit] at this
      rw [this]
      show some (Value.int .u8 (l[i] : Nat)) = some (Value.int .u8 (l.getD i 0 : Nat))
      rw [List.getD_eq_getElem?_getD, List.getElem?_eq_getElem hi]
      rfl
/-- Accesses held against the same ones. -/
theorem same_acc (a b : Option Addr) (c d : Nat) (l : List Ac) (w : World) (h1 : ARow w a l) (h2 : ARow w b l) (hn : l.length ≤ 140737488355328) :
    Calls Tryz.prog 17 #[.slice a l.length c, .slice b l.length d] w fun e w' => e = .returned (.bool true) ∧ Below w.heap.size w w' := by
  have H1 := Lib.hid h1
  have H2 := Lib.hid h2
  obtain ⟨n, hL⟩ : ∃ n, l.length = n := ⟨_, rfl⟩
  rw [hL] at hn ⊢
  replace hL := Lib.hid hL
  clear h1 h2
  go_enter Tryz.func17, Tryz.ntmps17
  go_wp2_with fail
  go_loopw [5] (fun si wr => ∃ k : Nat, k ≤ n ∧ si = .int .i64 k ∧ Hid (∃ q, wr = w.drewN q)) (fun si _ => n - (intOf si).toNat)
  case atStart => exact ⟨0, Nat.zero_le _, rfl, Lib.hid ⟨0, rfl⟩⟩
  case round =>
    obtain ⟨k, hk, rfl, hq⟩ := hrel
    by_cases hlt : k < n
    · have hkl : k < l.length := by rw [hL.out]; exact hlt
      have hl0 : l ≠ [] := fun e => by rw [e] at hkl; exact absurd hkl (Nat.not_lt_zero _)
      obtain ⟨g, rfl⟩ := H1.out.some hl0
      obtain ⟨g', rfl⟩ := H2.out.some hl0
      have a1 := H1.out.at_ k hkl
      have a2 := H2.out.at_ k hkl
      have d1 : wr.cell? ⟨g, k * 3, none⟩ = some (.int .u8 (l[k].1 : Nat)) ∧ wr.cell? ⟨g, k * 3 + 1, none⟩ = some (.int .u32 (l[k].2.1 : Nat)) ∧ wr.cell? ⟨g, k * 3 + 2, none⟩ = some (.int .u8 (l[k].2.2 : Nat)) := by
        obtain ⟨q, e⟩ := hq.out
        rw [e]
        exact a1
      have d2 : wr.cell? ⟨g', k * 3, none⟩ = some (.int .u8 (l[k].1 : Nat)) ∧ wr.cell? ⟨g', k * 3 + 1, none⟩ = some (.int .u32 (l[k].2.1 : Nat)) ∧ wr.cell? ⟨g', k * 3 + 2, none⟩ = some (.int .u8 (l[k].2.2 : Nat)) := by
        obtain ⟨q, e⟩ := hq.out
        rw [e]
        exact a2
      clear a1 a2 hl0
      generalize l[k] = x at d1 d2
      obtain ⟨xk, xa, xv⟩ := x
      obtain ⟨q0, q1, q2⟩ := d1
      obtain ⟨p0, p1, p2⟩ := d2
      dsimp only at q0 q1 q2 p0 p1 p2
      clear hkl
      go_wp2_with fail
      go_quiet (fail)
      go_wp2_with fail
      go_roundw
      case rel => exact ⟨k + 1, by omega, by go_num, Lib.hid (by obtain ⟨q, e⟩ := hq.out; exact ⟨q + nq, by rw [e]; simp [World.drewN, Nat.add_assoc]⟩)⟩
      case measure => simp [intOf]; omega
    · obtain rfl : k = n := by omega
      go_wp2_with fail
      go_ret
      obtain ⟨q, e⟩ := hq.out
      exact ⟨rfl, by rw [e]; exact below_drewN (Below.refl _ _) q⟩
theorem ARow.front {w : World} {a : Option Addr} {l m : List Ac} (h : ARow w a l) (hp : m <+: l) : ARow w a m := by
  obtain ⟨t, rfl⟩ := hp
  by_cases hm : m = []
  · exact .inl hm
  rcases h with h | ⟨g, rfl, hw, hc⟩
  · exact .inl (List.append_eq_nil_iff.1 h).1
  · refine .inr ⟨g, rfl, hw, fun i hi => ?_⟩
    have := hc i (by simp; omega)
    rw [List.getElem_append_left hi] at this
    exact this
end Go.Proofs.YtknlbmjncginnaaGreatDoor
