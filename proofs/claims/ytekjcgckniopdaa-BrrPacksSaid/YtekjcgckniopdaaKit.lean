/-
  The kit's calls on bytes: a copy, whether they are the same, writing over.
-/
import Derived.Test.YtekjcgckniopdaaMem
namespace Go.Proofs.Ytekjcgckniopdaa
open Go.RowKit Go.Shelf
set_option maxRecDepth 100000
set_option maxHeartbeats 1000000

/-- The first k bytes, then noughts. -/
def first (f : Nat → Nat) (k : Nat) : Nat → Nat := fun j => if j < k then f j else 0
theorem first_step (f : Nat → Nat) (k : Nat) : upd (first f k) k (f k) = first f (k + 1) := by
  funext j
  unfold upd first
  by_cases e : j = k
  · subst e; simp
  · rw [if_neg e]
    by_cases h : j < k
    · rw [if_pos h, if_pos (by omega)]
    · rw [if_neg h, if_neg (by omega)]
theorem copy_any (a : Option Addr) (n cap : Nat) (f : Nat → Nat) (w : World) (h : Row w a n f) (hn : n ≤ 140737488355328) :
    Calls Try.prog 11 #[.slice a n cap] w fun e w' => ∃ G, e = .returned (.slice (some ⟨G, 0, none⟩) n n) ∧ Holds w' G n f ∧ w.heap.size ≤ G ∧ Below w.heap.size w w' := by
  have hmk := fun W => run_make_row' (P := Try.prog) 22 5 (.int .u8 0) 1 Try.underlying22 (by kernel_rfl) rfl .i64 .i64 n (by omega) (by omega) W
  go_enter Try.func11, Try.ntmps11
  go_wp2_with fail
  have hB0 : Below w.heap.size w (w.alloc (Obj.cells (madeCells #[Value.int .u8 0] n) 5)) := (Below.refl _ w).alloc (Nat.le_refl _) _
  have hH0 := holds_of_made (Whole.fresh w 5 (madeCells #[Value.int .u8 0] n))
  generalize (w.alloc (Obj.cells (madeCells #[Value.int .u8 0] n) 5)) = W0 at hB0 hH0 ⊢
  clear hmk
  obtain ⟨G, hG⟩ : ∃ G, w.heap.size = G := ⟨_, rfl⟩
  have hle : w.heap.size ≤ G := by omega
  rw [hG] at hH0 hB0 ⊢
  go_loopw [4] (fun i wr => ∃ k : Nat, k ≤ n ∧ i = .int .i64 k ∧ Holds wr G n (first f k) ∧ Below G w wr) (fun i _ => n - (intOf i).toNat)
  case atStart => exact ⟨0, Nat.zero_le _, rfl, hH0.congr (fun i _ => by simp [first]), hB0⟩
  case round =>
    obtain ⟨k, hk, rfl, hH, hB⟩ := hrel
    clear hB0 hH0
    by_cases hlt : k < n
    · rcases h with ⟨hb, h0 | ⟨b, o, rfl, hbl, hc⟩⟩
      · omega
      have hck := (hB.cell (p := ⟨b, o + k, none⟩) (show b < G by omega)).trans (hc k hlt)
      have hfk := hH.free k
      have hwk := hH.cell k hlt
      have hx := hb k hlt
      have hP := hH.put k (f k) hx
      rw [first_step] at hP
      have hB2 := hB.setCell (p := ⟨G, k, none⟩) (Nat.le_refl _) (.int .u8 (f k : Nat))
      clear hc hH
      generalize f k = x at *
      go_wp2_with fail
      refine ⟨⟨k + 1, by omega, by congr 1, hP, hB2⟩, ?_⟩
      simp only [intOf]
      omega
    · obtain rfl : k = n := by omega
      go_wp2_with fail
      go_ret
      exact ⟨G, rfl, hH.congr (fun i hi => by simp [first, hi]), hle, hG ▸ hB⟩
theorem same_any (a b : Option Addr) (n c d : Nat) (f : Nat → Nat) (w : World) (h1 : Row w a n f) (h2 : Row w b n f) (hn : n ≤ 140737488355328) :
    Calls Try.prog 15 #[.slice a n c, .slice b n d] w fun e w' => e = .returned (.bool true) ∧ ∃ q, w' = w.drewN q := by
  have H1 := Lib.hid h1
  have H2 := Lib.hid h2
  clear h1 h2
  go_enter Try.func15, Try.ntmps15
  go_wp2_with fail
  go_loopw [5] (fun si wr => ∃ k : Nat, k ≤ n ∧ si = .int .i64 k ∧ Hid (∃ q, wr = w.drewN q)) (fun si _ => n - (intOf si).toNat)
  case atStart => exact ⟨0, Nat.zero_le _, rfl, Lib.hid ⟨0, rfl⟩⟩
  case round =>
    obtain ⟨k, hk, rfl, hq⟩ := hrel
    by_cases hlt : k < n
    · rcases H1.out with ⟨hx, h0 | ⟨b, o, rfl, hb, hcell⟩⟩
      · omega
      rcases H2.out with ⟨_, h0 | ⟨b', o', rfl, hb', hcell'⟩⟩
      · omega
      have d1 : wr.cell? ⟨b, o + k, none⟩ = some (.int .u8 (f k : Nat)) := by
        obtain ⟨q, e⟩ := hq.out
        rw [e]
        exact hcell k hlt
      have d2 : wr.cell? ⟨b', o' + k, none⟩ = some (.int .u8 (f k : Nat)) := by
        obtain ⟨q, e⟩ := hq.out
        rw [e]
        exact hcell' k hlt
      clear hx hcell hcell'
      generalize f k = z at d1 d2
      go_wp2_with fail
      go_quiet (fail)
      go_wp2_with fail
      go_roundw
      case rel => exact ⟨k + 1, by omega, by go_num, Lib.hid (by obtain ⟨q, e⟩ := hq.out; exact ⟨q + nq, by rw [e]; simp [World.drewN, Nat.add_assoc]⟩)⟩
      case measure => simp [intOf]; omega
    · obtain rfl : k = n := by omega
      go_wp2_with fail
      go_ret
      exact ⟨rfl, hq.out⟩
end Go.Proofs.Ytekjcgckniopdaa
