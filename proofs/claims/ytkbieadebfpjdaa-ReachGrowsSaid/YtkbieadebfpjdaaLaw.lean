/-
  The laws' own calls: a direct place is reached; bytes copied; whether accesses are the same.
-/
import Derived.Test.YtkbieadebfpjdaaCourse
import Derived.BigQuiet
namespace Go.Proofs.Ytkbieadebfpjdaa
open Go.RowKit Go.Shelf
set_option maxRecDepth 100000
set_option maxHeartbeats 1000000
set_option linter.unusedVariables false

/-- The first k bytes, then noughts. -/
def firstF (f : Nat → Nat) (k : Nat) : Nat → Nat := fun j => if j < k then f j else 0
theorem firstF_step (f : Nat → Nat) (k : Nat) : upd (firstF f k) k (f k) = firstF f (k + 1) := by
  funext j
  unfold upd firstF
  by_cases e : j = k
  · subst e; simp
  · rw [if_neg e]
    by_cases h : j < k
    · rw [if_pos h, if_pos (by omega)]
    · rw [if_neg h, if_neg (by omega)]
def awakeR : Rg := ⟨0, 0, 0, 0, 1, 32769, 0, 128, 16, false⟩
theorem awakeR_ok : awakeR.Ok := ⟨by decide, by decide, by decide, by decide, by decide, by decide, by decide, by decide, by decide⟩
theorem awake_l : (courseM 5 0 awakeR 1 (fun _ => 32)).2.l = [(1, 8421377), (0, 0)] := by decide +kernel
theorem awake_st : (courseM 5 0 awakeR 1 (fun _ => 32)).2.st = false := by decide +kernel
theorem awake_p : (courseM 5 0 awakeR 1 (fun _ => 32)).1 = (33, true) := by decide +kernel
theorem awake_pc : (courseM 5 0 awakeR 1 (fun _ => 32)).2.r.PC = 32770 := by decide +kernel
theorem awake_course (w : World) (nm : ByteArray) (a : Option Addr) (hR : Row w a 1 (fun _ => 32)) :
    Calls Try.prog 12 #[.agg #[.int .u8 0, .string nm, .int .u8 5, .int .u8 0, .int .u8 0], .agg #[.int .u16 0, .int .u16 0, .int .u16 0, .int .u16 0, .int .u16 1, .int .u16 32769, .int .u8 0, .int .u8 128, .int .u8 16, .bool false], .slice a 1 1] w fun e w' => ∃ g cap, e = .returned (.tuple #[.slice (some ⟨g, 0, none⟩) 2 cap, .agg #[.int .u32 33, .bool true], .int .u16 32770, .bool true]) ∧
      (w'.cell? ⟨g, 0, none⟩ = some (.int .u8 1) ∧ w'.cell? ⟨g, 1, none⟩ = some (.int .u32 8421377) ∧ w'.cell? ⟨g, 2, none⟩ = some (.int .u8 0)) ∧ w.heap.size ≤ g ∧ g < w'.heap.size ∧ Below w.heap.size w w' := by
  refine (course_any 0 nm 5 0 0 awakeR a 1 1 (fun _ => 32) w (by decide) (by decide) awakeR_ok hR (Nat.le_refl _)).mono ?_
  rintro e w' ⟨lv, rfl, ho, hb⟩
  unfold placeOf pcOf
  rw [awake_l] at ho
  rw [awake_st, awake_p, awake_pc]
  obtain ⟨g, cap, rfl, hg, hgl⟩ := ho.form (by decide)
  have hcell := ho.cells (g := g) rfl
  exact ⟨g, cap, rfl, ⟨hcell 0 _ rfl, hcell 1 _ rfl, hcell 2 _ rfl⟩, hg, hgl, hb⟩
theorem awake_any (w : World) : Calls Try.prog 11 #[] w fun e w' => e = .returned (.bool true) ∧ Below w.heap.size w w' := by
  have hmk : ∀ w : World, (Instr.makeSlice 35 (.int .i64 1) (.int .i64 1)).run Try.prog w = .ok (.slice (some ⟨w.heap.size, 0, none⟩) 1 1) (w.alloc (.cells #[.int .u8 0] 5)) := fun _ => by kernel_rfl
  have hX := Whole.fresh w 5 #[.int .u8 32]
  have hB := (Below.refl w.heap.size w).alloc (Nat.le_refl _) (.cells #[.int .u8 32] 5)
  have hR : Row (w.alloc (.cells #[.int .u8 32] 5)) (some ⟨w.heap.size, 0, none⟩) 1 (fun _ => 32) := ⟨fun _ _ => (by show (32 : Nat) < 256; decide), .inr ⟨w.heap.size, 0, rfl, hX.lt, fun i hi => by
    obtain rfl : i = 0 := by omega
    exact hX.cell 0⟩⟩
  have HC := Lib.hid (fun nm => awake_course _ nm _ hR)
  go_enter Try.func11, Try.ntmps11
  go_wp2_with fail
  clear hmk
  refine (HC.out _).mono ?_
  rintro e W1 ⟨g, cap, rfl, ⟨c0, c1, c2⟩, hg, hgl, hb⟩
  have hB1 := hB.trans (hb.mono hB.size)
  have hB2 := hB1.alloc hB1.size (.cells #[.int .u32 33, .bool true] 27)
  have q0 := (Whole.fresh W1 27 #[.int .u32 33, .bool true]).cell 0
  have q1 := (Whole.fresh W1 27 #[.int .u32 33, .bool true]).cell 1
  have d0 := (World.cell?_alloc_lt W1 (.cells #[.int .u32 33, .bool true] 27) ⟨g, 0, none⟩ hgl).trans c0
  have d1 := (World.cell?_alloc_lt W1 (.cells #[.int .u32 33, .bool true] 27) ⟨g, 1, none⟩ hgl).trans c1
  have d2 := (World.cell?_alloc_lt W1 (.cells #[.int .u32 33, .bool true] 27) ⟨g, 2, none⟩ hgl).trans c2
  simp only [List.getElem?_toArray, List.getElem?_cons_zero, List.getElem?_cons_succ] at q0 q1
  clear HC hb hB hB1 c0 c1 c2 hX hR hg hgl
  go_upto_region 4 with (fail)
  generalize W1.alloc (.cells #[.int .u32 33, .bool true] 27) = W2 at *
  generalize W1.heap.size = Q at *
  go_wp2_with fail
  go_ret
  exact ⟨rfl, hB2⟩
theorem copied_any (a : Option Addr) (n cap : Nat) (f : Nat → Nat) (w : World) (h : Row w a n f) (hn : n ≤ 140737488355328) :
    Calls Try.prog 13 #[.slice a n cap] w fun e w' => ∃ G, e = .returned (.slice (some ⟨G, 0, none⟩) n n) ∧ Holds w' G n f ∧ w.heap.size ≤ G ∧ Below w.heap.size w w' := by
  have hmk := fun W => run_make_row' (P := Try.prog) 35 5 (.int .u8 0) 1 Try.underlying35 (by kernel_rfl) rfl .i64 .i64 n (by omega) (by omega) W
  go_enter Try.func13, Try.ntmps13
  go_wp2_with fail
  have hB0 : Below w.heap.size w (w.alloc (Obj.cells (madeCells #[Value.int .u8 0] n) 5)) := (Below.refl _ w).alloc (Nat.le_refl _) _
  have hH0 := holds_of_made (Whole.fresh w 5 (madeCells #[Value.int .u8 0] n))
  generalize (w.alloc (Obj.cells (madeCells #[Value.int .u8 0] n) 5)) = W0 at hB0 hH0 ⊢
  clear hmk
  obtain ⟨G, hG⟩ : ∃ G, w.heap.size = G := ⟨_, rfl⟩
  have hle : w.heap.size ≤ G := by omega
  rw [hG] at hH0 hB0 ⊢
  go_loopw [4] (fun i wr => ∃ k : Nat, k ≤ n ∧ i = .int .i64 k ∧ Holds wr G n (firstF f k) ∧ Below G w wr) (fun i _ => n - (intOf i).toNat)
  case atStart => exact ⟨0, Nat.zero_le _, rfl, hH0.congr (fun i _ => by simp [firstF]), hB0⟩
  case round =>
    obtain ⟨k, hk, rfl, hH, hB⟩ := hrel
    clear hB0 hH0
    by_cases hlt : k < n
    · rcases h with ⟨hb, h0 | ⟨b, o, rfl, hbl, hc⟩⟩
      · omega
      have hck := (hB.cell (p := ⟨b, o + k, none⟩) (show b < G by omega)).trans (hc k hlt)
      have hfk := hH.free k
      have hwk := hH.cell k hlt
      have hx := hb k hlt
      have hP := hH.put k (f k) hx
      rw [firstF_step] at hP
      have hB2 := hB.setCell (p := ⟨G, k, none⟩) (Nat.le_refl _) (.int .u8 (f k : Nat))
      clear hc hH
      generalize f k = x at *
      go_wp2_with fail
      refine ⟨⟨k + 1, by omega, by congr 1, hP, hB2⟩, ?_⟩
      simp only [intOf]
      omega
    · obtain rfl : k = n := by omega
      go_wp2_with fail
      go_ret
      exact ⟨G, rfl, hH.congr (fun i hi => by simp [firstF, hi]), hle, hG ▸ hB⟩
/-- Accesses that are read. -/
def ARow (w : World) (a : Option Addr) (l : List (Nat × Nat)) : Prop :=
  l = [] ∨ ∃ g, a = some ⟨g, 0, none⟩ ∧ g < w.heap.size ∧ ∀ i (h : i < l.length), w.cell? ⟨g, i * 3, none⟩ = some (.int .u8 (l[i].1 : Nat)) ∧ w.cell? ⟨g, i * 3 + 1, none⟩ = some (.int .u32 (l[i].2 : Nat)) ∧ w.cell? ⟨g, i * 3 + 2, none⟩ = some (.int .u8 0)
theorem ARow.below {w w' : World} {a : Option Addr} {l : List (Nat × Nat)} (h : ARow w a l) (hb : Below w.heap.size w w') : ARow w' a l :=
  h.imp id fun ⟨g, e, hg, hc⟩ => ⟨g, e, Nat.lt_of_lt_of_le hg hb.size, fun i hi => by
    obtain ⟨h1, h2, h3⟩ := hc i hi
    exact ⟨(hb.cell (p := ⟨g, i * 3, none⟩) hg).trans h1, (hb.cell (p := ⟨g, i * 3 + 1, none⟩) hg).trans h2, (hb.cell (p := ⟨g, i * 3 + 2, none⟩) hg).trans h3⟩⟩
theorem accV_get : ∀ (l : List (Nat × Nat)) (i : Nat) (h : i < l.length), (accV l)[i * 3]? = some (.int .u8 (l[i].1 : Nat)) ∧ (accV l)[i * 3 + 1]? = some (.int .u32 (l[i].2 : Nat)) ∧ (accV l)[i * 3 + 2]? = some (.int .u8 0)
  | [], i, h => absurd h (Nat.not_lt_zero _)
  | x :: l, 0, _ => ⟨rfl, rfl, rfl⟩
  | x :: l, i + 1, h => by
    have ih := accV_get l i (by simpa using h)
    have e : accV (x :: l) = .int .u8 (x.1 : Nat) :: .int .u32 (x.2 : Nat) :: .int .u8 0 :: accV l := rfl
    rw [e, show (i + 1) * 3 = i * 3 + 1 + 1 + 1 by omega, show i * 3 + 1 + 1 + 1 + 1 = i * 3 + 1 + 1 + 1 + 1 from rfl, show i * 3 + 1 + 1 + 1 + 2 = i * 3 + 2 + 1 + 1 + 1 by omega]
    simp only [List.getElem?_cons_succ, List.getElem_cons_succ]
    exact ih
theorem arow_of {w : World} {B n : Nat} {lv : Value} {l : List (Nat × Nat)} (h : w.ownsRow B 42 3 lv n (accV l)) (hn : n = l.length) : ∃ a c, lv = .slice a l.length c ∧ ARow w a l ∧ l.length ≤ c := by
  subst hn
  rcases h.2 with ⟨rfl, h0⟩ | ⟨g, cap, cur, rfl, _, hw, h1, _⟩
  · exact ⟨none, 0, by rw [h0], .inl (List.eq_nil_of_length_eq_zero h0), by omega⟩
  · have hc := h.cells (g := g) rfl
    refine ⟨_, cap, rfl, .inr ⟨g, rfl, (show Whole w g _ _ from hw).lt, fun i hi => ?_⟩, h1⟩
    obtain ⟨a1, a2, a3⟩ := accV_get l i hi
    have k1 := hc _ _ a1
    have k2 := hc _ _ a2
    have k3 := hc _ _ a3
    rw [Addr.add_lit, Nat.zero_add] at k1 k2 k3
    exact ⟨k1, k2, k3⟩
theorem same_acc (a b : Option Addr) (l : List (Nat × Nat)) (c d : Nat) (w : World) (h1 : ARow w a l) (h2 : ARow w b l) (hn : l.length ≤ 100) :
    Calls Try.prog 14 #[.slice a l.length c, .slice b l.length d] w fun e w' => e = .returned (.bool true) ∧ ∃ q, w' = w.drewN q := by
  have H1 := Lib.hid h1
  have H2 := Lib.hid h2
  clear h1 h2
  go_enter Try.func14, Try.ntmps14
  go_wp2_with fail
  go_loopw [5] (fun si wr => ∃ k : Nat, k ≤ l.length ∧ si = .int .i64 k ∧ Hid (∃ q, wr = w.drewN q)) (fun si _ => l.length - (intOf si).toNat)
  case atStart => exact ⟨0, Nat.zero_le _, rfl, Lib.hid ⟨0, rfl⟩⟩
  case round =>
    obtain ⟨k, hk, rfl, hq⟩ := hrel
    by_cases hlt : k < l.length
    · rcases H1.out with h0 | ⟨g, rfl, hg, hcell⟩
      · rw [h0] at hlt; exact absurd hlt (Nat.not_lt_zero _)
      rcases H2.out with h0 | ⟨g', rfl, hg', hcell'⟩
      · rw [h0] at hlt; exact absurd hlt (Nat.not_lt_zero _)
      obtain ⟨d0, d1, d2⟩ : wr.cell? ⟨g, k * 3, none⟩ = some (.int .u8 (l[k].1 : Nat)) ∧ wr.cell? ⟨g, k * 3 + 1, none⟩ = some (.int .u32 (l[k].2 : Nat)) ∧ wr.cell? ⟨g, k * 3 + 2, none⟩ = some (.int .u8 0) := by
        obtain ⟨q, e⟩ := hq.out
        rw [e]
        exact hcell k hlt
      obtain ⟨e0, e1, e2⟩ : wr.cell? ⟨g', k * 3, none⟩ = some (.int .u8 (l[k].1 : Nat)) ∧ wr.cell? ⟨g', k * 3 + 1, none⟩ = some (.int .u32 (l[k].2 : Nat)) ∧ wr.cell? ⟨g', k * 3 + 2, none⟩ = some (.int .u8 0) := by
        obtain ⟨q, e⟩ := hq.out
        rw [e]
        exact hcell' k hlt
      clear hcell hcell'
      generalize l[k].1 = x at *
      generalize l[k].2 = y at *
      go_wp2_with fail
      go_quiet (fail)
      go_wp2_with fail
      go_roundw
      case rel => exact ⟨k + 1, by omega, by go_num, Lib.hid (by obtain ⟨q, e⟩ := hq.out; exact ⟨q + nq, by rw [e]; simp [World.drewN, Nat.add_assoc]⟩)⟩
      case measure => simp [intOf]; omega
    · obtain rfl : k = l.length := by omega
      go_wp2_with fail
      go_ret
      exact ⟨rfl, hq.out⟩
end Go.Proofs.Ytkbieadebfpjdaa
