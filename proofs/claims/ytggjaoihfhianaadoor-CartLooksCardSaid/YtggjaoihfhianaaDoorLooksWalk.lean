/-
  CartLooks: the walk.
-/
import Derived.Test.YtggjaoihfhianaaDoorImg
import Derived.Test.YtggjaoihfhianaaDoorRScore
import Derived.Laws.StructEq
import Derived.Lib.QuietBelow
namespace Go.Proofs.YtggjaoihfhianaaDoor
open Go.RowKit Go.Shelf Go.Sort
set_option maxRecDepth 100000
set_option maxHeartbeats 2000000

theorem eq_card (t : ByteArray) (m k r c s z : Int) (w : World) : (binOp .eql 39 (.agg #[.string t, .int .u8 m, .int .u8 k, .int .u8 r, .int .u16 c, .int .u16 s, .int .u16 z]) (.agg #[.string t, .int .u8 m, .int .u8 k, .int .u8 r, .int .u16 c, .int .u16 s, .int .u16 z])).run Tryd.prog w = .ok (.bool true) w := by
  have hS : Tryd.prog.underlying 39 = some (.struct (Tryd.prog.fieldsOf 39)) := by kernel_rfl
  have hp : Tryd.prog.stoodInHeld 39 = false := by kernel_rfl
  rw [run_eql_struct, show (10000 : Nat) = 9999 + 1 from rfl, run_equalIn_agg w 9999 39 _ _ hS hp]
  simp only [Program.fieldsOf, Tryd.underlying39]
  go_simp
theorem strN_size (f : Nat → Nat) (n : Nat) : (strN f n).size = n := by simp [strN, strOfNums, ByteArray.size]
/-- What Look answers, laid open. -/
theorem lookV_form (l n : Nat) (f : Nat → Nat) (h : ∀ i, i < n → f i < 256) : ∃ (t : ByteArray) (m k r c s z : Nat) (e : Int), lookV l n f = .tuple #[cardA t m k r c s z, .int .i64 e] ∧ t.size ≤ 9223372036854775807 ∧ m < 256 ∧ c < 65536 ∧ s < 65536 := by
  unfold lookV
  by_cases h1 : 1 ≤ l ∧ l ≤ 3
  · rw [if_neg (by omega)]
    by_cases h2 : n < posOf l + 64
    · rw [if_pos h2]
      exact ⟨⟨#[]⟩, 0, 0, 0, 0, 0, 0, 5, rfl, by decide, by decide, by decide, by decide⟩
    · rw [if_neg h2]
      have hb : ∀ i, i < 64 → at' f (posOf l) i < 256 := fun i hi => h (posOf l + i) (by omega)
      refine ⟨_, _, _, _, _, _, _, 0, rfl, ?_, hb 21 (by decide), ?_, ?_⟩
      · unfold titleS
        rw [strN_size]
        have := trimN_le (at' f (posOf l)) 21
        omega
      · have h1 := hb 28 (by decide)
        have h2 := hb 29 (by decide)
        omega
      · have h1 := hb 30 (by decide)
        have h2 := hb 31 (by decide)
        omega
  · rw [if_pos h1]
    exact ⟨⟨#[]⟩, 0, 0, 0, 0, 0, 0, 2, rfl, by decide, by decide, by decide, by decide⟩

namespace cartLooks
theorem walkN (size : Int) (kb : Nat) (a : Option Addr) (len cap : Nat) (ps : Nat → Patch1) (l : Nat) (t : ByteArray) (m k r c s z : Nat) (w : World) (hs0 : -9223372036854775808 ≤ size) (hs1 : size ≤ 9223372036854775807) (hkb : kb < 256) (h : Patches w a len ps)
    (hl : l < 256) (ht : t.size ≤ 9223372036854775807) (hm : m < 256) (hc : c < 65536) (hs : s < 65536) :
    Calls Tryd.prog 4 #[.agg #[.int .i64 size, .int .u8 kb, .slice a len cap], .int .u8 l, cardA t m k r c s z] w fun e w' => e = .returned (.bool true) ∧ Below w.heap.size w w' := by
  have HI := Lib.hid (fun W (hW : Patches W a len ps) => img_any size kb a len cap ps W hs0 hs1 hkb hW)
  have hn := imgN_le size
  generalize imgN size = n at *
  generalize img kb ps len = f at *
  have HS1 := Lib.hid (fun W => score_any t m k r c s z l W hl ht hm)
  have HS2 := Lib.hid (fun W => rscore_any t m k r c s z l W hl ht hm hc hs)
  generalize scoreV t m c s z l = sc at *
  unfold cardA at *
  go_enter Tryd.func4, Tryd.ntmps4
  go_wp2_with fail
  have hB0 : Below w.heap.size w ((w.alloc (Obj.cells #[.int .i64 size, .int .u8 kb, .slice a len cap] 24)).alloc (Obj.cells #[.string t, .int .u8 m, .int .u8 k, .int .u8 r, .int .u16 c, .int .u16 s, .int .u16 z] 39)) := ((Below.refl _ w).alloc (Nat.le_refl _) _).alloc (by simp) _
  have hX := Whole.fresh (w.alloc (Obj.cells #[.int .i64 size, .int .u8 kb, .slice a len cap] 24)) 39 #[.string t, .int .u8 m, .int .u8 k, .int .u8 r, .int .u16 c, .int .u16 s, .int .u16 z]
  rw [World.size_alloc] at hX
  have hP := h.below hB0
  generalize ((w.alloc (Obj.cells #[.int .i64 size, .int .u8 kb, .slice a len cap] 24)).alloc (Obj.cells #[.string t, .int .u8 m, .int .u8 k, .int .u8 r, .int .u16 c, .int .u16 s, .int .u16 z] 39)) = W0 at hX hB0 hP ⊢
  refine (HI.out W0 hP).mono ?_
  rintro e w1 ⟨G, rfl, hG, hGe, hB1⟩
  have hX1 := hX.below hB1 hX.lt
  have hBa := hB0.trans (hB1.mono hB0.size)
  obtain ⟨t', m', k', r', c', s', z', e', hv, ht', hm', hc', hs'⟩ := lookV_form l n f (fun i hi => hG.byte i hi)
  have HL := Lib.hid (fun W (hW : Holds W G n f) => look_any l n n (some ⟨G, 0, none⟩) f W hl (Nat.le_refl _) hW.row)
  have HR := Lib.hid (fun W (hW : Holds W G n f) => rlook_any l n n (some ⟨G, 0, none⟩) f W hl hn (Nat.le_refl _) hW.row)
  rw [hv] at HL HR
  have HS3 := Lib.hid (fun W => score_any t' m' k' r' c' s' z' l W hl ht' hm')
  have HS4 := Lib.hid (fun W => rscore_any t' m' k' r' c' s' z' l W hl ht' hm' hc' hs')
  generalize scoreV t' m' c' s' z' l = sc' at *
  unfold cardA at *
  clear hX hB0 hP hB1 hv h HI hGe
  go_wp2_with fail
  refine (HR.out w1 hG).mono ?_
  rintro e w2 ⟨rfl, hB2⟩
  have hX2 := hX1.below hB2 hX1.lt
  have hG2 := hG.below hB2 hG.lt
  have hBb := hBa.trans (hB2.mono hBa.size)
  clear hX1 hG hBa hB2
  go_wp2_with fail
  have hX3 := hX2.alloc (Obj.cells #[.string t', .int .u8 m', .int .u8 k', .int .u8 r', .int .u16 c', .int .u16 s', .int .u16 z'] 39)
  have hG3 := hG2.alloc (Obj.cells #[.string t', .int .u8 m', .int .u8 k', .int .u8 r', .int .u16 c', .int .u16 s', .int .u16 z'] 39)
  have hBc := hBb.alloc hBb.size (Obj.cells #[.string t', .int .u8 m', .int .u8 k', .int .u8 r', .int .u16 c', .int .u16 s', .int .u16 z'] 39)
  have hY3 := Whole.fresh w2 39 #[.string t', .int .u8 m', .int .u8 k', .int .u8 r', .int .u16 c', .int .u16 s', .int .u16 z']
  generalize (w2.alloc (Obj.cells #[.string t', .int .u8 m', .int .u8 k', .int .u8 r', .int .u16 c', .int .u16 s', .int .u16 z'] 39)) = W3 at hX3 hG3 hBc hY3 ⊢
  clear hX2 hG2 hBb
  refine (HL.out W3 hG3).mono ?_
  rintro e w4 ⟨rfl, hB4⟩
  have hX4 := hX3.below hB4 hX3.lt
  have hY4 := hY3.below hB4 hY3.lt
  have hBd := hBc.trans (hB4.mono hBc.size)
  clear hX3 hY3 hG3 hBc hB4
  go_wp2_with fail
  have hX5 := hX4.alloc (Obj.cells #[.string t', .int .u8 m', .int .u8 k', .int .u8 r', .int .u16 c', .int .u16 s', .int .u16 z'] 39)
  have hY5 := hY4.alloc (Obj.cells #[.string t', .int .u8 m', .int .u8 k', .int .u8 r', .int .u16 c', .int .u16 s', .int .u16 z'] 39)
  have hBe := hBd.alloc hBd.size (Obj.cells #[.string t', .int .u8 m', .int .u8 k', .int .u8 r', .int .u16 c', .int .u16 s', .int .u16 z'] 39)
  have hZ5 := Whole.fresh w4 39 #[.string t', .int .u8 m', .int .u8 k', .int .u8 r', .int .u16 c', .int .u16 s', .int .u16 z']
  generalize (w4.alloc (Obj.cells #[.string t', .int .u8 m', .int .u8 k', .int .u8 r', .int .u16 c', .int .u16 s', .int .u16 z'] 39)) = W5 at hX5 hY5 hBe hZ5 ⊢
  clear hX4 hY4 hBd HL HR
  have heq := eq_card t' m' k' r' c' s' z'
  have xx0 := cell_regrown (show W5.cell? ⟨_, 0, none⟩ = some _ from hX5.cell 0)
  have xx1 := cell_regrown (show W5.cell? ⟨_, 1, none⟩ = some _ from hX5.cell 1)
  have xx2 := cell_regrown (show W5.cell? ⟨_, 2, none⟩ = some _ from hX5.cell 2)
  have xx3 := cell_regrown (show W5.cell? ⟨_, 3, none⟩ = some _ from hX5.cell 3)
  have xx4 := cell_regrown (show W5.cell? ⟨_, 4, none⟩ = some _ from hX5.cell 4)
  have xx5 := cell_regrown (show W5.cell? ⟨_, 5, none⟩ = some _ from hX5.cell 5)
  have xx6 := cell_regrown (show W5.cell? ⟨_, 6, none⟩ = some _ from hX5.cell 6)
  have yy0 := cell_regrown (show W5.cell? ⟨_, 0, none⟩ = some _ from hY5.cell 0)
  have yy1 := cell_regrown (show W5.cell? ⟨_, 1, none⟩ = some _ from hY5.cell 1)
  have yy2 := cell_regrown (show W5.cell? ⟨_, 2, none⟩ = some _ from hY5.cell 2)
  have yy3 := cell_regrown (show W5.cell? ⟨_, 3, none⟩ = some _ from hY5.cell 3)
  have yy4 := cell_regrown (show W5.cell? ⟨_, 4, none⟩ = some _ from hY5.cell 4)
  have yy5 := cell_regrown (show W5.cell? ⟨_, 5, none⟩ = some _ from hY5.cell 5)
  have yy6 := cell_regrown (show W5.cell? ⟨_, 6, none⟩ = some _ from hY5.cell 6)
  have zz0 := cell_regrown (show W5.cell? ⟨_, 0, none⟩ = some _ from hZ5.cell 0)
  have zz1 := cell_regrown (show W5.cell? ⟨_, 1, none⟩ = some _ from hZ5.cell 1)
  have zz2 := cell_regrown (show W5.cell? ⟨_, 2, none⟩ = some _ from hZ5.cell 2)
  have zz3 := cell_regrown (show W5.cell? ⟨_, 3, none⟩ = some _ from hZ5.cell 3)
  have zz4 := cell_regrown (show W5.cell? ⟨_, 4, none⟩ = some _ from hZ5.cell 4)
  have zz5 := cell_regrown (show W5.cell? ⟨_, 5, none⟩ = some _ from hZ5.cell 5)
  have zz6 := cell_regrown (show W5.cell? ⟨_, 6, none⟩ = some _ from hZ5.cell 6)
  have hG := Lib.hid hBe
  clear hX5 hY5 hZ5 hBe
  refine wp_region_quiet_below (by kernel_rfl) (by kernel_rfl) ?_
  repeat (quiet_step (first
    | (go_at_call 16; first | (with_reducible exact Calls.regrown_of (HS1.out _)) | (with_reducible exact Calls.regrown_of (HS3.out _)))
    | (go_at_call 17; first | (with_reducible exact Calls.regrown_of (HS2.out _)) | (with_reducible exact Calls.regrown_of (HS4.out _)))))
  refine wpQuiet_nil ?_
  intro _ hw'
  obtain ⟨⟨dq, osq⟩, hw''⟩ := hw'
  subst hw''
  go_wp2_with fail
  go_ret
  exact ⟨rfl, hG.out.trans ((below_regrown W5 dq osq).mono hG.out.size)⟩
end cartLooks
end Go.Proofs.YtggjaoihfhianaaDoor
