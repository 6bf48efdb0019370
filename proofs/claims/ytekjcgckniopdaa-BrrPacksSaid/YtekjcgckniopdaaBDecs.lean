/-
  Decode: by the code, by the document; samples that are the same.
-/
import Derived.Test.YtekjcgckniopdaaBDec
import Derived.Test.YtekjcgckniopdaaKit
import Derived.Lib.QuietBelow
namespace Go.Proofs.Ytekjcgckniopdaa
open Go.RowKit Go.Shelf
set_option maxRecDepth 100000
set_option maxHeartbeats 2000000
set_option linter.unusedVariables false
set_option linter.unusedSimpArgs false

/-- Decode by the code: not nine bytes. -/
theorem cdecode_no (w : World) (a : Option Addr) (n c : Nat) (p q : Int) (hn : n ≠ 9) : Calls Try.prog 13 #[.slice a n c, .int .i16 p, .int .i16 q] w fun e w' => e = .returned (.tuple #[.slice none 0 0, .int .i64 2]) ∧ w' = w := by
  have hd : ((n : Int) == 9) = false := beq_eq_false_iff_ne.2 (by omega)
  go_enter Try.func13, Try.ntmps13
  go_wp2_with fail
  exact bodyPost_ret (results_tmp2 rfl _ _ _) rfl ⟨rfl, rfl⟩
theorem rdecode_no (w : World) (a : Option Addr) (n c : Nat) (p q : Int) (hn : n ≠ 9) : Calls Try.prog 12 #[.slice a n c, .int .i16 p, .int .i16 q] w fun e w' => e = .returned (.tuple #[.slice none 0 0, .int .i64 2]) ∧ w' = w := by
  have hd : ((n : Int) == 9) = false := beq_eq_false_iff_ne.2 (by omega)
  go_enter Try.func12, Try.ntmps12
  go_wp2_with fail
  exact bodyPost_ret (results_tmp2 rfl _ _ _) rfl ⟨rfl, rfl⟩
theorem cdecode_any (w : World) (a : Option Addr) (c : Nat) (g : Nat → Nat) (p q : Int) (hR : Row w a 9 g) (hp : Smp p) (hq : Smp q) : Calls Try.prog 13 #[.slice a 9 c, .int .i16 p, .int .i16 q] w fun e w' => ∃ s, e = .returned (.tuple #[s, .int .i64 0]) ∧ w'.ownsRow w.heap.size 23 1 s 16 (outL g p q 16) ∧ Below w.heap.size w w' := by
  have ha : ∀ p, a = some p → p.block < w.heap.size := by
    intro p hp
    rcases hR with ⟨_, h | ⟨b, o, rfl, hlt, _⟩⟩
    · omega
    · cases hp; exact hlt
  have H := Lib.hid (decode_any w w.heap.size 0 c (.slice none 0 0) [] a g p q (World.ownsRow_nil w _ _ _) (Nat.le_refl _) hR ha hp hq (by omega))
  generalize stB g p q 16 = E at *
  clear hR ha
  unfold Smp at hp hq
  go_enter Try.func13, Try.ntmps13
  go_wp2_with fail
  refine H.out.mono ?_
  rintro e w' ⟨s', rfl, hO, hB⟩
  have hf := Lib.hid (And.intro (hO.alloc (.cells #[.int .i64 E.1, .int .i64 E.2] 55)) (hB.alloc hB.size (.cells #[.int .i64 E.1, .int .i64 E.2] 55)))
  clear hO hB
  go_wp2_with fail
  exact bodyPost_ret (results_tmp2 rfl _ _ _) rfl ⟨_, rfl, by have := hf.out.1; rw [List.nil_append, Nat.zero_add] at this; exact this, hf.out.2⟩
theorem rdecode_any (w : World) (a : Option Addr) (c : Nat) (g : Nat → Nat) (p q : Int) (hR : Row w a 9 g) (hp : Smp p) (hq : Smp q) : Calls Try.prog 12 #[.slice a 9 c, .int .i16 p, .int .i16 q] w fun e w' => ∃ s, e = .returned (.tuple #[s, .int .i64 0]) ∧ w'.ownsRow w.heap.size 23 1 s 16 (outL g p q 16) ∧ Below w.heap.size w w' := by
  obtain ⟨j0, hj0, hz0, hz1, hz2⟩ := info_parts info23
  have hRh := Lib.hid hR
  rcases hR with ⟨hb, h | ⟨b, o, rfl, hlt, hc⟩⟩
  · omega
  have hx0 := hb 0 (by decide)
  have x0 := hc 0 (by decide)
  simp only [Nat.add_zero] at x0
  clear hb hc
  have HH := Lib.hid (fun W => rread_any W (g 0) hx0)
  unfold headV at HH
  have hsm : ∀ k, Smp (stB g p q k).1 ∧ Smp (stB g p q k).2 := fun k => stF_smp (g 0 / 16) (g 0 / 4 % 4) (nibO g) p q hp hq k
  have HN := Lib.hid (fun W k (hk : k < 16) (h : Row W (some ⟨b, o, none⟩) 9 g) => below_of_eq (rnib_any W (some ⟨b, o, none⟩) c k g h hk))
  have HS := Lib.hid (fun W k => below_of_eq (rsample_any W (nibO g k) (stB g p q k).1 (stB g p q k).2 (g 0 / 16) (g 0 / 4 % 4) (nibO_bnd g k).1 (nibO_bnd g k).2 (by omega) (Nat.mod_lt _ (by decide)) (hsm k).1 (hsm k).2))
  have hst : ∀ k, sampF (g 0 / 16) (g 0 / 4 % 4) (stB g p q k).1 (stB g p q k).2 (nibO g k) = (stB g p q (k + 1)).1 := fun k => rfl
  have hst2 : ∀ k, (stB g p q k).1 = (stB g p q (k + 1)).2 := fun k => rfl
  have hi1 : stB g p q 0 = (p, q) := rfl
  generalize g 0 = G0 at *
  generalize hl2 : decide (G0 / 2 % 2 = 1) = l2 at *
  generalize hl1 : decide (G0 % 2 = 1) = l1 at *
  generalize hsh : G0 / 16 = sh at *
  generalize hfi : G0 / 4 % 4 = fi at *
  have hst' := Lib.hid hst
  have hst2' := Lib.hid hst2
  have hsm' := Lib.hid hsm
  unfold Smp at hp hq
  clear hst hst2 hsm hl2 hl1
  go_enter Try.func12, Try.ntmps12
  go_wp2_with fail
  refine (HH.out _).mono ?_
  rintro e W1 ⟨rfl, hB1⟩
  have hH2 := Whole.fresh W1 34 #[.int .u8 (sh : Nat), .int .u8 (fi : Nat), .bool l2, .bool l1]
  have hB2 := hB1.alloc hB1.size (.cells #[.int .u8 (sh : Nat), .int .u8 (fi : Nat), .bool l2, .bool l1] 34)
  clear hB1 hsh hfi hx0 x0 HH
  go_wp2_with fail
  generalize W1.alloc (.cells #[.int .u8 (sh : Nat), .int .u8 (fi : Nat), .bool l2, .bool l1] 34) = W2 at *
  generalize W1.heap.size = H at *
  go_loopw [9, 10, 11, 12] (fun s9 s10 s11 s12 wr => ∃ k : Nat, k ≤ 16 ∧ s12 = .int .i64 (k : Nat) ∧ s9 = .int .i64 (stB g p q k).1 ∧ s10 = .int .i64 (stB g p q k).2 ∧ wr.ownsRow w.heap.size 23 1 s11 k (outL g p q k) ∧ Whole wr H 34 #[.int .u8 (sh : Nat), .int .u8 (fi : Nat), .bool l2, .bool l1] ∧ Below w.heap.size w wr) (fun _ _ _ s12 _ => 16 - (intOf s12).toNat)
  case atStart => exact ⟨0, by omega, rfl, by rw [hi1], by rw [hi1], World.ownsRow_nil _ _ _ _, hH2, hB2⟩
  case round =>
    obtain ⟨k, hk, rfl, rfl, rfl, hown, hH2', hB⟩ := hrel
    clear hH2 hB2
    by_cases hlt16 : k < 16
    · have hRk := hRh.out.below hB
      have HNk := Lib.hid (fun W h => HN.out W k hlt16 h)
      have HSk := fun W => HS.out W k
      rw [hst'.out k] at HSk
      have hX := (hsm'.out (k + 1)).1
      have hwx := wrap16 _ hX
      have hL := outL_st g p q k
      have h2k := hst2'.out k
      generalize hP : (stB g p q k).1 = P at *
      generalize hQ : (stB g p q k).2 = Q at *
      generalize hXe : (stB g p q (k + 1)).1 = X at *
      replace hP := Lib.hid hP
      replace hQ := Lib.hid hQ
      replace hXe := Lib.hid hXe
      replace h2k := Lib.hid h2k
      replace HSk := Lib.hid HSk
      replace hL := Lib.hid hL
      have q0 := hH2'.cell 0
      have q1 := hH2'.cell 1
      simp only [List.getElem?_toArray, List.getElem?_cons_zero, List.getElem?_cons_succ] at q0 q1
      have hHl := hH2'.lt
      have HB := Lib.hid fun (d : Nat) (os : Array Obj) => (show Row (Go.«Sort».grow (redrawn wr d) os) (some ⟨b, o, none⟩) 9 g from hRk.below (below_regrown wr d os))
      have hh := Lib.hid (And.intro hown (And.intro hH2' hB))
      clear hown hH2' hB hRk
      go_upto_region 10 with (fail)
      refine wp_region_quiet_below (by kernel_rfl) (by kernel_rfl) ?_
      have z0 := cell_regrown q0
      have z1 := cell_regrown q1
      clear q0 q1
      repeat (go_big_quiet_step (first
        | (go_at_call 27; first | (with_reducible exact Calls.regrown_of (HNk.out _ (HB.out _ _))))
        | (go_at_call 26; first | (with_reducible exact Calls.regrown_of (HSk.out _)))))
      refine wpQuiet_nil ?_
      intro _ hw'
      obtain ⟨⟨dq, osq⟩, hw''⟩ := hw'
      subst hw''
      have hbl := below_regrown wr dq osq
      generalize Go.«Sort».grow (redrawn wr dq) osq = V1 at *
      obtain ⟨hown, hHH, hB⟩ := hh.out
      have hB6 := (hB.trans (hbl.mono hB.size)).alloc (Nat.le_trans hB.size hbl.size) (.cells #[.int .i16 X] 23)
      have ho6 := (hown.kept (w' := V1) (row := none) ⟨hbl.os, hbl.tape, hbl.output, hbl.size, fun k hk _ => hbl.block k hk⟩ (by rename_i s11 _; cases hv : Value.ownBlock _ <;> simp)).alloc (.cells #[.int .i16 X] 23)
      have hH6 := (hHH.below hbl hHH.lt).alloc (.cells #[.int .i16 X] 23)
      have hneH := own_apart ho6 hH6 (by decide)
      have hBs : w.heap.size ≤ (V1.alloc (.cells #[.int .i16 X] 23)).heap.size := hB6.size
      clear z0 z1 HB HNk HSk hh hown hHH hB hbl
      go_wp2_with (at_builtin; refine wpList_append_own _ rfl _ _ 27 rfl w.heap.size 23 j0 _ 1 2 Try.underlying27 hj0 hz0 hz1 hz2 rfl (by decide) _ _ _ rfl ho6 ⟨V1.heap.size, 0, none⟩ 1 1 [.int .i16 X] rfl rfl (cell_one_new _ _ _) (by simp [Value.oneCell']) (by unfold maxLen; omega) (by omega) (by assumption) ?_)
      intro v' w9 hown9 hgrow _
      have hH9 := whole_grown hH6 hgrow hneH
      have hB9 := hB6.trans (grown_below hgrow hBs (own_le ho6))
      rw [hL.out] at hown9
      have hfin := Lib.hid (And.intro hown9 (And.intro hH9 hB9))
      clear ho6 hH6 hB6 hBs hneH hown9 hgrow hH9 hB9
      go_wp2_with fail
      go_roundw
      case rel => exact ⟨k + 1, by omega, by go_num, by rw [hXe.out], by rw [h2k.out], hfin.out.1, hfin.out.2.1, hfin.out.2.2⟩
      case measure => simp [intOf]; omega
    · obtain rfl : k = 16 := by omega
      have hfin := Lib.hid (And.intro hown hB)
      clear hown hB hH2'
      go_wp2_with fail
      exact bodyPost_ret (results_tmp2 rfl _ _ _) rfl ⟨_, rfl, hfin.out.1, hfin.out.2⟩
/-- Samples that are read: n of them, from where a leads on, the i-th is f i. -/
def IRow (w : World) (a : Option Addr) (n : Nat) (f : Nat → Int) : Prop :=
  n = 0 ∨ ∃ b o, a = some ⟨b, o, none⟩ ∧ b < w.heap.size ∧ ∀ i, i < n → w.cell? ⟨b, o + i, none⟩ = some (.int .i16 (f i))
theorem IRow.below {w w' : World} {a : Option Addr} {n : Nat} {f : Nat → Int} (h : IRow w a n f) (hb : Below w.heap.size w w') : IRow w' a n f := by
  rcases h with h | ⟨b, o, rfl, hlt, hc⟩
  · exact .inl h
  · exact .inr ⟨b, o, rfl, Nat.lt_of_lt_of_le hlt hb.size, fun i hi => (hb.cell (p := ⟨b, o + i, none⟩) hlt).trans (hc i hi)⟩
/-- What a row owns is read. -/
theorem own_irow {w : World} {B n : Nat} {v : Value} {xs : List Value} {f : Nat → Int} (h : w.ownsRow B 23 1 v n xs) (hf : ∀ i, i < n → xs[i]? = some (.int .i16 (f i))) : ∃ a c, v = .slice a n c ∧ IRow w a n f := by
  by_cases hn : n = 0
  · rcases h.2 with ⟨rfl, rfl⟩ | ⟨g, cap, cur, rfl, _⟩
    · exact ⟨_, _, rfl, .inl rfl⟩
    · exact ⟨_, _, rfl, .inl hn⟩
  · rcases h.2 with ⟨_, h0⟩ | ⟨g, cap, cur, rfl, hb, hg, _⟩
    · exact absurd h0 hn
    · refine ⟨_, _, rfl, .inr ⟨g, 0, rfl, (Array.getElem?_eq_some_iff.1 hg).1, fun i hi => ?_⟩⟩
      rw [Nat.zero_add, h.cellAt i (by omega)]
      exact hf i hi
theorem outL_at (g : Nat → Nat) (p q : Int) (k i : Nat) (hi : i < k) : (outL g p q k)[i]? = some (.int .i16 (stB g p q (i + 1)).1) := by
  unfold outL
  rw [List.getElem?_map, List.getElem?_range hi]
  rfl
theorem shorts_any (w : World) (a b : Option Addr) (n c d : Nat) (f : Nat → Int) (h1 : IRow w a n f) (h2 : IRow w b n f) (hn : n ≤ 140737488355328) :
    Calls Try.prog 14 #[.slice a n c, .slice b n d] w fun e w' => e = .returned (.bool true) ∧ ∃ q, w' = w.drewN q := by
  have H1 := Lib.hid h1
  have H2 := Lib.hid h2
  clear h1 h2
  go_enter Try.func14, Try.ntmps14
  go_wp2_with fail
  go_loopw [5] (fun si wr => ∃ k : Nat, k ≤ n ∧ si = .int .i64 k ∧ Hid (∃ q, wr = w.drewN q)) (fun si _ => n - (intOf si).toNat)
  case atStart => exact ⟨0, Nat.zero_le _, rfl, Lib.hid ⟨0, rfl⟩⟩
  case round =>
    obtain ⟨k, hk, rfl, hq⟩ := hrel
    by_cases hlt : k < n
    · rcases H1.out with h0 | ⟨b, o, rfl, hb, hcell⟩
      · omega
      rcases H2.out with h0 | ⟨b', o', rfl, hb', hcell'⟩
      · omega
      have d1 : wr.cell? ⟨b, o + k, none⟩ = some (.int .i16 (f k)) := by
        obtain ⟨q, e⟩ := hq.out
        rw [e]
        exact hcell k hlt
      have d2 : wr.cell? ⟨b', o' + k, none⟩ = some (.int .i16 (f k)) := by
        obtain ⟨q, e⟩ := hq.out
        rw [e]
        exact hcell' k hlt
      clear hcell hcell'
      generalize f k = z at d1 d2
      go_wp2_with fail
      go_quiet (fail)
      go_wp2_with fail
      go_roundw
      case rel => exact ⟨k + 1, by omega, by go_num, Lib.hid (by obtain ⟨q, e⟩ := hq.out; exact ⟨q + nq, by rw [e]; simp [World.drewN, Nat.add_assoc]⟩)⟩
      case measure => simp [intOf]; omega
    · obtain rfl : k = n := by omega
      go_wp2_with fail
      go_ret
      exact ⟨rfl, hq.out⟩
end Go.Proofs.Ytekjcgckniopdaa
