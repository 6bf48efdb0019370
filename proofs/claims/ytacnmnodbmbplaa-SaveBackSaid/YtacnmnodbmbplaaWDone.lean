/-
  A writer's Done.
-/
import Derived.Test.YtacnmnodbmbplaaSums
import Derived.StillTailTactics
namespace Go.Proofs.Ytacnmnodbmbplaa
open Go.RowKit Go.Shelf
set_option maxRecDepth 100000
set_option maxHeartbeats 1000000

/-- Why Done refuses; 0 if it doesn't. -/
def St.doneE (s : St) : Nat := if s.e = 0 then (if 0 < s.op then 50 else 0) else s.e
theorem wdone1_wrong {b p0 p1 : Nat} {v : Value} {s : St} (w : World) (h : Wr w b v s) (q0 : w.cell? ⟨p0, 0, none⟩ = some (.pointer (some ⟨b, 0, none⟩))) (he : s.e ≠ 0) :
    Calls Try.prog 39 #[.pointer (some ⟨p0, 0, none⟩), .pointer (some ⟨p1, 0, none⟩)] w fun e w' => e = fault s.e ∧ Below w.heap.size w w' := by
  have d0 : w.drew.cell? ⟨p0, 0, none⟩ = some (.pointer (some ⟨b, 0, none⟩)) := q0
  have d1 : w.drew.cell? ⟨b, 18, none⟩ = some (.int .i64 (s.e : Nat)) := h.head.c18
  have t1 : ((s.e : Int) != 0) = true := by rw [bne_iff_ne]; omega
  have hB := Lib.hid (Below.drew (Below.refl w.heap.size w))
  clear h he
  go_enter Try.func39, Try.ntmps39
  go_wp2_with fail
  refine (refuse_no _ _).mono ?_
  rintro e w' ⟨rfl, hw⟩
  subst hw
  go_wp2_with fail
  go_still_tail 9, (by kernel_rfl)
  show wpList _ _ _ _ _ w'.drew
  generalize w'.drew = W at *
  go_wp2_with fail
  refine (refuse_yes _ _).mono ?_
  rintro e w' ⟨rfl, rfl⟩
  unfold fault
  go_wp2_with fail
  exact ⟨rfl, by rfl, hB.out⟩
theorem wdone1_open {b p0 p1 : Nat} {v : Value} {s : St} (w : World) (h : Wr w b v s) (q0 : w.cell? ⟨p0, 0, none⟩ = some (.pointer (some ⟨b, 0, none⟩))) (he : s.e = 0) (ho : 0 < s.op) :
    Calls Try.prog 39 #[.pointer (some ⟨p0, 0, none⟩), .pointer (some ⟨p1, 0, none⟩)] w fun e w' => e = fault 50 ∧ Below w.heap.size w w' := by
  have d0 : w.drew.cell? ⟨p0, 0, none⟩ = some (.pointer (some ⟨b, 0, none⟩)) := q0
  have d1 : w.drew.cell? ⟨b, 18, none⟩ = some (.int .i64 (s.e : Nat)) := h.head.c18
  rw [he] at d1
  have d2 : w.drew.cell? ⟨b, 17, none⟩ = some (.int .i64 (s.op : Nat)) := h.head.c17
  have t1 : (0 : Int) < (s.op : Int) := by omega
  generalize hop : s.op = op at *
  have hB := Lib.hid (Below.drew (Below.refl w.heap.size w))
  clear h he hop
  go_enter Try.func39, Try.ntmps39
  go_wp2_with fail
  refine (refuse_no _ _).mono ?_
  rintro e w' ⟨rfl, hw⟩
  subst hw
  go_wp2_with fail
  go_still_tail 9, (by kernel_rfl)
  show wpList _ _ _ _ _ w'.drew
  generalize w'.drew = W at *
  go_wp2_with fail
  refine (refuse_no _ _).mono ?_
  rintro e w' ⟨rfl, hw⟩
  subst hw
  go_wp2_with fail
  refine (refuse_yes _ _).mono ?_
  rintro e w' ⟨rfl, rfl⟩
  unfold fault
  go_wp2_with fail
  exact ⟨rfl, by rfl, hB.out⟩
theorem wdone1_ok {b p0 p1 : Nat} {v : Value} {s : St} (w : World) (h : Wr w b v s) (q0 : w.cell? ⟨p0, 0, none⟩ = some (.pointer (some ⟨b, 0, none⟩))) (q1 : Whole w p1 25 #[.slice none 0 0]) (he : s.e = 0) (ho : s.op = 0) :
    Calls Try.prog 39 #[.pointer (some ⟨p0, 0, none⟩), .pointer (some ⟨p1, 0, none⟩)] w fun e w' => e = .returned (.tuple #[]) ∧
      ∃ G, Whole w' p1 25 #[.slice (some ⟨G, 0, none⟩) (13 + s.n) (13 + s.n)] ∧ Holds w' G (13 + s.n) (headF s.n s.f) ∧ w.heap.size ≤ G ∧ w.grownBy w' (some p1) := by
  have d0 : w.drew.cell? ⟨p0, 0, none⟩ = some (.pointer (some ⟨b, 0, none⟩)) := q0
  have d1 : w.drew.cell? ⟨b, 18, none⟩ = some (.int .i64 (s.e : Nat)) := h.head.c18
  rw [he] at d1
  have d2 : w.drew.cell? ⟨b, 17, none⟩ = some (.int .i64 (s.op : Nat)) := h.head.c17
  rw [ho] at d2
  have d3 : w.drew.cell? ⟨b, 0, none⟩ = some v := h.head.c0
  have q1d : Whole w.drew p1 25 #[.slice none 0 0] := q1
  obtain ⟨a, c, rfl, hR⟩ := h.body.row
  have hRd : Row w.drew a s.n s.f := hR
  have HS := Lib.hid (sealed_any a s.n c s.f w.drew hRd h.good.n)
  have hB := Lib.hid (Below.drew (Below.refl w.heap.size w))
  have hl1 := q1d.lt
  have hsz : w.heap.size = w.drew.heap.size := rfl
  clear h he ho hR hRd q1
  go_enter Try.func39, Try.ntmps39
  go_wp2_with fail
  refine (refuse_no _ _).mono ?_
  rintro e w' ⟨rfl, hw⟩
  subst hw
  go_wp2_with fail
  go_still_tail 9, (by kernel_rfl)
  show wpList _ _ _ _ _ w'.drew
  generalize w'.drew = W at *
  go_wp2_with fail
  refine (refuse_no _ _).mono ?_
  rintro e w' ⟨rfl, hw⟩
  subst hw
  go_wp2_with fail
  refine (refuse_no _ _).mono ?_
  rintro e w' ⟨rfl, hw⟩
  subst hw
  go_wp2_with fail
  refine HS.out.mono ?_
  rintro e W2 ⟨G, rfl, hH, hG, hBG⟩
  have hp := q1d.below hBG hl1
  have c1 := hp.cell 0
  have f1 := hp.free 0
  simp only [List.getElem?_toArray, List.getElem?_cons_zero] at c1
  have hgp : G ≠ p1 := by omega
  clear d0 d1 d2 d3 HS
  go_wp2_with fail
  go_end0
  refine ⟨rfl, G, hp.put 0 _, hH.away (p := ⟨p1, 0, none⟩) hgp _, by omega, ?_⟩
  have hBw := hB.out.trans (hsz ▸ hBG)
  exact only_set (Below.only hBw p1) 0 _
theorem wdone_no {b : Nat} {v : Value} {s : St} (w : World) (h : Wr w b v s) (he : s.doneE ≠ 0) :
    Calls Try.prog 12 #[.pointer (some ⟨b, 0, none⟩)] w fun e w' => e = .returned (.tuple #[.slice none 0 0, .int .i64 (s.doneE : Nat)]) ∧ Below w.heap.size w w' := by
  have hmf := makeF
  have hP := (Whole.fresh w 23 #[.pointer (some ⟨b, 0, none⟩)]).alloc (.cells #[.slice none 0 0] 25)
  have hS := Whole.fresh (w.alloc (.cells #[.pointer (some ⟨b, 0, none⟩)] 23)) 25 #[.slice none 0 0]
  have hB := ((Below.refl w.heap.size w).alloc (Nat.le_refl _) (.cells #[.pointer (some ⟨b, 0, none⟩)] 23)).alloc (by simp) (.cells #[.slice none 0 0] 25)
  have hd : ∀ W, Wr W b v s → ∀ p0 p1, W.cell? ⟨p0, 0, none⟩ = some (.pointer (some ⟨b, 0, none⟩)) → Calls Try.prog 39 #[.pointer (some ⟨p0, 0, none⟩), .pointer (some ⟨p1, 0, none⟩)] W fun e w' => e = fault s.doneE ∧ Below W.heap.size W w' := fun W hW p0 p1 q0 => by
    unfold St.doneE at *
    by_cases h0 : s.e = 0
    · rw [if_pos h0] at *
      by_cases h1 : 0 < s.op
      · rw [if_pos h1] at *
        exact wdone1_open W hW q0 h0 h1
      · rw [if_neg h1] at he
        exact absurd rfl he
    · rw [if_neg h0] at *
      exact wdone1_wrong W hW q0 h0
  have hW0 := (h.alloc (.cells #[.pointer (some ⟨b, 0, none⟩)] 23)).alloc (.cells #[.slice none 0 0] 25)
  replace hd := Lib.hid hd
  replace hW0 := Lib.hid hW0
  generalize s.doneE = E at *
  clear h
  go_enter Try.func12, Try.ntmps12
  go_wp2_with fail
  generalize (w.alloc (.cells #[.pointer (some ⟨b, 0, none⟩)] 23)).alloc (.cells #[.slice none 0 0] 25) = W at *
  have hs1 : (w.alloc (.cells #[.pointer (some ⟨b, 0, none⟩)] 23)).heap.size = w.heap.size + 1 := by simp
  rw [hs1] at hS
  have hPl := hP.lt
  have hSl := hS.lt
  refine (attempt_any (k := 39) W (fun _ => False) (fun c V => c = (E : Int) ∧ Below (W.heap.size + 1) (W.alloc (.cells #[.int .i64 0] 27)) V) (enters_of Try.func39 (by kernel_rfl) rfl)
    ((hd.out _ (hW0.out.alloc _) _ _ (by rw [(hP.alloc _).cell 0]; rfl)).mono ?_)).mono ?_
  · rintro e w' ⟨rfl, hb⟩
    rw [World.size_alloc] at hb
    exact ⟨(Whole.fresh W _ _).below hb (Nat.lt_succ_self _), .inr ⟨E, rfl, rfl, hb⟩⟩
  rintro e w' (⟨_, V, hF, _⟩ | ⟨c, V, rfl, ⟨rfl, hb⟩, rfl⟩)
  · exact hF.elim
  have hbs : W.heap.size + 1 ≤ V.heap.size := by have := hb.size; simp at this; omega
  have hS2 := (((hS.alloc (.cells #[.int .i64 0] 27)).below hb (by omega)).alloc (.cells #[.int .i64 (E : Nat)] 101)).away (p := ⟨W.heap.size, 0, none⟩) (by simp; omega) (.int .i64 (E : Nat))
  have hB2 := (((hB.alloc (by omega) (.cells #[.int .i64 0] 27)).trans (hb.mono (by omega))).alloc (by omega) (.cells #[.int .i64 (E : Nat)] 101)).setCell (p := ⟨W.heap.size, 0, none⟩) (by simp; omega) (.int .i64 (E : Nat))
  have h0 := hS2.cell 0
  simp only [List.getElem?_toArray, List.getElem?_cons_zero] at h0
  generalize (V.alloc (.cells #[.int .i64 (E : Nat)] 101)).setCell ⟨W.heap.size, 0, none⟩ (.int .i64 (E : Nat)) = W2 at *
  clear hmf hP hS hB hs1 hS2 hd hW0 hb
  go_wp2_with fail
  go_ret2
  exact ⟨rfl, hB2⟩
theorem wdone_ok {b : Nat} {v : Value} {s : St} (w : World) (h : Wr w b v s) (he : s.doneE = 0) :
    Calls Try.prog 12 #[.pointer (some ⟨b, 0, none⟩)] w fun e w' => ∃ G, e = .returned (.tuple #[.slice (some ⟨G, 0, none⟩) (13 + s.n) (13 + s.n), .int .i64 0]) ∧ Holds w' G (13 + s.n) (headF s.n s.f) ∧ w.heap.size ≤ G ∧ Below w.heap.size w w' := by
  have he0 : s.e = 0 := by
    unfold St.doneE at he
    by_cases h0 : s.e = 0
    · exact h0
    · rw [if_neg h0] at he; exact he
  have hop : s.op = 0 := by
    unfold St.doneE at he
    rw [if_pos he0] at he
    by_cases h1 : 0 < s.op
    · rw [if_pos h1] at he; cases he
    · omega
  have hmf := makeF
  have hP := (Whole.fresh w 23 #[.pointer (some ⟨b, 0, none⟩)]).alloc (.cells #[.slice none 0 0] 25)
  have hS := Whole.fresh (w.alloc (.cells #[.pointer (some ⟨b, 0, none⟩)] 23)) 25 #[.slice none 0 0]
  have hB := ((Below.refl w.heap.size w).alloc (Nat.le_refl _) (.cells #[.pointer (some ⟨b, 0, none⟩)] 23)).alloc (by simp) (.cells #[.slice none 0 0] 25)
  have hd := Lib.hid (fun W (hW : Wr W b v s) p0 p1 q0 q1 => wdone1_ok (p0 := p0) (p1 := p1) W hW q0 q1 he0 hop)
  have hW0 := (h.alloc (.cells #[.pointer (some ⟨b, 0, none⟩)] 23)).alloc (.cells #[.slice none 0 0] 25)
  replace hW0 := Lib.hid hW0
  clear h he he0 hop
  go_enter Try.func12, Try.ntmps12
  go_wp2_with fail
  generalize (w.alloc (.cells #[.pointer (some ⟨b, 0, none⟩)] 23)).alloc (.cells #[.slice none 0 0] 25) = W at *
  have hs1 : (w.alloc (.cells #[.pointer (some ⟨b, 0, none⟩)] 23)).heap.size = w.heap.size + 1 := by simp
  rw [hs1] at hS
  have hPl := hP.lt
  have hSl := hS.lt
  refine (attempt_any (k := 39) W (fun V => ∃ G, Whole V (w.heap.size + 1) 25 #[.slice (some ⟨G, 0, none⟩) (13 + s.n) (13 + s.n)] ∧ Holds V G (13 + s.n) (headF s.n s.f) ∧ W.heap.size + 1 ≤ G ∧ Below w.heap.size w V) (fun c V => False) (enters_of Try.func39 (by kernel_rfl) rfl)
    ((hd.out _ (hW0.out.alloc _) w.heap.size (w.heap.size + 1) (by rw [(hP.alloc _).cell 0]; rfl) (hS.alloc _)).mono ?_)).mono ?_
  · rintro e w' ⟨rfl, G, h1, h2, h3, h4⟩
    rw [World.size_alloc] at h3
    refine ⟨(Whole.fresh W _ _).only h4 (by omega), .inl ⟨rfl, G, h1, h2, h3, ?_⟩⟩
    exact (hB.alloc (by omega) (.cells #[.int .i64 0] 27)).trans (Below.mono (below_grown h4 (by simp; omega)) (by omega))
  rintro e w' (⟨rfl, V, ⟨G, h1, h2, h3, h4⟩, rfl⟩ | ⟨_, V, _, hF, _⟩)
  · have h5 := h1.away (p := ⟨W.heap.size, 0, none⟩) (by simp; omega) (.int .i64 0)
    have h6 := h2.away (p := ⟨W.heap.size, 0, none⟩) (by simp; omega) (.int .i64 0)
    have hB2 := h4.setCell (p := ⟨W.heap.size, 0, none⟩) (by simp; omega) (.int .i64 0)
    have h0 := h5.cell 0
    simp only [List.getElem?_toArray, List.getElem?_cons_zero] at h0
    generalize V.setCell ⟨W.heap.size, 0, none⟩ (.int .i64 0) = W2 at *
    have hGl : w.heap.size ≤ G := by omega
    clear hmf hP hS hB hs1 hd hW0 h1 h2 h3 h4 h5
    go_wp2_with fail
    go_ret2
    exact ⟨G, rfl, h6, hGl, hB2⟩
  · exact hF.elim
end Go.Proofs.Ytacnmnodbmbplaa
