/-
  Whether there are no bytes of a cartridge: the whole.
-/
import Derived.Test.YtggjaoihfhianaaUnmak
namespace Go.Proofs.Ytggjaoihfhianaa
open Go.RowKit Go.Shelf
set_option maxRecDepth 100000
set_option maxHeartbeats 4000000

theorem unmakable_any (l c n cap : Nat) (ra : Option Addr) (ram : Int) (t : ByteArray) (z : Nat) (fast : Bool) (S : Value) (w : World) (hl : l < 256) (hc : c < 256) (ht : t.size ≤ 9223372036854775807) :
    Calls Try.prog 17 #[.agg (cartC l c (.slice ra n cap) ram t z fast S)] w fun e w' => e = .returned (.bool (!mayB l c n ram t z)) ∧ Below w.heap.size w w' := by
  have HP := Lib.hid (fun W => planOf_any l W hl)
  have H1 := Lib.hid (fun B W (hX : Whole W B 28 (cartC l c (.slice ra n cap) ram t z fast S)) => parts_any B l c (.slice ra n cap) ram t z fast S W hc hX)
  have H2 := Lib.hid (fun B P M W (hX : Whole W B 28 (cartC l c (.slice ra n cap) ram t z fast S)) hP => romB_any B P M l c n cap ra ram t z fast S W hX hP)
  have H3 := Lib.hid (fun B W (hX : Whole W B 28 (cartC l c (.slice ra n cap) ram t z fast S)) => titleB_any B l c (.slice ra n cap) ram t z fast S W ht hX)
  obtain ⟨mb, hmb⟩ : ∃ x, mayB l c n ram t z = x := ⟨_, rfl⟩
  rw [hmb]
  unfold mayB at hmb
  generalize partsB c ram = pb at *
  generalize romB l n = rb at *
  generalize titleB t = tb at *
  have ez : decide ((z : Int) < 32768) = !decide (32768 ≤ z) := by rw [Bool.eq_iff_iff]; simp; omega
  obtain ⟨zb, hzb⟩ : ∃ x, decide (32768 ≤ z) = x := ⟨_, rfl⟩
  rw [hzb] at ez hmb
  replace hmb := Lib.hid hmb
  clear hzb hl hc ht
  unfold cartC at *
  go_enter Try.func17, Try.ntmps17
  go_wp2_with fail
  have hX := Whole.fresh w 28 #[.int .u8 l, .int .u8 c, .slice ra n cap, .int .i64 ram, .string t, .int .u16 z, .bool fast, S]
  have hB : Below w.heap.size w (w.alloc (Obj.cells #[.int .u8 l, .int .u8 c, .slice ra n cap, .int .i64 ram, .string t, .int .u16 z, .bool fast, S] 28)) := (Below.refl _ w).alloc (Nat.le_refl _) _
  generalize (w.alloc (Obj.cells #[.int .u8 l, .int .u8 c, .slice ra n cap, .int .i64 ram, .string t, .int .u16 z, .bool fast, S] 28)) = W0 at hX hB ⊢
  refine (HP.out W0).mono ?_
  rintro e w1 (⟨h1, h3, M, rfl, hM, hMge, hB1⟩ | ⟨hno, rfl, hB1⟩)
  · have hmb2 := hmb.out
    rw [show decide (1 ≤ l ∧ l ≤ 3) = true from decide_eq_true ⟨h1, h3⟩, Bool.true_and] at hmb2
    replace hmb := Lib.hid hmb2
    have hX1 := hX.below hB1 hX.lt
    have hBa := hB.trans (hB1.mono hB.size)
    clear hmb2 hX hB hB1 h1 h3 HP hM hMge
    unfold planV
    go_wp2_with fail
    have hX2 := hX1.alloc (Obj.cells #[.int .u8 l, .int .i64 (posOf l : Nat), .slice (some ⟨M, 0, none⟩) (modeLen l) (modeLen l)] 47)
    have hBb := hBa.alloc hBa.size (Obj.cells #[.int .u8 l, .int .i64 (posOf l : Nat), .slice (some ⟨M, 0, none⟩) (modeLen l) (modeLen l)] 47)
    have hP2 := Whole.fresh w1 47 #[.int .u8 l, .int .i64 (posOf l : Nat), .slice (some ⟨M, 0, none⟩) (modeLen l) (modeLen l)]
    generalize (w1.alloc (Obj.cells #[.int .u8 l, .int .i64 (posOf l : Nat), .slice (some ⟨M, 0, none⟩) (modeLen l) (modeLen l)] 47)) = W2 at hX2 hBb hP2 ⊢
    generalize w1.heap.size = P at *
    clear hX1 hBa
    refine (H1.out w.heap.size W2 hX2).mono ?_
    rintro e w3 ⟨rfl, rfl⟩
    cases pb
    · have hv : mb = false := by rw [← hmb.out]; rfl
      subst hv
      clear hmb H1 H2 H3
      go_wp2_with fail
      go_ret
      exact ⟨rfl, hBb⟩
    go_wp2_with fail
    refine (H2.out w.heap.size P M w3 hX2 hP2).mono ?_
    rintro e w4 ⟨rfl, hB4⟩
    have hX4 := hX2.below hB4 hX2.lt
    have hBc := hBb.trans (hB4.mono hBb.size)
    clear hX2 hP2 hBb hB4 H2 H1
    cases rb
    · have hv : mb = false := by rw [← hmb.out]; rfl
      subst hv
      clear hmb H3
      go_wp2_with fail
      go_ret
      exact ⟨rfl, hBc⟩
    go_wp2_with fail
    refine (H3.out w.heap.size w4 hX4).mono ?_
    rintro e w5 ⟨rfl, rfl⟩
    cases tb
    · have hv : mb = false := by rw [← hmb.out]; rfl
      subst hv
      clear hmb H3
      go_wp2_with fail
      go_ret
      exact ⟨rfl, hBc⟩
    have y5 := hX4.cell 5
    simp only [List.getElem?_toArray, List.getElem?_cons_zero, List.getElem?_cons_succ] at y5
    have hv : mb = zb := by rw [← hmb.out]; rfl
    subst hv
    clear hmb H3
    cases mb
    · go_wp2_with fail
      go_ret
      exact ⟨rfl, hBc⟩
    · go_wp2_with fail
      go_ret
      exact ⟨rfl, hBc⟩
  · have hv : mb = false := by rw [← hmb.out, show decide (1 ≤ l ∧ l ≤ 3) = false from decide_eq_false hno]; rfl
    subst hv
    have hBa := hB.trans (hB1.mono hB.size)
    clear hmb H1 H2 H3 HP hX hB hB1
    go_wp2_with fail
    go_ret
    exact ⟨rfl, hBa.alloc hBa.size _⟩
end Go.Proofs.Ytggjaoihfhianaa
