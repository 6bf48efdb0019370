/-
  A cartridge's bytes, by the document: the walk.
-/
import Derived.Test.YtggjaoihfhianaaRMake
namespace Go.Proofs.Ytggjaoihfhianaa
open Go.RowKit Go.Shelf
set_option maxRecDepth 100000
set_option maxHeartbeats 4000000

theorem rmakeNo_any (l c n cap : Nat) (ra : Option Addr) (ram : Int) (t : ByteArray) (z : Nat) (fast : Bool) (Sg : Value) (w : World) (hl : l < 256) (hn : n ≤ 8392704) (ht : t.size ≤ 9223372036854775807) (hno : mayB l c n ram t z = false) :
    Calls Try.prog 7 #[.agg (cartC l c (.slice ra n cap) ram t z fast Sg)] w fun e w' => e = .returned (.tuple #[.slice none 0 0, .int .i64 2]) ∧ Below w.heap.size w w' := by
  have HU := Lib.hid (fun W => rmay_any l c n cap ra ram t z fast Sg W hl hn ht)
  rw [hno] at HU
  clear hno hl ht hn
  unfold cartC at *
  go_enter Try.func7, Try.ntmps7
  go_wp2_with fail
  have hB : Below w.heap.size w (w.alloc (Obj.cells #[.int .u8 l, .int .u8 c, .slice ra n cap, .int .i64 ram, .string t, .int .u16 z, .bool fast, Sg] 28)) := (Below.refl _ w).alloc (Nat.le_refl _) _
  generalize (w.alloc (Obj.cells #[.int .u8 l, .int .u8 c, .slice ra n cap, .int .i64 ram, .string t, .int .u16 z, .bool fast, Sg] 28)) = W0 at hB ⊢
  refine (HU.out W0).mono ?_
  rintro e w1 ⟨rfl, hB1⟩
  go_wp2_with fail
  go_ret2
  exact ⟨rfl, hB.trans (hB1.mono hB.size)⟩

theorem rmake_any (l c n cap : Nat) (ra : Option Addr) (ram : Int) (t : ByteArray) (z : Nat) (fast : Bool) (Sg : Value) (f : Nat → Nat) (w : World) (hl : l < 256) (hz : z < 65536) (hR : Row w ra n f) (hok : mayB l c n ram t z = true) :
    Calls Try.prog 7 #[.agg (cartC l c (.slice ra n cap) ram t z fast Sg)] w fun e w' => ∃ G, e = .returned (.tuple #[.slice (some ⟨G, 0, none⟩) n n, .int .i64 0]) ∧ Holds w' G n (makeF f n l c ram t z fast) ∧ w.heap.size ≤ G ∧ Below w.heap.size w w' := by
  obtain ⟨h13, hc2, hram, hn1, hn2, _, hpos, ht, _, _, hz1⟩ := may_parts hok
  have HU := Lib.hid (fun W => rmay_any l c n cap ra ram t z fast Sg W hl (by omega) (by omega))
  rw [hok] at HU
  have HA := Lib.hid (fun W => at_any l W hl)
  rw [if_pos h13] at HA
  have HZ := Lib.hid (fun W => size_any ram W)
  obtain ⟨b, o, rfl⟩ : ∃ b o, ra = some ⟨b, o, none⟩ := by
    rcases hR.2 with h0 | ⟨b, o, h, _⟩
    · omega
    · exact ⟨b, o, h⟩
  have hL := titleL_len t ht
  have hLb := titleL_byte t
  have hLin : ∀ k (h : k < t.size), (titleL t).getD k 0 = (t[k]'h).toNat := fun k h => by
    unfold titleL
    rw [List.getD_eq_getElem?_getD, List.getElem?_append_left (by simpa using h), List.getElem?_map, List.getElem?_eq_getElem (by simpa using h)]
    rfl
  have hLout : ∀ k, t.size ≤ k → k < 21 → (titleL t).getD k 0 = 32 := fun k h h2 => by
    unfold titleL
    rw [List.getD_eq_getElem?_getD, List.getElem?_append_right (by simpa using h), List.getElem?_replicate, if_pos (by simp; omega)]
    rfl
  have hfin : makeF f n l c ram t z fast = sealF (refF f (posOf l) l c ram t z fast) (posOf l) (sumTo (refF f (posOf l) l c ram t z fast) n) := by
    unfold makeF
    rw [refF_eq f (posOf l) l c ram t z fast ht]
  rw [hfin]
  have hp0 := posOf_le' l
  generalize posOf l = p at *
  obtain ⟨L, hLe⟩ : ∃ L, titleL t = L := ⟨_, rfl⟩
  rw [hLe] at hL hLb
  simp only [hLe] at hLin hLout
  replace hLe := Lib.hid hLe
  clear hfin hok hl
  unfold cartC
  have hn3 : n ≤ 140737488355328 := by omega
  have hmk := fun W => run_make_row' (P := Try.prog) 25 5 (.int .u8 0) 1 Try.underlying25 (by kernel_rfl) rfl .i64 .i64 n (by omega) (by omega) W
  replace hn1 := Lib.hid hn1
  replace hn2 := Lib.hid hn2
  replace hz1 := Lib.hid hz1
  replace hp0 := Lib.hid hp0
  go_enter Try.func7, Try.ntmps7
  go_wp2_with fail
  have hX := Whole.fresh w 28 #[.int .u8 l, .int .u8 c, .slice (some ⟨b, o, none⟩) n cap, .int .i64 ram, .string t, .int .u16 z, .bool fast, Sg]
  have hB : Below w.heap.size w (w.alloc (Obj.cells #[.int .u8 l, .int .u8 c, .slice (some ⟨b, o, none⟩) n cap, .int .i64 ram, .string t, .int .u16 z, .bool fast, Sg] 28)) := (Below.refl _ w).alloc (Nat.le_refl _) _
  generalize (w.alloc (Obj.cells #[.int .u8 l, .int .u8 c, .slice (some ⟨b, o, none⟩) n cap, .int .i64 ram, .string t, .int .u16 z, .bool fast, Sg] 28)) = W0 at hX hB ⊢
  refine (HU.out W0).mono ?_
  rintro e w1 ⟨rfl, hB1⟩
  have hX1 := hX.below hB1 hX.lt
  have hBa := hB.trans (hB1.mono hB.size)
  have hR1 := hR.below hBa
  have hXG : w.heap.size < w1.heap.size := hX1.lt
  have hwG : w.heap.size ≤ w1.heap.size := hBa.size
  clear hX hB hB1 HU hR
  have x0 := hX1.cell 0
  have x2 := hX1.cell 2
  simp only [List.getElem?_toArray, List.getElem?_cons_zero, List.getElem?_cons_succ] at x0 x2
  go_wp2_with fail
  refine (HA.out w1).mono ?_
  rintro e w2 ⟨rfl, rfl⟩
  go_wp2_with fail
  obtain ⟨X, hXe⟩ : ∃ X, w.heap.size = X := ⟨_, rfl⟩
  obtain ⟨G, hGe⟩ : ∃ G, w2.heap.size = G := ⟨_, rfl⟩
  have hBm : Below G w2 (w2.alloc (Obj.cells (madeCells #[Value.int .u8 0] n) 5)) := hGe ▸ (Below.refl _ w2).alloc (Nat.le_refl _) _
  have hH0 : Holds (w2.alloc (Obj.cells (madeCells #[Value.int .u8 0] n) 5)) G n (first f 0) := hGe ▸ (holds_of_made (Whole.fresh w2 5 (madeCells #[Value.int .u8 0] n))).congr (fun i _ => by simp [first])
  generalize (w2.alloc (Obj.cells (madeCells #[Value.int .u8 0] n) 5)) = W3 at hBm hH0 ⊢
  have hRw : ∀ W, Below G w2 W → Row W (some ⟨b, o, none⟩) n f := fun W hW => hR1.below (hGe ▸ hW)
  have hXw : ∀ W, Below G w2 W → Whole W X 28 #[.int .u8 l, .int .u8 c, .slice (some ⟨b, o, none⟩) n cap, .int .i64 ram, .string t, .int .u16 z, .bool fast, Sg] := fun W hW => hXe ▸ hX1.below hW (hGe ▸ hX1.lt)
  have hwin : ∀ W, Below G w2 W → Below X w W := fun W hW => hXe ▸ hBa.trans (hW.mono (by rw [← hGe]; exact hBa.size))
  have hXG' : X ≠ G := by omega
  have hXG2 : X ≤ G := by omega
  replace hRw := Lib.hid hRw
  replace hXw := Lib.hid hXw
  replace hwin := Lib.hid hwin
  rw [hXe, hGe]
  replace hXe := Lib.hid hXe
  clear hR1 hX1 hBa hXG hwG x0 x2 hmk HA hGe
  go_loopw [6] (fun i wr => ∃ k : Nat, k ≤ n ∧ i = .int .i64 k ∧ Holds wr G n (first f k) ∧ Below G w2 wr) (fun i _ => n - (intOf i).toNat)
  case atStart => exact ⟨0, Nat.zero_le _, rfl, hH0, hBm⟩
  case round =>
    obtain ⟨k, hk, rfl, hH, hBl⟩ := hrel
    clear hH0 hBm
    have hX5 := hXw.out wr hBl
    by_cases hlt : k < n
    · rcases hRw.out wr hBl with ⟨hb, h0 | ⟨b', o', e, hbl, hc⟩⟩
      · omega
      injection e with e
      injection e with e1 e2
      subst e1 e2
      have hck := hc k hlt
      have hfk := hH.free k
      have hwk := hH.cell k hlt
      have hx := hb k hlt
      have hP := hH.put k (f k) hx
      rw [first_step] at hP
      have hB2 := hBl.setCell (p := ⟨G, k, none⟩) (Nat.le_refl _) (.int .u8 (f k : Nat))
      have x2 := hX5.cell 2
      simp only [List.getElem?_toArray, List.getElem?_cons_zero, List.getElem?_cons_succ] at x2
      clear hc hH hX5 hb
      generalize f k = x at *
      go_wp2_with fail
      refine ⟨⟨k + 1, by omega, by congr 1, hP, hB2⟩, ?_⟩
      simp only [intOf]
      omega
    · obtain rfl : k = n := by omega
      have hH2 := hH.congr (f' := overL f p (L.take 0)) (fun i hi => by rw [List.take_zero, overL_nil]; simp [first, hi])
      clear hH hX5 hRw hlt hk
      go_wp2_with fail
      go_loopw [7] (fun i wx => ∃ q : Nat, q ≤ 21 ∧ i = .int .i64 q ∧ Holds wx G k (overL f p (L.take q)) ∧ Below G w2 wx) (fun i _ => 21 - (intOf i).toNat)
      case atStart => exact ⟨0, by decide, rfl, hH2, hBl⟩
      case round =>
        obtain ⟨q, hq, rfl, hH, hBq⟩ := hrel
        clear hH2 hBl
        have hX5 := hXw.out _ hBq
        by_cases hlt : q < 21
        · have hsum : IntKind.i64.wrap ((p : Int) + (q : Int)) = (p + q : Nat) := by rw [IntKind.wrap_i64]; have := hp0.out; omega
          have hpq : p + q < k := by omega
          obtain ⟨pq, hpqe⟩ : ∃ x, p + q = x := ⟨_, rfl⟩
          rw [hpqe] at hsum hpq
          have hfk := hH.free pq
          have hwk := hH.cell pq hpq
          have x4 := hX5.cell 4
          simp only [List.getElem?_toArray, List.getElem?_cons_zero, List.getElem?_cons_succ] at x4
          by_cases hts : q < t.size
          · have hx := hLin q hts
            obtain ⟨x, hxe⟩ : ∃ x, (t[q]'hts).toNat = x := ⟨_, rfl⟩
            have hx256 : x < 256 := by rw [← hxe]; exact (t[q]'hts).toNat_lt
            rw [hxe] at hx
            have hP1 := hH.put pq 32 (by decide)
            have hP := hP1.put pq x hx256
            rw [upd_upd, ← hpqe, ← hx, overL_take f p L q (by omega), hx, hpqe] at hP
            have hfk2 := hP1.free pq
            have hB2 := (hBq.setCell (p := ⟨G, pq, none⟩) (Nat.le_refl _) (.int .u8 32)).setCell (p := ⟨G, pq, none⟩) (Nat.le_refl _) (.int .u8 (x : Nat))
            replace hpqe := Lib.hid hpqe
            clear hH hX5 hx hP1
            go_wp2_with fail
            refine ⟨⟨q + 1, by omega, by congr 1, hP, hB2⟩, ?_⟩
            simp only [intOf]
            omega
          · have hx := hLout q (by omega) hlt
            have hP := hH.put pq 32 (by decide)
            rw [← hpqe, ← hx, overL_take f p L q (by omega), hx, hpqe] at hP
            have hB2 := hBq.setCell (p := ⟨G, pq, none⟩) (Nat.le_refl _) (.int .u8 32)
            replace hpqe := Lib.hid hpqe
            have hts2 : t.size ≤ q := by omega
            clear hH hX5 hx hts
            go_wp2_with fail
            refine ⟨⟨q + 1, by omega, by congr 1, hP, hB2⟩, ?_⟩
            simp only [intOf]
            omega
        · obtain rfl : q = 21 := by omega
          have hH3 := hH.congr (f' := overL (overL f p L) (p + 21) (List.replicate 0 0)) (fun i hi => by rw [List.replicate_zero, overL_nil, List.take_of_length_le (by omega)])
          clear hH hX5 hlt hq hLin hLout
          go_wp2_with fail
          go_loopw [8] (fun i wy => ∃ q : Nat, q ≤ 11 ∧ i = .int .i64 (21 + q : Nat) ∧ Holds wy G k (overL (overL f p L) (p + 21) (List.replicate q 0)) ∧ Below G w2 wy) (fun i _ => 32 - (intOf i).toNat)
          case atStart => exact ⟨0, by decide, rfl, hH3, hBq⟩
          case round =>
            obtain ⟨q, hq, rfl, hH, hBr⟩ := hrel
            clear hH3 hBq
            have hX5 := hXw.out _ hBr
            obtain ⟨q2, hq2⟩ : ∃ x, 21 + q = x := ⟨_, rfl⟩
            rw [hq2]
            by_cases hlt : q < 11
            · have hsum : IntKind.i64.wrap ((p : Int) + (q2 : Int)) = (p + q2 : Nat) := by rw [IntKind.wrap_i64]; have := hp0.out; omega
              have hpq : p + q2 < k := by omega
              have hq32 : q2 < 32 := by omega
              obtain ⟨pq, hpqe⟩ : ∃ x, p + q2 = x := ⟨_, rfl⟩
              rw [hpqe] at hsum hpq
              have hfk := hH.free pq
              have hwk := hH.cell pq hpq
              have hP := hH.put pq 0 (by decide)
              have he : p + 21 + q = pq := by omega
              rw [← he, overL_zero, he] at hP
              have hB2 := hBr.setCell (p := ⟨G, pq, none⟩) (Nat.le_refl _) (.int .u8 0)
              replace hpqe := Lib.hid hpqe
              replace hq2 := Lib.hid hq2
              replace he := Lib.hid he
              clear hH hX5
              go_wp2_with fail
              refine ⟨⟨q + 1, by omega, by rw [← Nat.add_assoc, hq2.out]; congr 1, hP, hB2⟩, ?_⟩
              simp only [intOf]
              omega
            · obtain rfl : q = 11 := by omega
              subst hq2
              clear hlt hq
              have x0 := hX5.cell 0
              have x6 := hX5.cell 6
              simp only [List.getElem?_toArray, List.getElem?_cons_zero, List.getElem?_cons_succ] at x0 x6
              go_upto_if 70 with (fail)
              obtain ⟨wa, hwa⟩ : ∃ wa, wa = wr := ⟨_, rfl⟩
              rw [← hwa] at hH hBr hX5 x0 x6 ⊢
              clear hwa
              obtain ⟨m1, hm1⟩ : ∃ x : Nat, (if l = 2 then 33 else 32) = x := ⟨_, rfl⟩
              obtain ⟨m2, hm2⟩ : ∃ x : Nat, (if l = 3 then 37 else m1) = x := ⟨_, rfl⟩
              have hmode : m2 = (if l = 1 then 32 else if l = 2 then 33 else 37) := by
                rw [← hm2, ← hm1]
                rcases (show l = 1 ∨ l = 2 ∨ l = 3 by omega) with e | e | e <;> subst e <;> rfl
              have hm2lt : m2 < 64 := by rw [hmode]; split; decide; split; decide; decide
              replace hmode := Lib.hid hmode
              replace hm1 := Lib.hid hm1
              replace hm2 := Lib.hid hm2
              go_cut [9] (fun s9 wx => wx = wa ∧ s9 = .int .u8 (m1 : Nat))
              case first =>
                by_cases e2 : l = 2
                · have d2 : ((l : Int) == 2) = true := by rw [beq_iff_eq]; omega
                  obtain rfl : m1 = 33 := by rw [← hm1.out, if_pos e2]
                  replace e2 := Lib.hid e2
                  go_wp2_with fail
                  go_meet
                  exact ⟨rfl, rfl⟩
                · have d2 : ((l : Int) == 2) = false := beq_eq_false_iff_ne.2 (by omega)
                  obtain rfl : m1 = 32 := by rw [← hm1.out, if_neg e2]
                  replace e2 := Lib.hid e2
                  go_wp2_with fail
                  go_meet
                  exact ⟨rfl, rfl⟩
              case rest =>
              obtain ⟨rfl, rfl⟩ := hcut
              go_upto_if 73 with (fail)
              go_cut [9] (fun s9 wx => wx = wc ∧ s9 = .int .u8 (m2 : Nat))
              case first =>
                by_cases e2 : l = 3
                · have d2 : ((l : Int) == 3) = true := by rw [beq_iff_eq]; omega
                  obtain rfl : m2 = 37 := by rw [← hm2.out, if_pos e2]
                  replace e2 := Lib.hid e2
                  go_wp2_with fail
                  go_meet
                  exact ⟨rfl, rfl⟩
                · have d2 : ((l : Int) == 3) = false := beq_eq_false_iff_ne.2 (by omega)
                  obtain rfl : m2 = m1 := by rw [← hm2.out, if_neg e2]
                  replace e2 := Lib.hid e2
                  go_wp2_with fail
                  go_meet
                  exact ⟨rfl, rfl⟩
              case rest =>
              obtain ⟨rfl, rfl⟩ := hcut
              obtain ⟨p21, e21⟩ : ∃ x, p + 21 = x := ⟨_, rfl⟩
              have a21 : IntKind.i64.wrap ((p : Int) + 21) = (p21 : Nat) := by rw [IntKind.wrap_i64]; have := hp0.out; omega
              have b21 : p21 < k := by omega
              replace e21 := Lib.hid e21
              obtain ⟨p22, e22⟩ : ∃ x, p + 22 = x := ⟨_, rfl⟩
              have a22 : IntKind.i64.wrap ((p : Int) + 22) = (p22 : Nat) := by rw [IntKind.wrap_i64]; have := hp0.out; omega
              have b22 : p22 < k := by omega
              replace e22 := Lib.hid e22
              obtain ⟨p24, e24⟩ : ∃ x, p + 24 = x := ⟨_, rfl⟩
              have a24 : IntKind.i64.wrap ((p : Int) + 24) = (p24 : Nat) := by rw [IntKind.wrap_i64]; have := hp0.out; omega
              have b24 : p24 < k := by omega
              replace e24 := Lib.hid e24
              obtain ⟨p60, e60⟩ : ∃ x, p + 60 = x := ⟨_, rfl⟩
              have a60 : IntKind.i64.wrap ((p : Int) + 60) = (p60 : Nat) := by rw [IntKind.wrap_i64]; have := hp0.out; omega
              have b60 : p60 < k := by omega
              replace e60 := Lib.hid e60
              obtain ⟨p61, e61⟩ : ∃ x, p + 61 = x := ⟨_, rfl⟩
              have a61 : IntKind.i64.wrap ((p : Int) + 61) = (p61 : Nat) := by rw [IntKind.wrap_i64]; have := hp0.out; omega
              have b61 : p61 < k := by omega
              replace e61 := Lib.hid e61
              obtain ⟨p30, e30⟩ : ∃ x, p + 30 = x := ⟨_, rfl⟩
              have a30 : IntKind.i64.wrap ((p : Int) + 30) = (p30 : Nat) := by rw [IntKind.wrap_i64]; have := hp0.out; omega
              have b30 : p30 < k := by omega
              replace e30 := Lib.hid e30
              obtain ⟨p31, e31⟩ : ∃ x, p + 31 = x := ⟨_, rfl⟩
              have a31 : IntKind.i64.wrap ((p : Int) + 31) = (p31 : Nat) := by rw [IntKind.wrap_i64]; have := hp0.out; omega
              have b31 : p31 < k := by omega
              replace e31 := Lib.hid e31
              obtain ⟨p28, e28⟩ : ∃ x, p + 28 = x := ⟨_, rfl⟩
              have a28 : IntKind.i64.wrap ((p : Int) + 28) = (p28 : Nat) := by rw [IntKind.wrap_i64]; have := hp0.out; omega
              have b28 : p28 < k := by omega
              replace e28 := Lib.hid e28
              obtain ⟨p29, e29⟩ : ∃ x, p + 29 = x := ⟨_, rfl⟩
              have a29 : IntKind.i64.wrap ((p : Int) + 29) = (p29 : Nat) := by rw [IntKind.wrap_i64]; have := hp0.out; omega
              have b29 : p29 < k := by omega
              replace e29 := Lib.hid e29
              obtain ⟨m3, hm3⟩ : ∃ x : Nat, (m2 + if fast then 16 else 0) = x := ⟨_, rfl⟩
              have hm3e : m3 = modeN l fast := by rw [← hm3, hmode.out]; rfl
              have hm3lt : m3 < 256 := by rw [← hm3]; split <;> omega
              replace hm3e := Lib.hid hm3e
              replace hm3 := Lib.hid hm3
              go_upto_if 75 with (fail)
              go_cut [9] (fun s9 wx => wx = wc ∧ s9 = .int .u8 (m3 : Nat))
              case first =>
                cases fast
                · obtain rfl : m3 = m2 := by rw [← hm3.out]; rfl
                  go_wp2_with fail
                  go_meet
                  exact ⟨rfl, rfl⟩
                · obtain rfl : m3 = m2 + 16 := by rw [← hm3.out]; rfl
                  go_wp2_with fail
                  go_meet
                  exact ⟨rfl, by congr 1⟩
              case rest =>
              obtain ⟨rfl, rfl⟩ := hcut
              have fk := hH.free p21
              have ck := hH.cell p21 b21
              have hH4 := hH.put p21 m3 hm3lt
              have hB4 := hBr.setCell (p := ⟨G, p21, none⟩) (Nat.le_refl _) (.int .u8 (m3 : Nat))
              go_upto_region 27 with (fail)
              generalize (wc.setCell ⟨G, p21, none⟩ (.int .u8 (m3 : Nat))) = W4 at hH4 hB4 ⊢
              clear hH hBr fk ck hX5 x0 x6
              obtain ⟨g1, hg1⟩ : ∃ g, upd (overL (overL f p L) (p + 21) (List.replicate 11 0)) p21 m3 = g := ⟨_, rfl⟩
              rw [hg1] at hH4
              replace hg1 := Lib.hid hg1
              obtain ⟨g2, hg2⟩ : ∃ g, (if c = 1 then upd g1 p22 3 else g1) = g := ⟨_, rfl⟩
              obtain ⟨g3, hg3⟩ : ∃ g, (if c = 2 then upd g2 p22 51 else g2) = g := ⟨_, rfl⟩
              have hk3 : g3 = kindF g1 p c := by
                unfold kindF
                rw [← hg3, ← hg2, e22.out]
                by_cases q1 : c = 1
                · rw [if_pos q1, if_pos q1, if_neg (by omega)]
                · rw [if_neg q1, if_neg q1]
              replace hg2 := Lib.hid hg2
              replace hg3 := Lib.hid hg3
              replace hk3 := Lib.hid hk3
              have hX6 := hXw.out _ hB4
              have x1 := hX6.cell 1
              simp only [List.getElem?_toArray, List.getElem?_cons_zero, List.getElem?_cons_succ] at x1
              clear hX6
              go_upto_if 85 with (fail)
              go_cut [9] (fun _ wx => Holds wx G k g2 ∧ Below G w2 wx)
              case first =>
                have fk := hH4.free p22
                have ck := hH4.cell p22 b22
                by_cases q1 : c = 1
                · have d : ((c : Int) == 1) = true := by rw [beq_iff_eq]; omega
                  have hP := hH4.put p22 3 (by decide)
                  obtain rfl : g2 = upd g1 p22 3 := by rw [← hg2.out, if_pos q1]
                  replace q1 := Lib.hid q1
                  go_wp2_with fail
                  go_meet
                  exact ⟨hP, hB4.setCell (p := ⟨G, p22, none⟩) (Nat.le_refl _) _⟩
                · have d : ((c : Int) == 1) = false := beq_eq_false_iff_ne.2 (by omega)
                  obtain rfl : g2 = g1 := by rw [← hg2.out, if_neg q1]
                  replace q1 := Lib.hid q1
                  go_wp2_with fail
                  go_meet
                  exact ⟨hH4, hB4⟩
              case rest =>
              obtain ⟨hH5, hB5⟩ := hcut
              clear hH4 hB4 x1
              have hX6 := hXw.out _ hB5
              have x1 := hX6.cell 1
              simp only [List.getElem?_toArray, List.getElem?_cons_zero, List.getElem?_cons_succ] at x1
              clear hX6
              go_upto_if 92 with (fail)
              go_cut [9] (fun _ wx => Holds wx G k g3 ∧ Below G w2 wx)
              case first =>
                have fk := hH5.free p22
                have ck := hH5.cell p22 b22
                by_cases q1 : c = 2
                · have d : ((c : Int) == 2) = true := by rw [beq_iff_eq]; omega
                  have hP := hH5.put p22 51 (by decide)
                  obtain rfl : g3 = upd g2 p22 51 := by rw [← hg3.out, if_pos q1]
                  replace q1 := Lib.hid q1
                  go_wp2_with fail
                  go_meet
                  exact ⟨hP, hB5.setCell (p := ⟨G, p22, none⟩) (Nat.le_refl _) _⟩
                · have d : ((c : Int) == 2) = false := beq_eq_false_iff_ne.2 (by omega)
                  obtain rfl : g3 = g2 := by rw [← hg3.out, if_neg q1]
                  replace q1 := Lib.hid q1
                  go_wp2_with fail
                  go_meet
                  exact ⟨hH5, hB5⟩
              case rest =>
              obtain ⟨hH6, hB6⟩ := hcut
              clear hH5 hB5 x1
              have hX6 := hXw.out _ hB6
              have x3 := hX6.cell 3
              simp only [List.getElem?_toArray, List.getElem?_cons_zero, List.getElem?_cons_succ] at x3
              have fk := hH6.free p24
              have ck := hH6.cell p24 b24
              obtain ⟨szn, hszn⟩ : ∃ x, sizeN ram = x := ⟨_, rfl⟩
              rw [hszn] at HZ
              have hszl : szn < 256 := by rw [← hszn]; omega
              replace hszn := Lib.hid hszn
              clear hX6 hram
              obtain ⟨zl, hzl⟩ : ∃ x, z % 256 = x := ⟨_, rfl⟩
              obtain ⟨zh, hzh⟩ : ∃ x, z / 256 = x := ⟨_, rfl⟩
              have zl1 : (z : Int) % 256 = (zl : Nat) := by omega
              have zh1 : (z : Int) / 256 = (zh : Nat) := by omega
              have zl2 : zl < 256 := by omega
              have zh2 : zh < 256 := by omega
              replace hzl := Lib.hid hzl
              replace hzh := Lib.hid hzh
              replace hz := Lib.hid hz
              go_wp2_with fail
              refine (HZ.out _).mono ?_
              rintro e wz ⟨rfl, rfl⟩
              go_upto_region 32 with (fail)
              have hH7 := hH6.put p24 szn hszl
              have hB7 := hB6.setCell (p := ⟨G, p24, none⟩) (Nat.le_refl _) (.int .u8 (szn : Nat))
              generalize (World.setCell _ ⟨G, p24, none⟩ (.int .u8 (szn : Nat))) = W7 at hH7 hB7 ⊢
              clear hH6 hB6 x3 fk ck
              have hX6 := hXw.out _ hB7
              have x5 := hX6.cell 5
              simp only [List.getElem?_toArray, List.getElem?_cons_zero, List.getElem?_cons_succ] at x5
              have fk := hH7.free p60
              have ck := hH7.cell p60 b60
              clear hX6
              go_upto_region 33 with (fail)
              have hH8 := hH7.put p60 zl zl2
              have hB8 := hB7.setCell (p := ⟨G, p60, none⟩) (Nat.le_refl _) (.int .u8 (zl : Nat))
              generalize (W7.setCell ⟨G, p60, none⟩ (.int .u8 (zl : Nat))) = W8 at hH8 hB8 ⊢
              clear hH7 hB7 x5 fk ck
              have hX6 := hXw.out _ hB8
              have x5 := hX6.cell 5
              simp only [List.getElem?_toArray, List.getElem?_cons_zero, List.getElem?_cons_succ] at x5
              have fk := hH8.free p61
              have ck := hH8.cell p61 b61
              clear hX6
              go_upto_region 34 with (fail)
              have hH9 := hH8.put p61 zh zh2
              have hB9 := hB8.setCell (p := ⟨G, p61, none⟩) (Nat.le_refl _) (.int .u8 (zh : Nat))
              generalize (W8.setCell ⟨G, p61, none⟩ (.int .u8 (zh : Nat))) = W9 at hH9 hB9 ⊢
              clear hH8 hB8 x5 fk ck zl1 zh1
              obtain ⟨F, hF⟩ : ∃ F, upd (upd (upd g3 p24 szn) p60 zl) p61 zh = F := ⟨_, rfl⟩
              rw [hF] at hH9
              have hFin : F = refF f p l c ram t z fast := by
                have w1 := hk3.out
                have w2' := hg1.out
                have w3 := hm3e.out
                have w4 := hszn.out
                have w5 := hzl.out
                have w6 := hzh.out
                unfold refF
                rw [← hF, w1, ← w2', w3, ← w4, ← w5, ← w6, ← e21.out, ← e24.out, ← e60.out, ← e61.out, hLe.out]
              replace hFin := Lib.hid hFin
              clear hF hXw
              go_wp2_with fail
              go_loopw [10, 11] (fun s i wy => ∃ q : Nat, q ≤ k ∧ i = .int .i64 q ∧ s = .int .i64 (sumTo F q : Nat) ∧ wy = W9) (fun _ i _ => k - (intOf i).toNat)
              case atStart => exact ⟨0, Nat.zero_le _, rfl, rfl, rfl⟩
              case round =>
                obtain ⟨q, hq, rfl, rfl, rfl⟩ := hrel
                by_cases hlt : q < k
                · have c0 := hH9.cell q hlt
                  have hx := hH9.byte q hlt
                  have hs := sumTo_lt F q
                  obtain ⟨s2, hs2⟩ : ∃ x, sumTo F (q + 1) = x := ⟨_, rfl⟩
                  have hadd : ((sumTo F q : Int) + (F q : Int)) % 65536 = (s2 : Nat) := by
                    rw [← hs2, sumTo]
                    omega
                  replace hs2 := Lib.hid hs2
                  generalize sumTo F q = s1 at *
                  generalize F q = x at *
                  go_wp2_with fail
                  clear hs hx c0
                  refine ⟨⟨q + 1, by omega, by congr 1, by rw [hadd, hs2.out], trivial⟩, ?_⟩
                  simp only [intOf]
                  omega
                · obtain rfl : q = k := by omega
                  have hs := sumTo_lt F q
                  obtain ⟨s, hs0⟩ : ∃ x, sumTo F q = x := ⟨_, rfl⟩
                  rw [hs0] at hs ⊢
                  replace hs0 := Lib.hid hs0
                  obtain ⟨dd, hdd⟩ : ∃ x, 65535 - s = x := ⟨_, rfl⟩
                  have hsub : IntKind.i64.wrap (65535 - (s : Int)) = (dd : Nat) := by rw [IntKind.wrap_i64]; omega
                  have dd9 : dd < 65536 := by omega
                  obtain ⟨sl, hsl⟩ : ∃ x, s % 256 = x := ⟨_, rfl⟩
                  obtain ⟨sh, hsh⟩ : ∃ x, s / 256 = x := ⟨_, rfl⟩
                  obtain ⟨cl, hcl⟩ : ∃ x, dd % 256 = x := ⟨_, rfl⟩
                  obtain ⟨chh, hch⟩ : ∃ x, dd / 256 = x := ⟨_, rfl⟩
                  have sl1 : (s : Int) % 256 = (sl : Nat) := by omega
                  have sh1 : (s : Int) / 256 = (sh : Nat) := by omega
                  have cl1 : (dd : Int) % 256 = (cl : Nat) := by omega
                  have ch1 : (dd : Int) / 256 = (chh : Nat) := by omega
                  have sl2 : sl < 256 := by omega
                  have sh2 : sh < 256 := by omega
                  have cl2 : cl < 256 := by omega
                  have chh2 : chh < 256 := by omega
                  replace hdd := Lib.hid hdd
                  replace hsl := Lib.hid hsl
                  replace hsh := Lib.hid hsh
                  replace hcl := Lib.hid hcl
                  replace hch := Lib.hid hch
                  clear hs dd9 hlt hq
                  have fk := hH9.free p30
                  have ck := hH9.cell p30 b30
                  go_upto_region 40 with (fail)
                  have hHa := hH9.put p30 sl sl2
                  have hBa := hB9.setCell (p := ⟨G, p30, none⟩) (Nat.le_refl _) (.int .u8 (sl : Nat))
                  generalize (World.setCell _ ⟨G, p30, none⟩ (.int .u8 (sl : Nat))) = Wa at hHa hBa ⊢
                  clear hH9 hB9 fk ck
                  have fk := hHa.free p31
                  have ck := hHa.cell p31 b31
                  go_upto_region 41 with (fail)
                  have hHb := hHa.put p31 sh sh2
                  have hBb := hBa.setCell (p := ⟨G, p31, none⟩) (Nat.le_refl _) (.int .u8 (sh : Nat))
                  generalize (World.setCell _ ⟨G, p31, none⟩ (.int .u8 (sh : Nat))) = Wb at hHb hBb ⊢
                  clear hHa hBa fk ck
                  have fk := hHb.free p28
                  have ck := hHb.cell p28 b28
                  go_upto_region 42 with (fail)
                  have hHc := hHb.put p28 cl cl2
                  have hBc := hBb.setCell (p := ⟨G, p28, none⟩) (Nat.le_refl _) (.int .u8 (cl : Nat))
                  generalize (World.setCell _ ⟨G, p28, none⟩ (.int .u8 (cl : Nat))) = Wc at hHc hBc ⊢
                  clear hHb hBb fk ck
                  have fk := hHc.free p29
                  have ck := hHc.cell p29 b29
                  go_upto_region 43 with (fail)
                  have hHd := hHc.put p29 chh chh2
                  have hBd := hBc.setCell (p := ⟨G, p29, none⟩) (Nat.le_refl _) (.int .u8 (chh : Nat))
                  generalize (World.setCell _ ⟨G, p29, none⟩ (.int .u8 (chh : Nat))) = Wd at hHd hBd ⊢
                  clear hHc hBc fk ck
                  go_wp2_with fail
                  go_ret2
                  refine ⟨G, rfl, ?_, by rw [hXe.out]; exact hXG2, by rw [hXe.out]; exact hwin.out _ hBd⟩
                  have w1 := hFin.out
                  rw [← w1, hs0.out]
                  unfold sealF
                  rw [e28.out, e29.out, e30.out, e31.out, hdd.out, hsl.out, hsh.out, hcl.out, hch.out]
                  exact hHd
end Go.Proofs.Ytggjaoihfhianaa
