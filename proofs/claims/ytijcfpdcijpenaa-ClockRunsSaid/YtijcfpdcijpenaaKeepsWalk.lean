/-
  The walk of the statement on taking the least time away.
-/
import Derived.Test.YtijcfpdcijpenaaTwo
import Derived.Test.YtijcfpdcijpenaaTimes
import Derived.Test.YtijcfpdcijpenaaSeen
namespace Go.Proofs.Ytijcfpdcijpenaa.clockKeeps
open Go.RowKit Go.Shelf
set_option maxRecDepth 100000
set_option maxHeartbeats 8000000

theorem low_get {ts : List Int} {n : Nat} (hl : ts.length = n) (least : Int) {i : Nat} (hi : i < n) : (lowered ts least n)[i]?.getD 0 = ts[i]?.getD 0 - least := by
  rw [lowered_get _ _ _ _ (by omega), if_pos hi]
theorem low_ahd {ts : List Int} {n : Nat} (hl : ts.length = n) (least : Int) {i j : Nat} (hi : i < n) (hj : j < n) : ahd (lowered ts least n) i j = ahd ts i j := by
  rw [Bool.eq_iff_iff, ahd_iff, ahd_iff, low_get hl least hi, low_get hl least hj]; omega
theorem low_best {ts : List Int} {n : Nat} (hl : ts.length = n) (hn : 0 < n) (least : Int) : best (lowered ts least n) n = best ts n := by
  have hb := best_lt ts n hn
  exact best_of _ _ _ hb (fun k hk hne => by rw [low_ahd hl least hb hk]; exact best_spec ts n hn k hk hne)
theorem low_ticks (x y l s : Int) (i j : Nat) : ticksOf (x - l) (y - l) s i j = ticksOf x y s i j := by
  have : unitsOf (x - l) (y - l) i j = unitsOf x y i j := by unfold unitsOf; split <;> omega
  unfold ticksOf; rw [this]
theorem low_room {ts ss : List Int} {n i : Nat} {r : Int} (hl : ts.length = n) (least : Int) (hi : i < n) (h : RoomIs ts ss n i r) : RoomIs (lowered ts least n) ss n i r := by
  rcases h with ⟨j, hj, hne, hf, rfl⟩ | h
  · refine .inl ⟨j, hj, hne, fun k hk hki => by rw [low_ahd hl least hk hj]; exact hf k hk hki, ?_⟩
    rw [low_get hl least hi, low_get hl least hj, low_ticks]
  · exact .inr h
theorem room_unique {ts ss : List Int} {n i : Nat} {r r' : Int} (h : RoomIs ts ss n i r) (h' : RoomIs ts ss n i r') : r = r' := by
  rcases h with ⟨j, hj, hne, hf, rfl⟩ | ⟨ha, rfl⟩
  · rcases h' with ⟨j', hj', hne', hf', rfl⟩ | ⟨ha', rfl⟩
    · by_cases e : j = j'
      · rw [e]
      · have h1 := hf j' hj' hne'
        have h2 := ahd_total (fun e' => e e'.symm) h1
        rw [hf' j hj hne] at h2
        cases h2
    · exact absurd (ha' j hj) hne
  · rcases h' with ⟨j', hj', hne', _, rfl⟩ | ⟨_, rfl⟩
    · exact absurd (ha j' hj') hne'
    · rfl
theorem low_min {ts : List Int} {n : Nat} (hn : 0 < n) {a : Nat} (ha : a < n) : ts[best ts n]?.getD 0 ≤ ts[a]?.getD 0 := by
  by_cases e : a = best ts n
  · rw [e]; omega
  · have := best_spec ts n hn a ha e
    rw [ahd_iff] at this
    omega
theorem low_timed {ts : List Int} {n : Nat} (hl : ts.length = n) (hn : 0 < n) (ht : Timed ts) : Timed (lowered ts (ts[best ts n]?.getD 0) n) := by
  intro a
  by_cases ha : a < n
  · rw [low_get hl _ ha]
    have := ht a
    have := ht (best ts n)
    have := low_min (ts := ts) hn ha
    omega
  · rw [List.getElem?_eq_none (by rw [lowered_length]; omega)]; simp
theorem row_below {w w' : World} {B : Nat} {e : TypeId} {s n : Nat} {v : Value} {xs : List Value} (h : w.ownsRow B e s v n xs) (hb : Below w.heap.size w w') : w'.ownsRow B e s v n xs :=
  h.kept (row := none) ⟨hb.os, hb.tape, hb.output, hb.size, fun k hk _ => hb.block k hk⟩ (by cases hv : v.ownBlock <;> simp)
theorem rows_apart {w : World} {B B' : Nat} {e e' : TypeId} {s s' n n' : Nat} {v v' : Value} {xs xs' : List Value} (h : w.ownsRow B e s v n xs) (h' : w.ownsRow B' e' s' v' n' xs') (hne : e ≠ e') : v.ownBlock = none ∨ v.ownBlock ≠ v'.ownBlock := by
  rcases h.2 with ⟨rfl, _⟩ | ⟨g, cap, cur, rfl, _, hh, _⟩
  · exact .inl rfl
  · refine .inr (fun e0 => own_apart h' (g := g) (t := e) (cs := cur) hh (fun e1 => hne e1.symm) ?_)
    rw [← e0]; rfl
theorem row_cell3 {w : World} {B g cap n : Nat} {ts : List Int} (h : w.ownsRow B 3 1 (.slice (some ⟨g, 0, none⟩) n cap) n (vals .i64 ts)) (hl : ts.length = n) {i : Nat} (hi : i < n) : w.cell? ⟨g, i, none⟩ = some (.int .i64 (ts[i]?.getD 0)) := by
  rw [h.cellAt i (by omega)]
  have : i < ts.length := by omega
  simp [vals, this]
theorem int_info : (Try.prog.info? 3).map (fun i => (i.zero, i.size, i.bytes)) = some (some (.int .i64 0), 1, 8) := by kernel_rfl

/-- The rooms of the first k threads. -/
def Rooms (ts ss : List Int) (n k : Nat) (rs : List Int) : Prop := rs.length = k ∧ ∀ j, j < k → RoomIs ts ss n j (rs[j]?.getD 0)
theorem rooms_step {ts ss : List Int} {n k : Nat} {rs : List Int} {r : Int} (h : Rooms ts ss n k rs) (hr : RoomIs ts ss n k r) : Rooms ts ss n (k + 1) (rs ++ [r]) := by
  refine ⟨by simp [h.1], fun j hj => ?_⟩
  by_cases e : j = k
  · subst e
    rw [List.getElem?_append_right (by have := h.1; omega), h.1]
    simpa using hr
  · rw [List.getElem?_append_left (by rw [h.1]; omega)]
    exact h.2 j (by omega)

theorem walk0 (a0 : Option Addr) (cap0 : Nat) (ss : List Int) (a1 : Option Addr) (cap1 : Nat) (zs : List Int) (w : World) (l0 : Lies .i64 w a0 ss) (l1 : Lies .i64 w a1 zs)
    (r0 : ss.length * 8 ≤ 140737488351232) (r1 : zs.length * 8 ≤ 140737488351232) :
    Calls Try.prog 4 #[.slice a0 ss.length cap0, .slice a1 zs.length cap1] w fun e w' => e = .returned (.bool true) ∧ Below w.heap.size w w' := by
  have HT := Lib.hid (two_any w)
  have HCp := Lib.hid copy_any
  have HG := Lib.hid new_good
  have HBd := Lib.hid new_bad
  have HS := Lib.hid set_any
  go_enter Try.func4, Try.ntmps4
  go_wp2_with fail
  refine HT.out.mono ?_
  rintro e w1 ⟨rfl, hB1⟩
  have l0' := l0.below hB1
  have l1' := l1.below hB1
  clear HT l0 l1
  go_wp2_with fail
  refine (HCp.out a0 cap0 ss w1 l0' r0).mono ?_
  rintro e w2 ⟨rfl, hW2, hB2, -⟩
  have hB2' := hB1.trans (hB2.mono hB1.size)
  have l1' := l1'.below hB2
  have hlow2 := hB2'.size
  clear l0' hB1
  by_cases he : newErr ss = 0
  · have hg := good_of ss he
    go_wp2_with fail
    refine (HG.out (some ⟨w1.heap.size, 0, none⟩) ss.length ss w2 (Lies.whole hW2) hg).mono ?_
    rintro e w3 ⟨c, bt, capT, bm, rfl, hC, hB3⟩
    have hB3' := hB2'.trans (hB3.mono hB2'.size)
    have l1' := l1'.below hB3
    have hlow : w.heap.size ≤ bm := Nat.le_trans hlow2 hC.low.2
    clear hW2 hB2 hB2' he HBd HG hB3
    go_wp2_with fail
    refine (HCp.out a1 cap1 zs w3 l1' r1).mono ?_
    rintro e w4 ⟨rfl, hW4, hB4, -⟩
    have hC4 := hC.below hB4
    have hB4' := hB3'.trans (hB4.mono hB3'.size)
    clear HCp l1' hC hB4 hB3'
    go_wp2_with fail
    refine (HS.out w3.heap.size zs.length zs w4 hC4 hg hW4 (by unfold maxLen; omega)).mono ?_
    rintro e w5 ⟨rfl, hB5, hset⟩
    have hB5' := hB4'.trans (hB5.mono hlow)
    clear HS hW4 hC4 hB5 hB4'
    by_cases hs : setErr ss.length zs = 0
    · obtain ⟨hlen, ht⟩ := timed_of hs
      have hC5 := hset hs
      have hnpos := hg.1
      have hn1 := hg.2.1
      have Hlen := Lib.hid hlen
      have Hs := Lib.hid hs
      have Ht := Lib.hid ht
      clear hset hs hlen ht
      have HB1 := Lib.hid (times_any w5 hC5 hg)
      rw [Hs.out]
      go_wp2_with fail
      refine HB1.out.mono ?_
      rintro e w6 ⟨g1, capg1, rfl, hown1, hB6⟩
      have hC6 := hC5.below hB6
      have hB6' := hB5'.trans (hB6.mono hB5'.size)
      have hg1 := hown1.lt g1 rfl
      have hbg1 : g1 ≠ bm := by have := hC5.times.lt; omega
      clear HB1 hC5 hB6 hB5'
      have HX := Lib.hid (next_any w6 hC6 hg)
      have hbl := best_lt zs ss.length hg.1
      go_wp2_with fail
      refine HX.out.mono ?_
      rintro e w7 ⟨rfl, hB7⟩
      have hC7 := hC6.below hB7
      have hB7' := hB6'.trans (hB7.mono hB6'.size)
      have hown1' := row_below hown1 hB7
      have hrow1 := fun a (ha : a < ss.length) => row_cell hown1' Hlen.out ha
      have hg1' : g1 < w7.heap.size := Nat.lt_of_lt_of_le hg1.2 hB7.size
      have HL1 := Lib.hid hrow1
      have hbm7 : bm < w7.heap.size := hC7.times.lt
      clear HX hC6 hB7 hB6' hown1 hown1' hg1 hrow1
      obtain ⟨i, hi0⟩ : ∃ i, best zs ss.length = i := ⟨_, rfl⟩
      rw [hi0] at hbl ⊢
      have HI := Lib.hid hi0
      clear hi0
      obtain ⟨j0, hj, hz0, hz1, hz2⟩ := info_parts int_info
      go_wp2
      go_loopw [9, 10] (fun v x wr => ∃ (k : Nat) (rs : List Int), k ≤ ss.length ∧ x = .int .i64 k ∧ Hid (Rooms zs ss ss.length k rs) ∧ wr.ownsRow w7.heap.size 3 1 v k (vals .i64 rs) ∧ Clk wr w2.heap.size c bt capT bm ss zs ∧ Below w7.heap.size w7 wr) (fun _ x _ => ss.length - (intOf x).toNat)
      case atStart => exact ⟨0, [], Nat.zero_le _, rfl, Lib.hid ⟨rfl, fun j hj => by omega⟩, World.ownsRow_nil _ _ _ _, hC7, Below.refl _ _⟩
      case round =>
        obtain ⟨k, rs, hk, rfl, hR, hown, hCk, hBk⟩ := hrel
        have HLn := Lib.hid (len_any wr hCk hn1)
        by_cases hlt : k < ss.length
        · have HR := Lib.hid (room_any k wr hCk hg Ht.out hlt)
          go_wp2_with fail
          refine HLn.out.mono ?_
          rintro e wz ⟨rfl, rfl⟩
          go_wp2_with fail
          refine HR.out.mono ?_
          rintro e w8 ⟨r, rfl, hr, hB8⟩
          have hC8 := hCk.below hB8
          have hB8' := hBk.trans (hB8.mono hBk.size)
          have hown8 := row_below hown hB8
          have hR8 := Lib.hid (rooms_step hR.out hr)
          clear HR HLn hr hCk hB8 hBk hown hR
          go_wp2_with (at_builtin; refine wpList_append_own _ rfl _ _ 45 rfl w7.heap.size 3 j0 _ 1 8 Try.underlying45 hj hz0 hz1 hz2 rfl (by decide) _ _ _ rfl (hown8.alloc _) ⟨w8.heap.size, 0, none⟩ 1 1 [.int .i64 r] rfl rfl ?c1 ?c2 ?c3 ?c4 ?c5 ?_)
          case c1 => exact cell_one_new _ _ _
          case c2 => intro u hu; simp at hu; subst hu; rfl
          case c3 => unfold maxLen; omega
          case c4 => omega
          case c5 => have := hB8'.size; simp; omega
          intro v' w9 hown9 hgrow _
          have hC9 : Clk w9 w2.heap.size c bt capT bm ss zs := by
            have h0 := hC8.alloc (.cells #[.int .i64 r] 3)
            exact ⟨h0.head.grown hgrow (own_apart hown8 hC8.head (by decide)), h0.rows.kept hgrow (rows_apart hC8.rows hown8 (by decide)), h0.times.grown hgrow (own_apart hown8 hC8.times (by decide)), h0.size, h0.low⟩
          have hB9 : Below w7.heap.size w7 w9 := (hB8'.alloc hB8'.size _).grown hgrow (by have := hB8'.size; simp; omega) (fun q hq => (hown8.lt q hq).1)
          have e9 : vals .i64 rs ++ [.int .i64 r] = vals .i64 (rs ++ [r]) := by simp [vals]
          rw [e9] at hown9
          clear hown8 hgrow hC8 hB8' e9
          go_wp2
          go_roundw
          case rel => exact ⟨k + 1, rs ++ [r], by omega, by go_num, hR8, hown9, hC9, hB9⟩
          case measure => simp [intOf]; omega
        · obtain rfl : k = ss.length := by omega
          clear hC7
          have hBw : Below w.heap.size w wr := hB7'.trans (hBk.mono hB7'.size)
          go_wp2_with fail
          refine HLn.out.mono ?_
          rintro e wz ⟨rfl, rfl⟩
          obtain ⟨gr, capr, rfl⟩ := row_some hown hnpos
          have hgr := hown.lt gr rfl
          have HRow := Lib.hid (fun a (ha : a < ss.length) => row_cell3 hown hR.out.1 ha)
          have HL1' := Lib.hid (fun a (ha : a < ss.length) => (hBk.cell (p := ⟨g1, a, none⟩) hg1').trans (HL1.out a ha))
          have hg1k : g1 < wr.heap.size := Nat.lt_of_lt_of_le hg1' hBk.size
          have hbmr : bm < w7.heap.size := hbm7
          have HN := Lib.hid (norm_any wr hCk hg Ht.out)
          rw [HI.out] at HN
          clear HLn HL1 hown
          go_wp2_with fail
          refine HN.out.mono ?_
          rintro e w10 ⟨rfl, hC10, hO10⟩
          have hle := Lib.hid (fun a (ha : a < ss.length) => (show 0 ≤ zs[i]?.getD 0 ∧ zs[i]?.getD 0 ≤ zs[a]?.getD 0 ∧ zs[a]?.getD 0 ≤ 1152921504606846976 from by
            have h1 := low_min (ts := zs) hnpos ha
            rw [HI.out] at h1
            have h2 := Ht.out i
            have h3 := Ht.out a
            omega))
          have hlow2t := Lib.hid (fun a (ha : a < ss.length) => low_get Hlen.out (zs[i]?.getD 0) ha)
          have hbest2 : Hid (best (lowered zs (zs[i]?.getD 0) ss.length) ss.length = i) := Lib.hid (by rw [low_best Hlen.out hnpos, HI.out])
          have htm2 : Hid (Timed (lowered zs (zs[i]?.getD 0) ss.length)) := Lib.hid (by have := low_timed Hlen.out hnpos Ht.out; rwa [HI.out] at this)
          have hlen2 : Hid ((lowered zs (zs[i]?.getD 0) ss.length).length = ss.length) := Lib.hid (by rw [lowered_length]; exact Hlen.out)
          have hroom2 := Lib.hid (fun a (ha : a < ss.length) => low_room (ss := ss) Hlen.out (zs[i]?.getD 0) ha (hR.out.2 a ha))
          have hB10 : Below w.heap.size w w10 := hBw.trans (only_below hO10 hlow (Nat.le_of_lt (Nat.lt_of_lt_of_le hbm7 hBk.size)))
          have HL1'' := Lib.hid (fun a (ha : a < ss.length) => (World.cell?_of_block (w := wr) (w' := w10) (a := (⟨g1, a, none⟩ : Addr)) (hO10.block g1 hg1k (fun e => hbg1 (by injection e)))).trans (HL1'.out a ha))
          have HRow' := Lib.hid (fun a (ha : a < ss.length) => (World.cell?_of_block (w := wr) (w' := w10) (a := (⟨gr, a, none⟩ : Addr)) (hO10.block gr hgr.2 (fun e => by injection e; omega))).trans (HRow.out a ha))
          have hg1m : g1 < w10.heap.size := Nat.lt_of_lt_of_le hg1k hO10.size
          have hgrm : gr < w10.heap.size := Nat.lt_of_lt_of_le hgr.2 hO10.size
          clear HN HRow HL1' hO10 hCk hBk hBw hR hB7'
          generalize lowered zs (zs[i]?.getD 0) ss.length = ts2 at *
          generalize hzi : zs[i]?.getD 0 = l at *
          have HZI := Lib.hid hzi
          clear hzi
          have HT2 := Lib.hid (times_any w10 hC10 hg)
          go_wp2_with fail
          refine HT2.out.mono ?_
          rintro e w11 ⟨g2, capg2, rfl, hown2, hB11⟩
          have hC11 := hC10.below hB11
          have hB11' := hB10.trans (hB11.mono hB10.size)
          have HX2 := Lib.hid (next_any w11 hC11 hg)
          rw [hbest2.out] at HX2
          have hg2 := (hown2.lt g2 rfl).2
          have HL2 := Lib.hid (fun a (ha : a < ss.length) => row_cell hown2 hlen2.out ha)
          clear HT2 hC10 hown2
          go_wp2_with fail
          refine HX2.out.mono ?_
          rintro e w12 ⟨rfl, hB12⟩
          have hC12 := hC11.below hB12
          have hB12' := hB11'.trans (hB12.mono hB11'.size)
          have hBB := hB11.trans (hB12.mono hB11.size)
          have HA1 := Lib.hid (fun a (ha : a < ss.length) => (hBB.cell (p := ⟨g1, a, none⟩) hg1m).trans (HL1''.out a ha))
          have HA2 := Lib.hid (fun a (ha : a < ss.length) => ((hB12.cell (p := ⟨g2, a, none⟩) hg2).trans (HL2.out a ha)))
          have HA3 := Lib.hid (fun a (ha : a < ss.length) => (hBB.cell (p := ⟨gr, a, none⟩) hgrm).trans (HRow'.out a ha))
          have hsz : g1 < w12.heap.size ∧ g2 < w12.heap.size ∧ gr < w12.heap.size := ⟨Nat.lt_of_lt_of_le hg1m hBB.size, Nat.lt_of_lt_of_le hg2 hB12.size, Nat.lt_of_lt_of_le hgrm hBB.size⟩
          have hz := HA2.out i hbl
          rw [hlow2t.out i hbl] at hz
          have ez : zs[i]?.getD 0 - l = 0 := by rw [HZI.out]; omega
          rw [ez] at hz
          clear ez HX2 hC11 hB11 hB12 hB11' HL1'' HL2 HRow' hBB hB10
          obtain ⟨z1, z2, z3⟩ := hsz
          have HZ1 := Lib.hid z1
          have HZ2 := Lib.hid z2
          have HZ3 := Lib.hid z3
          clear z1 z2 z3 hgr hg1m hgrm hg1k hg2 hbmr hbm7 hg1' hbg1
          have hdl : decide (ss.length ≤ i) = false := by simp; omega
          have hdi : decide ((i : Int) < 0) = false := by simp
          go_wp2
          go_loopw [15] (fun x wq => ∃ k : Nat, k ≤ ss.length ∧ x = .int .i64 k ∧ Clk wq w2.heap.size c bt capT bm ss ts2 ∧ Below w12.heap.size w12 wq) (fun x _ => ss.length - (intOf x).toNat)
          case atStart => exact ⟨0, Nat.zero_le _, rfl, hC12, Below.refl _ _⟩
          case round =>
            obtain ⟨k, hk2, rfl, hCq, hBq⟩ := hrel
            clear hz hC12
            by_cases hltk : k < ss.length
            · have HR := Lib.hid (room_any k _ hCq hg htm2.out hltk)
              go_wp2_with fail
              refine HR.out.mono ?_
              rintro e w13 ⟨r, rfl, hr, hB13⟩
              obtain rfl := room_unique (hroom2.out k hltk) hr
              have hC13 := hCq.below hB13
              have hB13' := hBq.trans (hB13.mono hBq.size)
              have p1 := (hB13'.cell (p := ⟨g1, k, none⟩) HZ1.out).trans (HA1.out k hltk)
              have p2 := (hB13'.cell (p := ⟨g2, k, none⟩) HZ2.out).trans (HA2.out k hltk)
              have p3 := (hB13'.cell (p := ⟨gr, k, none⟩) HZ3.out).trans (HA3.out k hltk)
              have hd := hle.out k hltk
              have he2 := hlow2t.out k hltk
              clear HR hCq hB13 hBq hr
              generalize rs[k]?.getD 0 = rk at *
              generalize zs[k]?.getD 0 = x at *
              generalize ts2[k]?.getD 0 = y at *
              obtain ⟨d0, d1, d2⟩ := hd
              have t1 : (x - y != l) = false := by rw [he2]; simp; omega
              have t2 : decide (y < 0) = false := by rw [he2]; simp; omega
              have y0 : 0 ≤ y := by omega
              have y1 : y ≤ 1152921504606846976 := by omega
              have t3 : (rk != rk) = false := by simp
              clear he2
              go_wp2
              go_quiet (fail)
              go_wp2
              go_roundw
              case rel =>
                exact ⟨k + 1, by omega, by go_num, hC13.drewN _, below_drewN hB13' _⟩
              case measure => simp [intOf]; omega
            · obtain rfl : k = ss.length := by omega
              have HN2 := Lib.hid (norm_any _ hCq hg htm2.out)
              rw [hbest2.out] at HN2
              have ez : ts2[i]?.getD 0 = 0 := by rw [hlow2t.out i hbl, HZI.out]; omega
              rw [ez] at HN2
              have hbq := Nat.le_of_lt hCq.times.lt
              clear ez
              go_wp2_with fail
              refine HN2.out.mono ?_
              rintro e w14 ⟨rfl, -, hO14⟩
              go_wp2
              go_ret
              exact ⟨rfl, (hB12'.trans (hBq.mono hB12'.size)).trans (only_below hO14 hlow hbq)⟩
    · have hs' : (setErr ss.length zs != 0) = true := by rw [bne_iff_ne]; exact hs
      clear hset hs
      go_wp2
      go_ret
      exact ⟨rfl, hB5'⟩
  · have he' : (newErr ss != 0) = true := by rw [bne_iff_ne]; exact he
    have HB := Lib.hid (HBd.out (some ⟨w1.heap.size, 0, none⟩) ss.length ss w2 (Lies.whole hW2) (by unfold maxLen; omega) he)
    clear he HG
    go_wp2_with fail
    refine HB.out.mono ?_
    rintro e w3 ⟨rfl, hB3⟩
    go_wp2
    go_ret
    exact ⟨rfl, hB2'.trans (hB3.mono hB2'.size)⟩
theorem walk (a0 : Option Addr) (len0 cap0 : Nat) (z0 : List Int) (a1 : Option Addr) (len1 cap1 : Nat) (z1 : List Int) (w : World) (w0 : Seen .i64 8 w a0 len0 z0) (w1 : Seen .i64 8 w a1 len1 z1) :
    Calls Try.prog 4 #[.slice a0 len0 cap0, .slice a1 len1 cap1] w fun e w' => e = .returned (.bool true) ∧ Below w.heap.size w w' := by
  obtain ⟨rfl, l0, r0, _⟩ := w0
  obtain ⟨rfl, l1, r1, _⟩ := w1
  exact walk0 a0 cap0 z0 a1 cap1 z1 w l0 l1 r0 r1
end Go.Proofs.Ytijcfpdcijpenaa.clockKeeps
