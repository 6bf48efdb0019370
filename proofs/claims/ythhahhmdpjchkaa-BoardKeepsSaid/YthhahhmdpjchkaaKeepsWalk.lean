/-
  BoardKeeps: the walk.
-/
import Derived.Test.YthhahhmdpjchkaaOpenInts
import Derived.Test.YthhahhmdpjchkaaDecodesWalk
namespace Go.Proofs.Ythhahhmdpjchkaa
open Go.RowKit Go.Shelf
set_option maxRecDepth 100000
set_option maxHeartbeats 1000000
namespace boardKeeps
theorem row_below {w w' : World} {B : Nat} {e : TypeId} {s n : Nat} {v : Value} {xs : List Value} (h : w.ownsRow B e s v n xs) (hb : Below w.heap.size w w') : w'.ownsRow B e s v n xs :=
  h.kept (row := none) ⟨hb.os, hb.tape, hb.output, hb.size, fun k hk _ => hb.block k hk⟩ (by cases hv : v.ownBlock <;> simp)
theorem row_some {w : World} {B : Nat} {e : TypeId} {s n : Nat} {v : Value} {xs : List Value} (h : w.ownsRow B e s v n xs) (hn : 0 < n) : ∃ g cap, v = .slice (some ⟨g, 0, none⟩) n cap := by
  rcases h.2 with ⟨_, h0⟩ | ⟨g, cap, cur, rfl, _⟩
  · omega
  · exact ⟨g, cap, rfl⟩
theorem u8_info : (Try.prog.info? 5).map (fun i => (i.zero, i.size, i.bytes)) = some (some (.int .u8 0), 1, 1) := by kernel_rfl
/-- What has been read of the first j addresses. -/
def reads (h : Nat → Nat) (j : Nat) : List Value := (List.range j).map fun i => Value.int .u8 (h i : Nat)
theorem reads_length (h : Nat → Nat) (j : Nat) : (reads h j).length = j := by simp [reads]
theorem reads_step (h : Nat → Nat) (j : Nat) : reads h j ++ [Value.int .u8 (h j : Nat)] = reads h (j + 1) := by simp [reads, List.range_succ]
theorem readN_wrote (s t : Nat × Nat) (f g : Nat → Nat) (x : Nat) : readN t f (wrote s g x) = if s.1 = 2 ∧ t = s then x else readN t f g := by
  obtain ⟨K, A⟩ := s
  obtain ⟨K', A'⟩ := t
  unfold wrote
  by_cases hK : K = 2
  · subst hK
    rw [if_pos rfl]
    by_cases h : K' = 2 ∧ A' = A
    · obtain ⟨rfl, rfl⟩ := h
      rw [if_pos ⟨rfl, rfl⟩]
      show (if (2 : Nat) = 1 then _ else if (2 : Nat) = 2 then upd g A' x A' else 0) = x
      rw [if_neg (by decide), if_pos rfl]
      simp [upd]
    · rw [if_neg (fun e => h (by simpa using e.2))]
      unfold readN
      dsimp only
      by_cases h1 : K' = 1
      · rw [if_pos h1, if_pos h1]
      · rw [if_neg h1, if_neg h1]
        by_cases h2 : K' = 2
        · rw [if_pos h2, if_pos h2]
          unfold upd
          rw [if_neg (fun e => h ⟨h2, e⟩)]
        · rw [if_neg h2, if_neg h2]
  · rw [if_neg hK, if_neg (fun e => hK e.1)]
theorem readN_lt {s : Nat × Nat} {f g : Nat → Nat} {n k : Nat} (h1 : s.1 = 1 → s.2 < n) (h2 : s.1 = 2 → s.2 < k) (hf : ∀ i, i < n → f i < 256) (hg : ∀ i, i < k → g i < 256) : readN s f g < 256 := by
  unfold readN
  split
  · exact hf _ (h1 (by assumption))
  · split
    · exact hg _ (h2 (by assumption))
    · decide
theorem opc {W : World} {O : Nat} {a b c : Value} (h : Whole W O 31 #[a, b, c]) : W.cell? ⟨O, 0, none⟩ = some a ∧ W.cell? ⟨O, 1, none⟩ = some b ∧ W.cell? ⟨O, 2, none⟩ = some c := ⟨h.cell 0, h.cell 1, h.cell 2⟩
theorem spc {W : World} {O : Nat} {a b : Value} (h : Whole W O 33 #[a, b]) : W.cell? ⟨O, 0, none⟩ = some a ∧ W.cell? ⟨O, 1, none⟩ = some b := ⟨h.cell 0, h.cell 1⟩
theorem row_only {w w' : World} {a : Option Addr} {n M : Nat} {f : Nat → Nat} (h : Row w a n f) (o : w.grownBy w' (some M)) (hne : ∀ b i, a = some ⟨b, i, none⟩ → b ≠ M) : Row w' a n f := by
  rcases h with ⟨h0, h | ⟨b, i, rfl, hlt, hc⟩⟩
  · exact ⟨h0, .inl h⟩
  · have hb := o.block b hlt (fun e => hne b i rfl (by injection e))
    exact ⟨h0, .inr ⟨b, i, rfl, Nat.lt_of_lt_of_le hlt o.size, fun j hj => (World.cell?_of_block (a := (⟨b, i + j, none⟩ : Addr)) hb).trans (hc j hj)⟩⟩
/-- The row that was appended to, as bytes that are read. -/
theorem row_of_own {w : World} {B n : Nat} {va : Value} {h : Nat → Nat} (ho : w.ownsRow B 5 1 va n (reads h n)) (hh : ∀ i, i < n → h i < 256) : ∃ ga c, va = .slice ga n c ∧ Row w ga n h ∧ ∀ b i, ga = some ⟨b, i, none⟩ → B ≤ b := by
  rcases Nat.eq_zero_or_pos n with rfl | hn
  · rcases ho.2 with ⟨rfl, _⟩ | ⟨g, cap, cur, rfl, hg, _⟩
    · exact ⟨none, 0, rfl, ⟨hh, .inl rfl⟩, fun b i e => by cases e⟩
    · exact ⟨_, _, rfl, ⟨hh, .inl rfl⟩, fun b i e => by injection e with e; injection e with e1; omega⟩
  · obtain ⟨g, c, rfl⟩ := row_some ho hn
    have hl := ho.lt g rfl
    refine ⟨_, c, rfl, ⟨hh, .inr ⟨g, 0, rfl, hl.2, fun i hi => ?_⟩⟩, fun b i e => by injection e with e; injection e with e1; omega⟩
    rw [Nat.zero_add, ho.cellAt i (by omega)]
    simp [reads, hi]
theorem walkN (l y : Nat) (r m : Int) (oz : Int) (ot ox : Nat) (a : Option Addr) (len cp : Nat) (F : Nat → Nat) (w : World) (hot : ot < 4294967296) (hox : ox < 256) (hA : Row32 w a len F) (hlen : len ≤ 140737488355328) :
    Calls Try.prog 7 #[planV l r m y, .agg #[.int .i64 oz, .int .u32 ot, .int .u8 ox], .slice a len cp] w fun e w' => e = .returned (.bool true) ∧ Below w.heap.size w w' := by
  have HM := Lib.hid (made_any l y r m)
  have hP0 := (Whole.fresh w 23 #[.int .u8 l, .int .i64 r, .int .i64 m, .int .u8 y]).alloc (.cells #[.int .i64 oz, .int .u32 ot, .int .u8 ox] 31)
  have hO0 := Whole.fresh (w.alloc (.cells #[.int .u8 l, .int .i64 r, .int .i64 m, .int .u8 y] 23)) 31 #[.int .i64 oz, .int .u32 ot, .int .u8 ox]
  rw [World.size_alloc] at hO0
  have hB0 : Below w.heap.size w ((w.alloc (.cells #[.int .u8 l, .int .i64 r, .int .i64 m, .int .u8 y] 23)).alloc (.cells #[.int .i64 oz, .int .u32 ot, .int .u8 ox] 31)) := ((Below.refl _ w).alloc (Nat.le_refl _) _).alloc (by simp) _
  have HA := Lib.hid hA
  clear hA
  unfold planV at *
  go_enter Try.func7, Try.ntmps7
  go_wp2_with fail
  refine (plain_any _).mono ?_
  rintro e W1 ⟨rfl, hB1⟩
  have hP1 := hP0.below hB1 hP0.lt
  have hO1 := hO0.below hB1 hO0.lt
  have hB2 := hB0.trans (hB1.mono (Nat.le_of_lt hP0.lt))
  have h2 := hB2.size
  clear hP0 hO0 hB0 hB1
  obtain ⟨P, hPe⟩ : ∃ P, w.heap.size = P := ⟨_, rfl⟩
  rw [hPe] at hP1 hO1 hB2 h2 ⊢
  have c0 := hP1.cell 0
  have c1 := hP1.cell 1
  have c2 := hP1.cell 2
  have c3 := hP1.cell 3
  simp only [List.getElem?_toArray, List.getElem?_cons_zero, List.getElem?_cons_succ] at c0 c1 c2 c3
  go_wp2_with fail
  refine (HM.out _).mono ?_
  rintro e W2 ⟨v, R0, rfl, hH2, hR0, hB3, hcase⟩
  have hP2 := hP1.below hB3 hP1.lt
  have hO2 := hO1.below hB3 hO1.lt
  have hB4 := hB2.trans (hB3.mono h2)
  have hPl := hP1.lt
  have hOl := hO1.lt
  clear hP1 hO1 hB2 hB3 c0 c1 c2 c3 HM
  rcases hcase with ⟨_, rfl⟩ | ⟨hg, b, R, M, X, cap, rfl, hBr, hb1, hM1, hRM⟩
  · go_wp2_with fail
    go_ret
    exact ⟨rfl, by first | exact hB4 | (rw [hPe]; exact hB4)⟩
  obtain ⟨k, rfl⟩ := Int.eq_ofNat_of_zero_le hg.2.2.2.2.1
  simp only [Int.toNat_natCast] at hBr
  have hS : Stand w P b R M X l (romN r) cap k (romF y) (fun _ => 0) r k y W2 := ⟨hBr, hP2, hB4, by omega, by omega⟩
  have hOM : P + 1 ≠ M := by omega
  clear hg hBr hP2 hB4 hb1 hM1 hRM hH2 hR0 hPl hOl
  generalize romN r = n at *
  have HS := Lib.hid hS
  have HO2 := Lib.hid hO2
  obtain ⟨j0, hj, hz0, hz1, hz2⟩ := info_parts u8_info
  have HR := Lib.hid (fun W (h : Stand w P b R M X l n cap k (romF y) (fun _ => 0) r k y W) i (hi : F i < 4294967296) => h.read (F i) hi)
  clear hS hO2
  go_wp2_with fail
  go_loopw [10, 11] (fun va si wr => ∃ j : Nat, j ≤ len ∧ si = .int .i64 j ∧ wr.ownsRow W2.heap.size 5 1 va j (reads (fun i => readN (spot l n k (F i)) (romF y) (fun _ => 0)) j) ∧ Below W2.heap.size W2 wr) (fun _ si _ => len - (intOf si).toNat)
  case atStart => exact ⟨0, Nat.zero_le _, rfl, World.ownsRow_nil _ _ _ _, Below.refl _ _⟩
  case round =>
    obtain ⟨j, hjl, rfl, hown, hBk⟩ := hrel
    by_cases hlt : j < len
    · have hF := HA.out.1
      have hcell : ∃ bb o, a = some ⟨bb, o, none⟩ ∧ wr.cell? ⟨bb, o + j, none⟩ = some (.int .u32 (F j : Nat)) := by
        rcases HA.out.2 with h0 | ⟨bb, o, ha, hbb, hc⟩
        · omega
        · have hbP : bb < P := by omega
          have hBP := (HS.out.step hBk).bel
          exact ⟨bb, o, ha, (hBP.cell (p := ⟨bb, o + j, none⟩) hbP).trans (hc j hlt)⟩
      obtain ⟨bb, o, rfl, kc⟩ := hcell
      have hs1 : reads (fun i => readN (spot l n k (F i)) (romF y) (fun _ => 0)) j ++ [Value.int .u8 (readN (spot l n k (F j)) (romF y) (fun _ => 0) : Nat)] = reads (fun i => readN (spot l n k (F i)) (romF y) (fun _ => 0)) (j + 1) := reads_step _ _
      have hRj := HR.out wr (HS.out.step hBk) j (hF j hlt)
      generalize readN (spot l n k (F j)) (romF y) (fun _ => 0) = v at hs1 hRj
      replace hRj := Lib.hid hRj
      replace hs1 := Lib.hid hs1
      clear HR hF
      go_wp2_with fail
      refine hRj.out.mono ?_
      rintro e w8 ⟨rfl, hS8, hB8⟩
      have hown8 := row_below hown hB8
      have hB8' := hBk.trans (hB8.mono hBk.size)
      clear hRj hown hBk hS8 hB8 kc
      go_wp2_with (at_builtin; refine wpList_append_own _ rfl _ _ 26 rfl W2.heap.size 5 j0 _ 1 1 Try.underlying26 hj hz0 hz1 hz2 rfl (by decide) _ _ _ rfl (hown8.alloc _) ⟨w8.heap.size, 0, none⟩ 1 1 [.int .u8 v] rfl rfl ?c1 ?c2 ?c3 ?c4 ?c5 ?_)
      case c1 => exact cell_one_new _ _ _
      case c2 => intro u hu; simp at hu; subst hu; rfl
      case c3 => unfold maxLen; omega
      case c4 => omega
      case c5 => have := hB8'.size; simp; omega
      intro v' w9 hown9 hgrow _
      have hB9 : Below W2.heap.size W2 w9 := (hB8'.alloc hB8'.size _).grown hgrow (by have := hB8'.size; simp; omega) (fun q hq => (hown8.lt q hq).1)
      rw [hs1.out] at hown9
      clear hown8 hgrow hB8'
      go_wp2
      go_roundw
      case rel => exact ⟨j + 1, by omega, by go_num, hown9, hB9⟩
      case measure => simp [intOf]; omega
    · obtain rfl : j = len := by omega
      have hn1 := HS.out.brd.n1
      have hn2 := HS.out.brd.n2
      obtain ⟨ga, cw, rfl, hrow, hge⟩ := row_of_own hown (fun i hi => readN_lt (n := n) (k := k) (spot_rom l n k (F i) hn1 (by omega)) (spot_ram l n k (F i)) (fun i _ => romF_lt y i) (fun _ _ => by decide))
      have hS3 := HS.out.step hBk
      have hO3 := HO2.out.below hBk HO2.out.lt
      have hML := HS.out.brd.ram.lt
      have HD := decode_any ot wr hS3.brd hot
      have hsw := readN_wrote (spot l n k ot)
      have hkk := spot_kind l n k ot
      generalize hs : spot l n k ot = s at *
      obtain ⟨K, A⟩ := s
      simp only [spotV] at HD
      have hs' := Lib.hid hs
      have HW := Lib.hid (fun W (h : Stand w P b R M X l n cap k (romF y) (fun _ => 0) r k y W) => h.write ot ox hot hox)
      rw [hs] at HW
      replace HD := Lib.hid HD
      replace hsw := Lib.hid hsw
      have ck := opc hO3
      obtain ⟨o0, o1, o2⟩ := ck
      clear HR hs hown hn1 hn2
      go_wp2_with fail
      refine HD.out.mono ?_
      rintro e W4 ⟨rfl, hB4⟩
      have hS5 := (hS3.step hB4).step ((Below.refl _ W4).alloc (Nat.le_refl _) (.cells #[.int .u8 K, .int .i64 A] 33))
      have hO5 := (hO3.below hB4 hO3.lt).alloc (.cells #[.int .u8 K, .int .i64 A] 33)
      have hrow5 := (hrow.below hB4).below ((Below.refl _ W4).alloc (Nat.le_refl _) (.cells #[.int .u8 K, .int .i64 A] 33))
      have hT5 := Whole.fresh W4 33 #[.int .u8 K, .int .i64 A]
      have hSM : W4.heap.size ≠ M := by have := (hS3.step hB4).brd.ram.lt; omega
      clear HD hS3 hO3 hrow hBk hB4 o0 o1 o2
      go_upto_region 13 with (fail)
      generalize W4.alloc (.cells #[.int .u8 K, .int .i64 A] 33) = W5 at *
      generalize W4.heap.size = S at *
      obtain ⟨o0, o1, o2⟩ := opc hO5
      have HW5 := Lib.hid (HW.out W5 hS5)
      have hS5' := Lib.hid hS5
      clear HW hS5
      go_wp2_with fail
      refine HW5.out.mono ?_
      rintro e W6 ⟨rfl, hS6, hO⟩
      have hO6 := hO5.only hO hOM
      have hT6 := hT5.only hO hSM
      have hrow6 := row_only hrow5 hO (fun b i e => by have := hge b i e; omega)
      clear HW5 hS5' hO5 hT5 hrow5 hO o0 o1 o2
      obtain ⟨s0, s1⟩ := spc hT6
      have tk : ((K : Int) != 0) = decide (K ≠ 0) := by rw [Bool.eq_iff_iff]; simp
      go_wp2_with fail
      go_loopw [16] (fun si wr => ∃ j2 : Nat, j2 ≤ j ∧ si = .int .i64 j2 ∧ Below W6.heap.size W6 wr) (fun si _ => j - (intOf si).toNat)
      case atStart => exact ⟨0, Nat.zero_le _, rfl, Below.refl _ _⟩
      case round =>
        obtain ⟨j2, hj2, rfl, hB⟩ := hrel
        have hS7 := hS6.step hB
        have hO7 := hO6.below hB hO6.lt
        have hT7 := hT6.below hB hT6.lt
        have hrow7 := hrow6.below hB
        by_cases hlt2 : j2 < j
        · have hFj := HA.out.1 j2 hlt2
          have hcell : ∃ bb o, a = some ⟨bb, o, none⟩ ∧ wr.cell? ⟨bb, o + j2, none⟩ = some (.int .u32 (F j2 : Nat)) := by
            rcases HA.out.2 with h0 | ⟨bb, o, ha, hbb, hc⟩
            · omega
            · have hbP : bb < P := by omega
              have hBP := hS7.bel
              exact ⟨bb, o, ha, (hBP.cell (p := ⟨bb, o + j2, none⟩) hbP).trans (hc j2 hlt2)⟩
          have hcell2 : ∃ gb go, ga = some ⟨gb, go, none⟩ := by
            rcases hrow7.2 with h0 | ⟨gb, go, hg1, _⟩
            · omega
            · exact ⟨gb, go, hg1⟩
          obtain ⟨bb, o, rfl, kc⟩ := hcell
          obtain ⟨gb, go, rfl⟩ := hcell2
          have hRd := hS7.read (F j2) hFj
          have hDd := fun W h => decode_any (b := b) (R := R) (M := M) (X := X) (l := l) (n := n) (cap := cap) (m := k) (f := romF y) (g := wrote (K, A) (fun _ => 0) ox) (F j2) W h hFj
          have hq := hsw.out (spot l n k (F j2)) (romF y) (fun _ => 0) ox
          have hv0 : ∀ W, Row W (some ⟨gb, go, none⟩) j (fun i => readN (spot l n k (F i)) (romF y) (fun _ => 0)) → W.cell? ⟨gb, go + j2, none⟩ = some (.int .u8 (readN (spot l n k (F j2)) (romF y) (fun _ => 0) : Nat)) := fun W h => by
            rcases h.2 with h0 | ⟨b', o', e, _, hc⟩
            · omega
            · injection e with e
              injection e with e1 e2
              subst e1 e2
              exact hc j2 hlt2
          generalize spot l n k (F j2) = t at *
          generalize readN t (romF y) (fun _ => 0) = v0 at *
          generalize readN t (romF y) (wrote (K, A) (fun _ => 0) ox) = v' at *
          obtain ⟨K', A'⟩ := t
          simp only [spotV] at hDd
          replace hRd := Lib.hid hRd
          replace hDd := Lib.hid hDd
          replace hq := Lib.hid hq
          replace hv0 := Lib.hid hv0
          have tk' : ((K' : Int) != 0) = decide (K' ≠ 0) := by rw [Bool.eq_iff_iff]; simp
          have hj2i : (j2 : Int) < (j : Int) := by omega
          clear hS7
          go_wp2_with fail
          refine hRd.out.mono ?_
          rintro e w8 ⟨rfl, hS8, hB8⟩
          have hO8 := hO7.below hB8 hO7.lt
          have hT8 := hT7.below hB8 hT7.lt
          have hrow8 := hrow7.below hB8
          have hBB8 := hB.trans (hB8.mono hB.size)
          have kc8 := (hB8.cell (p := ⟨bb, o + j2, none⟩) (World.block_lt_of_cell? _ _ kc)).trans kc
          clear hRd hO7 hT7 hrow7 hB hB8 kc
          go_wp2_with fail
          refine (hDd.out _ hS8.brd).mono ?_
          rintro e w9 ⟨rfl, hB9⟩
          have hBA := hB9.alloc hB9.size (.cells #[.int .u8 K', .int .i64 A'] 33)
          have hO10 := hO8.below hBA hO8.lt
          have hT10 := hT8.below hBA hT8.lt
          have hrow10 := hrow8.below hBA
          have hBB10 := hBB8.trans (hBA.mono hBB8.size)
          have hN10 := Whole.fresh w9 33 #[.int .u8 K', .int .i64 A']
          clear hDd hO8 hT8 hrow8 hBB8 kc8 hB9 hBA hS8
          go_upto_region 21 with (fail)
          generalize w9.alloc (.cells #[.int .u8 K', .int .i64 A'] 33) = w10 at *
          generalize w9.heap.size = T at *
          obtain ⟨o0, o1, o2⟩ := opc hO10
          obtain ⟨x0, x1⟩ := spc hT10
          obtain ⟨n0, n1⟩ := spc hN10
          have v1 := hv0.out _ hrow10
          have hRow10 := Lib.hid hrow10
          clear hO10 hT10 hN10 hrow10 hv0 s0 s1
          by_cases hc : K = 2 ∧ (K', A') = (K, A)
          · obtain ⟨rfl, he⟩ := hc
            injection he with he1 he2
            subst he1 he2
            have hv := hq.out
            rw [if_pos ⟨rfl, rfl⟩] at hv
            subst hv
            go_wp2_with fail
            go_roundw
            case rel => exact ⟨j2 + 1, by omega, by go_num, hBB10⟩
            case measure => simp [intOf]; omega
          · have hv := hq.out
            rw [if_neg hc] at hv
            subst hv
            by_cases hK : K = 2
            · subst hK
              by_cases hk1 : K' = 2
              · subst hk1
                have hne : ((A' : Int) == (A : Int)) = false := by
                  rw [beq_eq_false_iff_ne]
                  intro h
                  exact hc ⟨rfl, by rw [show A' = A by omega]⟩
                replace hc := Lib.hid hc
                go_wp2_with fail
                go_roundw
                case rel => exact ⟨j2 + 1, by omega, by go_num, hBB10⟩
                case measure => simp [intOf]; omega
              · have hne : ((K' : Int) == 2) = false := by rw [beq_eq_false_iff_ne]; omega
                replace hc := Lib.hid hc
                go_wp2_with fail
                go_roundw
                case rel => exact ⟨j2 + 1, by omega, by go_num, hBB10⟩
                case measure => simp [intOf]; omega
            · have hk2 : ((K : Int) == 2) = false := by rw [beq_eq_false_iff_ne]; omega
              replace hc := Lib.hid hc
              go_wp2_with fail
              go_roundw
              case rel => exact ⟨j2 + 1, by omega, by go_num, hBB10⟩
              case measure => simp [intOf]; omega
        · obtain rfl : j2 = j := by omega
          go_wp2_with fail
          go_ret
          exact ⟨rfl, by first | exact hS7.bel | (rw [hPe]; exact hS7.bel)⟩
end boardKeeps
end Go.Proofs.Ythhahhmdpjchkaa
