/-
  An image: what its bytes are.
-/
import Derived.Test.YtggjaoihfhianaaKit
namespace Go.Proofs.Ytggjaoihfhianaa
open Go.RowKit Go.Shelf
set_option maxRecDepth 100000
set_option maxHeartbeats 1000000

/-- A patch: where, and which bytes. -/
structure Patch1 where
  pos : Int
  a : Option Addr
  len : Nat
  cap : Nat
  f : Nat → Nat
instance : Inhabited Patch1 := ⟨⟨0, none, 0, 0, fun _ => 0⟩⟩
structure PatchAt (w : World) (b q : Nat) (p : Patch1) : Prop where
  c0 : w.cell? ⟨b, q, none⟩ = some (.int .i64 p.pos)
  c1 : w.cell? ⟨b, q + 1, none⟩ = some (.slice p.a p.len p.cap)
  row : Row w p.a p.len p.f
  reach : p.len ≤ 140737488355328
  lo : -9223372036854775808 ≤ p.pos
  hi : p.pos ≤ 9223372036854775807
def Patches (w : World) (a : Option Addr) (len : Nat) (ps : Nat → Patch1) : Prop :=
  len ≤ 140737488355328 ∧ (len = 0 ∨ ∃ b o, a = some ⟨b, o, none⟩ ∧ b < w.heap.size ∧ ∀ k, k < len → PatchAt w b (o + k * 2) (ps k))
theorem PatchAt.below {w w' : World} {b q : Nat} {p : Patch1} (h : PatchAt w b q p) (hb : Below w.heap.size w w') (hl : b < w.heap.size) : PatchAt w' b q p :=
  ⟨(hb.cell (p := ⟨b, q, none⟩) hl).trans h.c0, (hb.cell (p := ⟨b, q + 1, none⟩) hl).trans h.c1, h.row.below hb, h.reach, h.lo, h.hi⟩
theorem Patches.below {w w' : World} {a : Option Addr} {len : Nat} {ps : Nat → Patch1} (h : Patches w a len ps) (hb : Below w.heap.size w w') : Patches w' a len ps := by
  rcases h with ⟨h0, h | ⟨b, o, rfl, hl, hc⟩⟩
  · exact ⟨h0, .inl h⟩
  · exact ⟨h0, .inr ⟨b, o, rfl, Nat.lt_of_lt_of_le hl hb.size, fun k hk => (hc k hk).below hb hl⟩⟩
/-- How many bytes an image has. -/
def imgN (size : Int) : Nat := if size < 0 ∨ 8392704 < size then 32768 else size.toNat
theorem imgN_le (size : Int) : imgN size ≤ 8392704 := by unfold imgN; split <;> omega
def base (kb : Nat) : Nat → Nat := fun j => if kb = 0 then 0 else (j / 8 % 256 * kb) % 256
/-- The first i bytes of a patch over bytes. -/
def paint (f : Nat → Nat) (p : Patch1) (i : Nat) : Nat → Nat := fun j => if p.pos ≤ (j : Int) ∧ (j : Int) < p.pos + i then p.f ((j : Int) - p.pos).toNat else f j
/-- The bytes of an image, under the first k patches. -/
def img (kb : Nat) (ps : Nat → Patch1) : Nat → Nat → Nat
  | 0 => base kb
  | k + 1 => paint (img kb ps k) (ps k) (ps k).len
theorem paint_zero (f : Nat → Nat) (p : Patch1) : paint f p 0 = f := by
  funext j
  unfold paint
  rw [if_neg (by omega)]
theorem paint_in (f : Nat → Nat) (p : Patch1) (i t : Nat) (h : p.pos + i = (t : Int)) : upd (paint f p i) t (p.f i) = paint f p (i + 1) := by
  funext j
  unfold upd paint
  by_cases e : j = t
  · subst e
    rw [if_pos rfl, if_pos (by omega), show ((j : Int) - p.pos).toNat = i by omega]
  · rw [if_neg e]
    by_cases h1 : p.pos ≤ (j : Int) ∧ (j : Int) < p.pos + i
    · rw [if_pos h1, if_pos (by omega)]
    · rw [if_neg h1, if_neg (by omega)]
theorem paint_out (f : Nat → Nat) (p : Patch1) (i n : Nat) (h : p.pos + i < 0 ∨ (n : Int) ≤ p.pos + i) : ∀ j, j < n → paint f p i j = paint f p (i + 1) j := by
  intro j hj
  unfold paint
  by_cases h1 : p.pos ≤ (j : Int) ∧ (j : Int) < p.pos + i
  · rw [if_pos h1, if_pos (by omega)]
  · rw [if_neg h1, if_neg (by omega)]
/-- The bytes of the base, the first k of them. -/
theorem base_step (kb k : Nat) : upd (first (base kb) k) k (base kb k) = first (base kb) (k + 1) := first_step _ _

theorem img_any (size : Int) (kb : Nat) (a : Option Addr) (len cap : Nat) (ps : Nat → Patch1) (w : World) (hs0 : -9223372036854775808 ≤ size) (hs1 : size ≤ 9223372036854775807) (hkb : kb < 256) (h : Patches w a len ps) :
    Calls Try.prog 6 #[.agg #[.int .i64 size, .int .u8 kb, .slice a len cap]] w fun e w' => ∃ G, e = .returned (.slice (some ⟨G, 0, none⟩) (imgN size) (imgN size)) ∧ Holds w' G (imgN size) (img kb ps len) ∧ w.heap.size ≤ G ∧ Below w.heap.size w w' := by
  obtain ⟨n, hn⟩ : ∃ n, imgN size = n := ⟨_, rfl⟩
  have hn1 : n ≤ 8392704 := hn ▸ imgN_le size
  rw [hn]
  by_cases hk0 : kb = 0
  · subst hk0
    by_cases hsz : size < 0 ∨ 8392704 < size
    · have H32 : Hid ((32768 : Int) = (n : Nat)) := Lib.hid (by rw [← hn]; unfold imgN; rw [if_pos hsz]; rfl)
      rcases hsz with hsz | hsz
      · clear hn
        have hmk := fun W => run_make_row' (P := Try.prog) 25 5 (.int .u8 0) 1 Try.underlying25 (by kernel_rfl) rfl .i64 .i64 n (by omega) (by omega) W
        go_enter Try.func6, Try.ntmps6
        go_wp2_with fail
        rw [H32.out, hmk]
        go_wp2_with fail
        have hB0 : Below w.heap.size w ((w.alloc (Obj.cells #[Value.int IntKind.i64 size, Value.int IntKind.u8 0, Value.slice a len cap] 24)).alloc (Obj.cells (madeCells #[Value.int IntKind.u8 0] n) 5)) :=
          ((Below.refl _ w).alloc (Nat.le_refl _) _).alloc (by simp) _
        have hX0 : Whole ((w.alloc (Obj.cells #[Value.int IntKind.i64 size, Value.int IntKind.u8 0, Value.slice a len cap] 24)).alloc (Obj.cells (madeCells #[Value.int IntKind.u8 0] n) 5)) w.heap.size 24 #[Value.int IntKind.i64 size, Value.int IntKind.u8 0, Value.slice a len cap] :=
          (Whole.fresh w 24 #[Value.int IntKind.i64 size, Value.int IntKind.u8 0, Value.slice a len cap]).alloc _
        have hH0 : Holds ((w.alloc (Obj.cells #[Value.int IntKind.i64 size, Value.int IntKind.u8 0, Value.slice a len cap] 24)).alloc (Obj.cells (madeCells #[Value.int IntKind.u8 0] n) 5)) (w.heap.size + 1) n (fun _ => 0) := by
          have := holds_of_made (Whole.fresh (w.alloc (Obj.cells #[Value.int IntKind.i64 size, Value.int IntKind.u8 0, Value.slice a len cap] 24)) 5 (madeCells #[Value.int IntKind.u8 0] n))
          simpa using this
        generalize ((w.alloc (Obj.cells #[Value.int IntKind.i64 size, Value.int IntKind.u8 0, Value.slice a len cap] 24)).alloc (Obj.cells (madeCells #[Value.int IntKind.u8 0] n) 5)) = W0 at hB0 hX0 hH0 ⊢
        obtain ⟨S, hS⟩ : ∃ S, w.heap.size = S := ⟨_, rfl⟩
        have HP := Lib.hid h
        clear h hmk
        rw [hS] at hB0 hX0 hH0
        have hSle : w.heap.size ≤ S := by omega
        have hSle2 : S ≤ w.heap.size := by omega
        simp only [hS]
        clear hS
        have hX := hX0
        have hH1 := hH0.congr (f' := img 0 ps 0) (fun i _ => by simp [img, base])
        have hB := hB0
        clear hX0 hH0 hB0
        have e1 := hX.cell 1
        have e2 := hX.cell 2
        go_wp2_with fail
        go_loopw [6] (fun i wr => ∃ k : Nat, k ≤ len ∧ i = .int .i64 k ∧ Whole wr S 24 #[Value.int IntKind.i64 size, Value.int IntKind.u8 0, Value.slice a len cap] ∧ Holds wr (S + 1) n (img 0 ps k) ∧ Below S w wr) (fun i _ => len - (intOf i).toNat)
        case atStart => exact ⟨0, Nat.zero_le _, rfl, hX, hH1, hB⟩
        case round =>
          clear hX hH1 hB e2
          obtain ⟨k, hk, rfl, hX, hH, hB⟩ := hrel
          have e2 := hX.cell 2
          have hlen : len ≤ 140737488355328 := HP.out.1
          by_cases hlt : k < len
          · obtain ⟨b, o, rfl, hbl, hpt⟩ := HP.out.2.resolve_left (by omega)
            have hp := hpt k hlt
            clear hpt
            obtain ⟨p, hpe⟩ : ∃ p, ps k = p := ⟨_, rfl⟩
            rw [hpe] at hp
            have hcb := Below.mono hB hSle
            have c0 := (hcb.cell (p := ⟨b, o + k * 2, none⟩) hbl).trans hp.c0
            have c1 := (hcb.cell (p := ⟨b, o + k * 2 + 1, none⟩) hbl).trans hp.c1
            have HR := Lib.hid hp.row
            obtain ⟨hlo, hhi, hreach⟩ : -9223372036854775808 ≤ p.pos ∧ p.pos ≤ 9223372036854775807 ∧ p.len ≤ 140737488355328 := ⟨hp.lo, hp.hi, hp.reach⟩
            have hlt2 := hH.lt
            clear hcb hp
            go_wp2_with fail
            have hX2 := hX.alloc (Obj.cells #[Value.int IntKind.i64 p.pos, Value.slice p.a p.len p.cap] 42)
            have hH2 := hH.alloc (Obj.cells #[Value.int IntKind.i64 p.pos, Value.slice p.a p.len p.cap] 42)
            have hB2 := hB.alloc (by omega) (Obj.cells #[Value.int IntKind.i64 p.pos, Value.slice p.a p.len p.cap] 42)
            have hQ2 := Whole.fresh wr 42 #[Value.int IntKind.i64 p.pos, Value.slice p.a p.len p.cap]
            clear hX hH hB e2 c0 c1
            generalize (wr.alloc (Obj.cells #[Value.int IntKind.i64 p.pos, Value.slice p.a p.len p.cap] 42)) = W1 at *
            obtain ⟨Q, hQ⟩ : ∃ Q, wr.heap.size = Q := ⟨_, rfl⟩
            rw [hQ] at hlt2 hQ2 ⊢
            clear hQ
            have hH3 := hH2.congr (fun i _ => congrFun (paint_zero (img 0 ps k) p).symm i)
            go_loopw [8] (fun x wq => ∃ i : Nat, i ≤ p.len ∧ x = .int .i64 i ∧ Whole wq S 24 #[Value.int IntKind.i64 size, Value.int IntKind.u8 0, Value.slice (some ⟨b, o, none⟩) len cap] ∧ Whole wq Q 42 #[Value.int IntKind.i64 p.pos, Value.slice p.a p.len p.cap] ∧ Holds wq (S + 1) n (paint (img 0 ps k) p i) ∧ Below S w wq) (fun x _ => p.len - (intOf x).toNat)
            case atStart => exact ⟨0, Nat.zero_le _, rfl, hX2, hQ2, hH3, hB2⟩
            case round =>
              clear hX2 hQ2 hH2 hH3 hB2
              obtain ⟨i, hi, rfl, hX, hQ, hH, hB⟩ := hrel
              have q0 := hQ.cell 0
              have q1 := hQ.cell 1
              by_cases hil : i < p.len
              · by_cases hin : 0 ≤ p.pos + i ∧ p.pos + i < n
                · obtain ⟨hin0, hin1⟩ := hin
                  obtain ⟨t, ht⟩ := Int.eq_ofNat_of_zero_le hin0
                  obtain ⟨b2, o2, ha, hb2, hc2⟩ := HR.out.2.resolve_left (by omega)
                  have cc := (hB.cell (p := ⟨b2, o2 + i, none⟩) (show b2 < S by omega)).trans (hc2 i hil)
                  have hby := HR.out.1 i hil
                  have htn : t < n := by omega
                  have fr := hH.free t
                  have wk := hH.cell t htn
                  have hP := hH.put t (p.f i) hby
                  rw [paint_in _ _ _ _ ht] at hP
                  have hX2 := hX.away (p := ⟨S + 1, t, none⟩) (by simp) (.int .u8 (p.f i : Nat))
                  have hQ2 := hQ.away (p := ⟨S + 1, t, none⟩) (show Q ≠ S + 1 by omega) (.int .u8 (p.f i : Nat))
                  have hB2 := hB.setCell (p := ⟨S + 1, t, none⟩) (by simp) (.int .u8 (p.f i : Nat))
                  rw [ha] at q1 hQ2 ⊢
                  clear hc2 hH hX hQ hB
                  generalize p.f i = x at *
                  generalize p.pos = z at *
                  go_wp2_with fail
                  refine ⟨⟨i + 1, by omega, by congr 1, hX2, hQ2, hP, hB2⟩, ?_⟩
                  simp only [intOf]
                  omega
                · have hH4 := hH.congr (paint_out (img 0 ps k) p i n (by omega))
                  clear hH HR
                  generalize p.pos = z at *
                  rcases (show z + i < 0 ∨ ((n : Nat) : Int) ≤ z + i ∧ z + i ≤ 9223372036854775807 ∨ 9223372036854775807 < z + i by omega) with h5 | ⟨h5, h6⟩ | h5
                  · go_wp2_with fail
                    refine ⟨⟨i + 1, by omega, by congr 1, hX, hQ, hH4, hB⟩, ?_⟩
                    simp only [intOf]
                    omega
                  · go_wp2_with fail
                    refine ⟨⟨i + 1, by omega, by congr 1, hX, hQ, hH4, hB⟩, ?_⟩
                    simp only [intOf]
                    omega
                  · have hw : wrap64 (z + i) = z + i - 18446744073709551616 := by unfold wrap64; omega
                    go_wp2_with fail
                    refine ⟨⟨i + 1, by omega, by congr 1, hX, hQ, hH4, hB⟩, ?_⟩
                    simp only [intOf]
                    omega
              · obtain rfl : i = p.len := by omega
                have hH4 := hH.congr (f' := img 0 ps (k + 1)) (fun j _ => by rw [img, hpe])
                clear hH hlo hhi
                go_wp2_with fail
                refine ⟨⟨k + 1, by omega, by congr 1, hX, hH4, hB⟩, ?_⟩
                simp only [intOf]
                omega
          · obtain rfl : k = len := by omega
            go_wp2_with fail
            go_ret
            exact ⟨S + 1, rfl, hH, by omega, hB.mono hSle⟩
      · clear hn
        have hmk := fun W => run_make_row' (P := Try.prog) 25 5 (.int .u8 0) 1 Try.underlying25 (by kernel_rfl) rfl .i64 .i64 n (by omega) (by omega) W
        go_enter Try.func6, Try.ntmps6
        go_wp2_with fail
        rw [H32.out, hmk]
        go_wp2_with fail
        have hB0 : Below w.heap.size w ((w.alloc (Obj.cells #[Value.int IntKind.i64 size, Value.int IntKind.u8 0, Value.slice a len cap] 24)).alloc (Obj.cells (madeCells #[Value.int IntKind.u8 0] n) 5)) :=
          ((Below.refl _ w).alloc (Nat.le_refl _) _).alloc (by simp) _
        have hX0 : Whole ((w.alloc (Obj.cells #[Value.int IntKind.i64 size, Value.int IntKind.u8 0, Value.slice a len cap] 24)).alloc (Obj.cells (madeCells #[Value.int IntKind.u8 0] n) 5)) w.heap.size 24 #[Value.int IntKind.i64 size, Value.int IntKind.u8 0, Value.slice a len cap] :=
          (Whole.fresh w 24 #[Value.int IntKind.i64 size, Value.int IntKind.u8 0, Value.slice a len cap]).alloc _
        have hH0 : Holds ((w.alloc (Obj.cells #[Value.int IntKind.i64 size, Value.int IntKind.u8 0, Value.slice a len cap] 24)).alloc (Obj.cells (madeCells #[Value.int IntKind.u8 0] n) 5)) (w.heap.size + 1) n (fun _ => 0) := by
          have := holds_of_made (Whole.fresh (w.alloc (Obj.cells #[Value.int IntKind.i64 size, Value.int IntKind.u8 0, Value.slice a len cap] 24)) 5 (madeCells #[Value.int IntKind.u8 0] n))
          simpa using this
        generalize ((w.alloc (Obj.cells #[Value.int IntKind.i64 size, Value.int IntKind.u8 0, Value.slice a len cap] 24)).alloc (Obj.cells (madeCells #[Value.int IntKind.u8 0] n) 5)) = W0 at hB0 hX0 hH0 ⊢
        obtain ⟨S, hS⟩ : ∃ S, w.heap.size = S := ⟨_, rfl⟩
        have HP := Lib.hid h
        clear h hmk
        rw [hS] at hB0 hX0 hH0
        have hSle : w.heap.size ≤ S := by omega
        have hSle2 : S ≤ w.heap.size := by omega
        simp only [hS]
        clear hS
        have hX := hX0
        have hH1 := hH0.congr (f' := img 0 ps 0) (fun i _ => by simp [img, base])
        have hB := hB0
        clear hX0 hH0 hB0
        have e1 := hX.cell 1
        have e2 := hX.cell 2
        go_wp2_with fail
        go_loopw [6] (fun i wr => ∃ k : Nat, k ≤ len ∧ i = .int .i64 k ∧ Whole wr S 24 #[Value.int IntKind.i64 size, Value.int IntKind.u8 0, Value.slice a len cap] ∧ Holds wr (S + 1) n (img 0 ps k) ∧ Below S w wr) (fun i _ => len - (intOf i).toNat)
        case atStart => exact ⟨0, Nat.zero_le _, rfl, hX, hH1, hB⟩
        case round =>
          clear hX hH1 hB e2
          obtain ⟨k, hk, rfl, hX, hH, hB⟩ := hrel
          have e2 := hX.cell 2
          have hlen : len ≤ 140737488355328 := HP.out.1
          by_cases hlt : k < len
          · obtain ⟨b, o, rfl, hbl, hpt⟩ := HP.out.2.resolve_left (by omega)
            have hp := hpt k hlt
            clear hpt
            obtain ⟨p, hpe⟩ : ∃ p, ps k = p := ⟨_, rfl⟩
            rw [hpe] at hp
            have hcb := Below.mono hB hSle
            have c0 := (hcb.cell (p := ⟨b, o + k * 2, none⟩) hbl).trans hp.c0
            have c1 := (hcb.cell (p := ⟨b, o + k * 2 + 1, none⟩) hbl).trans hp.c1
            have HR := Lib.hid hp.row
            obtain ⟨hlo, hhi, hreach⟩ : -9223372036854775808 ≤ p.pos ∧ p.pos ≤ 9223372036854775807 ∧ p.len ≤ 140737488355328 := ⟨hp.lo, hp.hi, hp.reach⟩
            have hlt2 := hH.lt
            clear hcb hp
            go_wp2_with fail
            have hX2 := hX.alloc (Obj.cells #[Value.int IntKind.i64 p.pos, Value.slice p.a p.len p.cap] 42)
            have hH2 := hH.alloc (Obj.cells #[Value.int IntKind.i64 p.pos, Value.slice p.a p.len p.cap] 42)
            have hB2 := hB.alloc (by omega) (Obj.cells #[Value.int IntKind.i64 p.pos, Value.slice p.a p.len p.cap] 42)
            have hQ2 := Whole.fresh wr 42 #[Value.int IntKind.i64 p.pos, Value.slice p.a p.len p.cap]
            clear hX hH hB e2 c0 c1
            generalize (wr.alloc (Obj.cells #[Value.int IntKind.i64 p.pos, Value.slice p.a p.len p.cap] 42)) = W1 at *
            obtain ⟨Q, hQ⟩ : ∃ Q, wr.heap.size = Q := ⟨_, rfl⟩
            rw [hQ] at hlt2 hQ2 ⊢
            clear hQ
            have hH3 := hH2.congr (fun i _ => congrFun (paint_zero (img 0 ps k) p).symm i)
            go_loopw [8] (fun x wq => ∃ i : Nat, i ≤ p.len ∧ x = .int .i64 i ∧ Whole wq S 24 #[Value.int IntKind.i64 size, Value.int IntKind.u8 0, Value.slice (some ⟨b, o, none⟩) len cap] ∧ Whole wq Q 42 #[Value.int IntKind.i64 p.pos, Value.slice p.a p.len p.cap] ∧ Holds wq (S + 1) n (paint (img 0 ps k) p i) ∧ Below S w wq) (fun x _ => p.len - (intOf x).toNat)
            case atStart => exact ⟨0, Nat.zero_le _, rfl, hX2, hQ2, hH3, hB2⟩
            case round =>
              clear hX2 hQ2 hH2 hH3 hB2
              obtain ⟨i, hi, rfl, hX, hQ, hH, hB⟩ := hrel
              have q0 := hQ.cell 0
              have q1 := hQ.cell 1
              by_cases hil : i < p.len
              · by_cases hin : 0 ≤ p.pos + i ∧ p.pos + i < n
                · obtain ⟨hin0, hin1⟩ := hin
                  obtain ⟨t, ht⟩ := Int.eq_ofNat_of_zero_le hin0
                  obtain ⟨b2, o2, ha, hb2, hc2⟩ := HR.out.2.resolve_left (by omega)
                  have cc := (hB.cell (p := ⟨b2, o2 + i, none⟩) (show b2 < S by omega)).trans (hc2 i hil)
                  have hby := HR.out.1 i hil
                  have htn : t < n := by omega
                  have fr := hH.free t
                  have wk := hH.cell t htn
                  have hP := hH.put t (p.f i) hby
                  rw [paint_in _ _ _ _ ht] at hP
                  have hX2 := hX.away (p := ⟨S + 1, t, none⟩) (by simp) (.int .u8 (p.f i : Nat))
                  have hQ2 := hQ.away (p := ⟨S + 1, t, none⟩) (show Q ≠ S + 1 by omega) (.int .u8 (p.f i : Nat))
                  have hB2 := hB.setCell (p := ⟨S + 1, t, none⟩) (by simp) (.int .u8 (p.f i : Nat))
                  rw [ha] at q1 hQ2 ⊢
                  clear hc2 hH hX hQ hB
                  generalize p.f i = x at *
                  generalize p.pos = z at *
                  go_wp2_with fail
                  refine ⟨⟨i + 1, by omega, by congr 1, hX2, hQ2, hP, hB2⟩, ?_⟩
                  simp only [intOf]
                  omega
                · have hH4 := hH.congr (paint_out (img 0 ps k) p i n (by omega))
                  clear hH HR
                  generalize p.pos = z at *
                  rcases (show z + i < 0 ∨ ((n : Nat) : Int) ≤ z + i ∧ z + i ≤ 9223372036854775807 ∨ 9223372036854775807 < z + i by omega) with h5 | ⟨h5, h6⟩ | h5
                  · go_wp2_with fail
                    refine ⟨⟨i + 1, by omega, by congr 1, hX, hQ, hH4, hB⟩, ?_⟩
                    simp only [intOf]
                    omega
                  · go_wp2_with fail
                    refine ⟨⟨i + 1, by omega, by congr 1, hX, hQ, hH4, hB⟩, ?_⟩
                    simp only [intOf]
                    omega
                  · have hw : wrap64 (z + i) = z + i - 18446744073709551616 := by unfold wrap64; omega
                    go_wp2_with fail
                    refine ⟨⟨i + 1, by omega, by congr 1, hX, hQ, hH4, hB⟩, ?_⟩
                    simp only [intOf]
                    omega
              · obtain rfl : i = p.len := by omega
                have hH4 := hH.congr (f' := img 0 ps (k + 1)) (fun j _ => by rw [img, hpe])
                clear hH hlo hhi
                go_wp2_with fail
                refine ⟨⟨k + 1, by omega, by congr 1, hX, hH4, hB⟩, ?_⟩
                simp only [intOf]
                omega
          · obtain rfl : k = len := by omega
            go_wp2_with fail
            go_ret
            exact ⟨S + 1, rfl, hH, by omega, hB.mono hSle⟩
    · obtain rfl : size = (n : Int) := by rw [← hn]; unfold imgN; rw [if_neg hsz]; omega
      have hmk := fun W => run_make_row' (P := Try.prog) 25 5 (.int .u8 0) 1 Try.underlying25 (by kernel_rfl) rfl .i64 .i64 n (by omega) (by omega) W
      go_enter Try.func6, Try.ntmps6
      go_wp2_with fail
      have hB0 : Below w.heap.size w ((w.alloc (Obj.cells #[Value.int IntKind.i64 ↑n, Value.int IntKind.u8 0, Value.slice a len cap] 24)).alloc (Obj.cells (madeCells #[Value.int IntKind.u8 0] n) 5)) :=
        ((Below.refl _ w).alloc (Nat.le_refl _) _).alloc (by simp) _
      have hX0 : Whole ((w.alloc (Obj.cells #[Value.int IntKind.i64 ↑n, Value.int IntKind.u8 0, Value.slice a len cap] 24)).alloc (Obj.cells (madeCells #[Value.int IntKind.u8 0] n) 5)) w.heap.size 24 #[Value.int IntKind.i64 ↑n, Value.int IntKind.u8 0, Value.slice a len cap] :=
        (Whole.fresh w 24 #[Value.int IntKind.i64 ↑n, Value.int IntKind.u8 0, Value.slice a len cap]).alloc _
      have hH0 : Holds ((w.alloc (Obj.cells #[Value.int IntKind.i64 ↑n, Value.int IntKind.u8 0, Value.slice a len cap] 24)).alloc (Obj.cells (madeCells #[Value.int IntKind.u8 0] n) 5)) (w.heap.size + 1) n (fun _ => 0) := by
        have := holds_of_made (Whole.fresh (w.alloc (Obj.cells #[Value.int IntKind.i64 ↑n, Value.int IntKind.u8 0, Value.slice a len cap] 24)) 5 (madeCells #[Value.int IntKind.u8 0] n))
        simpa using this
      generalize ((w.alloc (Obj.cells #[Value.int IntKind.i64 ↑n, Value.int IntKind.u8 0, Value.slice a len cap] 24)).alloc (Obj.cells (madeCells #[Value.int IntKind.u8 0] n) 5)) = W0 at hB0 hX0 hH0 ⊢
      obtain ⟨S, hS⟩ : ∃ S, w.heap.size = S := ⟨_, rfl⟩
      have HP := Lib.hid h
      clear h hmk
      rw [hS] at hB0 hX0 hH0
      have hSle : w.heap.size ≤ S := by omega
      have hSle2 : S ≤ w.heap.size := by omega
      simp only [hS]
      clear hS
      have hX := hX0
      have hH1 := hH0.congr (f' := img 0 ps 0) (fun i _ => by simp [img, base])
      have hB := hB0
      clear hX0 hH0 hB0
      have e1 := hX.cell 1
      have e2 := hX.cell 2
      go_wp2_with fail
      go_loopw [6] (fun i wr => ∃ k : Nat, k ≤ len ∧ i = .int .i64 k ∧ Whole wr S 24 #[Value.int IntKind.i64 ↑n, Value.int IntKind.u8 0, Value.slice a len cap] ∧ Holds wr (S + 1) n (img 0 ps k) ∧ Below S w wr) (fun i _ => len - (intOf i).toNat)
      case atStart => exact ⟨0, Nat.zero_le _, rfl, hX, hH1, hB⟩
      case round =>
        clear hX hH1 hB e2
        obtain ⟨k, hk, rfl, hX, hH, hB⟩ := hrel
        have e2 := hX.cell 2
        have hlen : len ≤ 140737488355328 := HP.out.1
        by_cases hlt : k < len
        · obtain ⟨b, o, rfl, hbl, hpt⟩ := HP.out.2.resolve_left (by omega)
          have hp := hpt k hlt
          clear hpt
          obtain ⟨p, hpe⟩ : ∃ p, ps k = p := ⟨_, rfl⟩
          rw [hpe] at hp
          have hcb := Below.mono hB hSle
          have c0 := (hcb.cell (p := ⟨b, o + k * 2, none⟩) hbl).trans hp.c0
          have c1 := (hcb.cell (p := ⟨b, o + k * 2 + 1, none⟩) hbl).trans hp.c1
          have HR := Lib.hid hp.row
          obtain ⟨hlo, hhi, hreach⟩ : -9223372036854775808 ≤ p.pos ∧ p.pos ≤ 9223372036854775807 ∧ p.len ≤ 140737488355328 := ⟨hp.lo, hp.hi, hp.reach⟩
          have hlt2 := hH.lt
          clear hcb hp
          go_wp2_with fail
          have hX2 := hX.alloc (Obj.cells #[Value.int IntKind.i64 p.pos, Value.slice p.a p.len p.cap] 42)
          have hH2 := hH.alloc (Obj.cells #[Value.int IntKind.i64 p.pos, Value.slice p.a p.len p.cap] 42)
          have hB2 := hB.alloc (by omega) (Obj.cells #[Value.int IntKind.i64 p.pos, Value.slice p.a p.len p.cap] 42)
          have hQ2 := Whole.fresh wr 42 #[Value.int IntKind.i64 p.pos, Value.slice p.a p.len p.cap]
          clear hX hH hB e2 c0 c1
          generalize (wr.alloc (Obj.cells #[Value.int IntKind.i64 p.pos, Value.slice p.a p.len p.cap] 42)) = W1 at *
          obtain ⟨Q, hQ⟩ : ∃ Q, wr.heap.size = Q := ⟨_, rfl⟩
          rw [hQ] at hlt2 hQ2 ⊢
          clear hQ
          have hH3 := hH2.congr (fun i _ => congrFun (paint_zero (img 0 ps k) p).symm i)
          go_loopw [8] (fun x wq => ∃ i : Nat, i ≤ p.len ∧ x = .int .i64 i ∧ Whole wq S 24 #[Value.int IntKind.i64 ↑n, Value.int IntKind.u8 0, Value.slice (some ⟨b, o, none⟩) len cap] ∧ Whole wq Q 42 #[Value.int IntKind.i64 p.pos, Value.slice p.a p.len p.cap] ∧ Holds wq (S + 1) n (paint (img 0 ps k) p i) ∧ Below S w wq) (fun x _ => p.len - (intOf x).toNat)
          case atStart => exact ⟨0, Nat.zero_le _, rfl, hX2, hQ2, hH3, hB2⟩
          case round =>
            clear hX2 hQ2 hH2 hH3 hB2
            obtain ⟨i, hi, rfl, hX, hQ, hH, hB⟩ := hrel
            have q0 := hQ.cell 0
            have q1 := hQ.cell 1
            by_cases hil : i < p.len
            · by_cases hin : 0 ≤ p.pos + i ∧ p.pos + i < n
              · obtain ⟨hin0, hin1⟩ := hin
                obtain ⟨t, ht⟩ := Int.eq_ofNat_of_zero_le hin0
                obtain ⟨b2, o2, ha, hb2, hc2⟩ := HR.out.2.resolve_left (by omega)
                have cc := (hB.cell (p := ⟨b2, o2 + i, none⟩) (show b2 < S by omega)).trans (hc2 i hil)
                have hby := HR.out.1 i hil
                have htn : t < n := by omega
                have fr := hH.free t
                have wk := hH.cell t htn
                have hP := hH.put t (p.f i) hby
                rw [paint_in _ _ _ _ ht] at hP
                have hX2 := hX.away (p := ⟨S + 1, t, none⟩) (by simp) (.int .u8 (p.f i : Nat))
                have hQ2 := hQ.away (p := ⟨S + 1, t, none⟩) (show Q ≠ S + 1 by omega) (.int .u8 (p.f i : Nat))
                have hB2 := hB.setCell (p := ⟨S + 1, t, none⟩) (by simp) (.int .u8 (p.f i : Nat))
                rw [ha] at q1 hQ2 ⊢
                clear hc2 hH hX hQ hB
                generalize p.f i = x at *
                generalize p.pos = z at *
                go_wp2_with fail
                refine ⟨⟨i + 1, by omega, by congr 1, hX2, hQ2, hP, hB2⟩, ?_⟩
                simp only [intOf]
                omega
              · have hH4 := hH.congr (paint_out (img 0 ps k) p i n (by omega))
                clear hH HR
                generalize p.pos = z at *
                rcases (show z + i < 0 ∨ ((n : Nat) : Int) ≤ z + i ∧ z + i ≤ 9223372036854775807 ∨ 9223372036854775807 < z + i by omega) with h5 | ⟨h5, h6⟩ | h5
                · go_wp2_with fail
                  refine ⟨⟨i + 1, by omega, by congr 1, hX, hQ, hH4, hB⟩, ?_⟩
                  simp only [intOf]
                  omega
                · go_wp2_with fail
                  refine ⟨⟨i + 1, by omega, by congr 1, hX, hQ, hH4, hB⟩, ?_⟩
                  simp only [intOf]
                  omega
                · have hw : wrap64 (z + i) = z + i - 18446744073709551616 := by unfold wrap64; omega
                  go_wp2_with fail
                  refine ⟨⟨i + 1, by omega, by congr 1, hX, hQ, hH4, hB⟩, ?_⟩
                  simp only [intOf]
                  omega
            · obtain rfl : i = p.len := by omega
              have hH4 := hH.congr (f' := img 0 ps (k + 1)) (fun j _ => by rw [img, hpe])
              clear hH hlo hhi
              go_wp2_with fail
              refine ⟨⟨k + 1, by omega, by congr 1, hX, hH4, hB⟩, ?_⟩
              simp only [intOf]
              omega
        · obtain rfl : k = len := by omega
          go_wp2_with fail
          go_ret
          exact ⟨S + 1, rfl, hH, by omega, hB.mono hSle⟩
  · have hk1 : ((kb : Int) != 0) = true := by simp; omega
    by_cases hsz : size < 0 ∨ 8392704 < size
    · have H32 : Hid ((32768 : Int) = (n : Nat)) := Lib.hid (by rw [← hn]; unfold imgN; rw [if_pos hsz]; rfl)
      rcases hsz with hsz | hsz
      · clear hn
        have hmk := fun W => run_make_row' (P := Try.prog) 25 5 (.int .u8 0) 1 Try.underlying25 (by kernel_rfl) rfl .i64 .i64 n (by omega) (by omega) W
        go_enter Try.func6, Try.ntmps6
        go_wp2_with fail
        rw [H32.out, hmk]
        go_wp2_with fail
        have hB0 : Below w.heap.size w ((w.alloc (Obj.cells #[Value.int IntKind.i64 size, Value.int IntKind.u8 ↑kb, Value.slice a len cap] 24)).alloc (Obj.cells (madeCells #[Value.int IntKind.u8 0] n) 5)) :=
          ((Below.refl _ w).alloc (Nat.le_refl _) _).alloc (by simp) _
        have hX0 : Whole ((w.alloc (Obj.cells #[Value.int IntKind.i64 size, Value.int IntKind.u8 ↑kb, Value.slice a len cap] 24)).alloc (Obj.cells (madeCells #[Value.int IntKind.u8 0] n) 5)) w.heap.size 24 #[Value.int IntKind.i64 size, Value.int IntKind.u8 ↑kb, Value.slice a len cap] :=
          (Whole.fresh w 24 #[Value.int IntKind.i64 size, Value.int IntKind.u8 ↑kb, Value.slice a len cap]).alloc _
        have hH0 : Holds ((w.alloc (Obj.cells #[Value.int IntKind.i64 size, Value.int IntKind.u8 ↑kb, Value.slice a len cap] 24)).alloc (Obj.cells (madeCells #[Value.int IntKind.u8 0] n) 5)) (w.heap.size + 1) n (fun _ => 0) := by
          have := holds_of_made (Whole.fresh (w.alloc (Obj.cells #[Value.int IntKind.i64 size, Value.int IntKind.u8 ↑kb, Value.slice a len cap] 24)) 5 (madeCells #[Value.int IntKind.u8 0] n))
          simpa using this
        generalize ((w.alloc (Obj.cells #[Value.int IntKind.i64 size, Value.int IntKind.u8 ↑kb, Value.slice a len cap] 24)).alloc (Obj.cells (madeCells #[Value.int IntKind.u8 0] n) 5)) = W0 at hB0 hX0 hH0 ⊢
        obtain ⟨S, hS⟩ : ∃ S, w.heap.size = S := ⟨_, rfl⟩
        have HP := Lib.hid h
        clear h hmk
        rw [hS] at hB0 hX0 hH0
        have hSle : w.heap.size ≤ S := by omega
        have hSle2 : S ≤ w.heap.size := by omega
        simp only [hS]
        clear hS
        go_loopw [5] (fun i wr => ∃ k : Nat, k ≤ n ∧ i = .int .i64 k ∧ Whole wr S 24 #[Value.int IntKind.i64 size, Value.int IntKind.u8 ↑kb, Value.slice a len cap] ∧ Holds wr (S + 1) n (first (base kb) k) ∧ Below S w wr) (fun i _ => n - (intOf i).toNat)
        case atStart => exact ⟨0, Nat.zero_le _, rfl, hX0, hH0.congr (fun i _ => by simp [first]), hB0⟩
        case round =>
          obtain ⟨k, hk, rfl, hX, hH, hB⟩ := hrel
          clear hX0 hH0 hB0
          by_cases hlt : k < n
          · have e1 := hX.cell 1
            have fr := hH.free k
            have wk := hH.cell k hlt
            have hv : base kb k < 256 := by unfold base; rw [if_neg hk0]; omega
            have he : (k : Int) / 8 % 256 * (kb : Int) % 256 = (base kb k : Nat) := by unfold base; rw [if_neg hk0]; push_cast; rfl
            have hP := hH.put k (base kb k) hv
            rw [base_step] at hP
            have hX2 := hX.away (p := ⟨S + 1, k, none⟩) (by simp) (.int .u8 (base kb k : Nat))
            have hB2 := hB.setCell (p := ⟨S + 1, k, none⟩) (by simp) (.int .u8 (base kb k : Nat))
            clear hX hH hB
            generalize base kb k = x at *
            go_wp2_with fail
            refine ⟨⟨k + 1, by omega, by congr 1, hX2, hP, hB2⟩, ?_⟩
            simp only [intOf]
            omega
          · obtain hkn : k = n := by omega
            have hH1 := hH.congr (f' := base kb) (fun i hi => by simp [first, hkn, hi])
            clear hk hkn
            have e1 := hX.cell 1
            go_wp2_with fail
            have e2 := hX.cell 2
            go_loopw [6] (fun i wr => ∃ k : Nat, k ≤ len ∧ i = .int .i64 k ∧ Whole wr S 24 #[Value.int IntKind.i64 size, Value.int IntKind.u8 ↑kb, Value.slice a len cap] ∧ Holds wr (S + 1) n (img kb ps k) ∧ Below S w wr) (fun i _ => len - (intOf i).toNat)
            case atStart => exact ⟨0, Nat.zero_le _, rfl, hX, hH1, hB⟩
            case round =>
              clear hX hH1 hB e2
              obtain ⟨k, hk, rfl, hX, hH, hB⟩ := hrel
              have e2 := hX.cell 2
              have hlen : len ≤ 140737488355328 := HP.out.1
              by_cases hlt : k < len
              · obtain ⟨b, o, rfl, hbl, hpt⟩ := HP.out.2.resolve_left (by omega)
                have hp := hpt k hlt
                clear hpt
                obtain ⟨p, hpe⟩ : ∃ p, ps k = p := ⟨_, rfl⟩
                rw [hpe] at hp
                have hcb := Below.mono hB hSle
                have c0 := (hcb.cell (p := ⟨b, o + k * 2, none⟩) hbl).trans hp.c0
                have c1 := (hcb.cell (p := ⟨b, o + k * 2 + 1, none⟩) hbl).trans hp.c1
                have HR := Lib.hid hp.row
                obtain ⟨hlo, hhi, hreach⟩ : -9223372036854775808 ≤ p.pos ∧ p.pos ≤ 9223372036854775807 ∧ p.len ≤ 140737488355328 := ⟨hp.lo, hp.hi, hp.reach⟩
                have hlt2 := hH.lt
                clear hcb hp
                go_wp2_with fail
                have hX2 := hX.alloc (Obj.cells #[Value.int IntKind.i64 p.pos, Value.slice p.a p.len p.cap] 42)
                have hH2 := hH.alloc (Obj.cells #[Value.int IntKind.i64 p.pos, Value.slice p.a p.len p.cap] 42)
                have hB2 := hB.alloc (by omega) (Obj.cells #[Value.int IntKind.i64 p.pos, Value.slice p.a p.len p.cap] 42)
                have hQ2 := Whole.fresh wr 42 #[Value.int IntKind.i64 p.pos, Value.slice p.a p.len p.cap]
                clear hX hH hB e2 c0 c1
                generalize (wr.alloc (Obj.cells #[Value.int IntKind.i64 p.pos, Value.slice p.a p.len p.cap] 42)) = W1 at *
                obtain ⟨Q, hQ⟩ : ∃ Q, wr.heap.size = Q := ⟨_, rfl⟩
                rw [hQ] at hlt2 hQ2 ⊢
                clear hQ
                have hH3 := hH2.congr (fun i _ => congrFun (paint_zero (img kb ps k) p).symm i)
                go_loopw [8] (fun x wq => ∃ i : Nat, i ≤ p.len ∧ x = .int .i64 i ∧ Whole wq S 24 #[Value.int IntKind.i64 size, Value.int IntKind.u8 ↑kb, Value.slice (some ⟨b, o, none⟩) len cap] ∧ Whole wq Q 42 #[Value.int IntKind.i64 p.pos, Value.slice p.a p.len p.cap] ∧ Holds wq (S + 1) n (paint (img kb ps k) p i) ∧ Below S w wq) (fun x _ => p.len - (intOf x).toNat)
                case atStart => exact ⟨0, Nat.zero_le _, rfl, hX2, hQ2, hH3, hB2⟩
                case round =>
                  clear hX2 hQ2 hH2 hH3 hB2
                  obtain ⟨i, hi, rfl, hX, hQ, hH, hB⟩ := hrel
                  have q0 := hQ.cell 0
                  have q1 := hQ.cell 1
                  by_cases hil : i < p.len
                  · by_cases hin : 0 ≤ p.pos + i ∧ p.pos + i < n
                    · obtain ⟨hin0, hin1⟩ := hin
                      obtain ⟨t, ht⟩ := Int.eq_ofNat_of_zero_le hin0
                      obtain ⟨b2, o2, ha, hb2, hc2⟩ := HR.out.2.resolve_left (by omega)
                      have cc := (hB.cell (p := ⟨b2, o2 + i, none⟩) (show b2 < S by omega)).trans (hc2 i hil)
                      have hby := HR.out.1 i hil
                      have htn : t < n := by omega
                      have fr := hH.free t
                      have wk := hH.cell t htn
                      have hP := hH.put t (p.f i) hby
                      rw [paint_in _ _ _ _ ht] at hP
                      have hX2 := hX.away (p := ⟨S + 1, t, none⟩) (by simp) (.int .u8 (p.f i : Nat))
                      have hQ2 := hQ.away (p := ⟨S + 1, t, none⟩) (show Q ≠ S + 1 by omega) (.int .u8 (p.f i : Nat))
                      have hB2 := hB.setCell (p := ⟨S + 1, t, none⟩) (by simp) (.int .u8 (p.f i : Nat))
                      rw [ha] at q1 hQ2 ⊢
                      clear hc2 hH hX hQ hB
                      generalize p.f i = x at *
                      generalize p.pos = z at *
                      go_wp2_with fail
                      refine ⟨⟨i + 1, by omega, by congr 1, hX2, hQ2, hP, hB2⟩, ?_⟩
                      simp only [intOf]
                      omega
                    · have hH4 := hH.congr (paint_out (img kb ps k) p i n (by omega))
                      clear hH HR
                      generalize p.pos = z at *
                      rcases (show z + i < 0 ∨ ((n : Nat) : Int) ≤ z + i ∧ z + i ≤ 9223372036854775807 ∨ 9223372036854775807 < z + i by omega) with h5 | ⟨h5, h6⟩ | h5
                      · go_wp2_with fail
                        refine ⟨⟨i + 1, by omega, by congr 1, hX, hQ, hH4, hB⟩, ?_⟩
                        simp only [intOf]
                        omega
                      · go_wp2_with fail
                        refine ⟨⟨i + 1, by omega, by congr 1, hX, hQ, hH4, hB⟩, ?_⟩
                        simp only [intOf]
                        omega
                      · have hw : wrap64 (z + i) = z + i - 18446744073709551616 := by unfold wrap64; omega
                        go_wp2_with fail
                        refine ⟨⟨i + 1, by omega, by congr 1, hX, hQ, hH4, hB⟩, ?_⟩
                        simp only [intOf]
                        omega
                  · obtain rfl : i = p.len := by omega
                    have hH4 := hH.congr (f' := img kb ps (k + 1)) (fun j _ => by rw [img, hpe])
                    clear hH hlo hhi
                    go_wp2_with fail
                    refine ⟨⟨k + 1, by omega, by congr 1, hX, hH4, hB⟩, ?_⟩
                    simp only [intOf]
                    omega
              · obtain rfl : k = len := by omega
                go_wp2_with fail
                go_ret
                exact ⟨S + 1, rfl, hH, by omega, hB.mono hSle⟩
      · clear hn
        have hmk := fun W => run_make_row' (P := Try.prog) 25 5 (.int .u8 0) 1 Try.underlying25 (by kernel_rfl) rfl .i64 .i64 n (by omega) (by omega) W
        go_enter Try.func6, Try.ntmps6
        go_wp2_with fail
        rw [H32.out, hmk]
        go_wp2_with fail
        have hB0 : Below w.heap.size w ((w.alloc (Obj.cells #[Value.int IntKind.i64 size, Value.int IntKind.u8 ↑kb, Value.slice a len cap] 24)).alloc (Obj.cells (madeCells #[Value.int IntKind.u8 0] n) 5)) :=
          ((Below.refl _ w).alloc (Nat.le_refl _) _).alloc (by simp) _
        have hX0 : Whole ((w.alloc (Obj.cells #[Value.int IntKind.i64 size, Value.int IntKind.u8 ↑kb, Value.slice a len cap] 24)).alloc (Obj.cells (madeCells #[Value.int IntKind.u8 0] n) 5)) w.heap.size 24 #[Value.int IntKind.i64 size, Value.int IntKind.u8 ↑kb, Value.slice a len cap] :=
          (Whole.fresh w 24 #[Value.int IntKind.i64 size, Value.int IntKind.u8 ↑kb, Value.slice a len cap]).alloc _
        have hH0 : Holds ((w.alloc (Obj.cells #[Value.int IntKind.i64 size, Value.int IntKind.u8 ↑kb, Value.slice a len cap] 24)).alloc (Obj.cells (madeCells #[Value.int IntKind.u8 0] n) 5)) (w.heap.size + 1) n (fun _ => 0) := by
          have := holds_of_made (Whole.fresh (w.alloc (Obj.cells #[Value.int IntKind.i64 size, Value.int IntKind.u8 ↑kb, Value.slice a len cap] 24)) 5 (madeCells #[Value.int IntKind.u8 0] n))
          simpa using this
        generalize ((w.alloc (Obj.cells #[Value.int IntKind.i64 size, Value.int IntKind.u8 ↑kb, Value.slice a len cap] 24)).alloc (Obj.cells (madeCells #[Value.int IntKind.u8 0] n) 5)) = W0 at hB0 hX0 hH0 ⊢
        obtain ⟨S, hS⟩ : ∃ S, w.heap.size = S := ⟨_, rfl⟩
        have HP := Lib.hid h
        clear h hmk
        rw [hS] at hB0 hX0 hH0
        have hSle : w.heap.size ≤ S := by omega
        have hSle2 : S ≤ w.heap.size := by omega
        simp only [hS]
        clear hS
        go_loopw [5] (fun i wr => ∃ k : Nat, k ≤ n ∧ i = .int .i64 k ∧ Whole wr S 24 #[Value.int IntKind.i64 size, Value.int IntKind.u8 ↑kb, Value.slice a len cap] ∧ Holds wr (S + 1) n (first (base kb) k) ∧ Below S w wr) (fun i _ => n - (intOf i).toNat)
        case atStart => exact ⟨0, Nat.zero_le _, rfl, hX0, hH0.congr (fun i _ => by simp [first]), hB0⟩
        case round =>
          obtain ⟨k, hk, rfl, hX, hH, hB⟩ := hrel
          clear hX0 hH0 hB0
          by_cases hlt : k < n
          · have e1 := hX.cell 1
            have fr := hH.free k
            have wk := hH.cell k hlt
            have hv : base kb k < 256 := by unfold base; rw [if_neg hk0]; omega
            have he : (k : Int) / 8 % 256 * (kb : Int) % 256 = (base kb k : Nat) := by unfold base; rw [if_neg hk0]; push_cast; rfl
            have hP := hH.put k (base kb k) hv
            rw [base_step] at hP
            have hX2 := hX.away (p := ⟨S + 1, k, none⟩) (by simp) (.int .u8 (base kb k : Nat))
            have hB2 := hB.setCell (p := ⟨S + 1, k, none⟩) (by simp) (.int .u8 (base kb k : Nat))
            clear hX hH hB
            generalize base kb k = x at *
            go_wp2_with fail
            refine ⟨⟨k + 1, by omega, by congr 1, hX2, hP, hB2⟩, ?_⟩
            simp only [intOf]
            omega
          · obtain hkn : k = n := by omega
            have hH1 := hH.congr (f' := base kb) (fun i hi => by simp [first, hkn, hi])
            clear hk hkn
            have e1 := hX.cell 1
            go_wp2_with fail
            have e2 := hX.cell 2
            go_loopw [6] (fun i wr => ∃ k : Nat, k ≤ len ∧ i = .int .i64 k ∧ Whole wr S 24 #[Value.int IntKind.i64 size, Value.int IntKind.u8 ↑kb, Value.slice a len cap] ∧ Holds wr (S + 1) n (img kb ps k) ∧ Below S w wr) (fun i _ => len - (intOf i).toNat)
            case atStart => exact ⟨0, Nat.zero_le _, rfl, hX, hH1, hB⟩
            case round =>
              clear hX hH1 hB e2
              obtain ⟨k, hk, rfl, hX, hH, hB⟩ := hrel
              have e2 := hX.cell 2
              have hlen : len ≤ 140737488355328 := HP.out.1
              by_cases hlt : k < len
              · obtain ⟨b, o, rfl, hbl, hpt⟩ := HP.out.2.resolve_left (by omega)
                have hp := hpt k hlt
                clear hpt
                obtain ⟨p, hpe⟩ : ∃ p, ps k = p := ⟨_, rfl⟩
                rw [hpe] at hp
                have hcb := Below.mono hB hSle
                have c0 := (hcb.cell (p := ⟨b, o + k * 2, none⟩) hbl).trans hp.c0
                have c1 := (hcb.cell (p := ⟨b, o + k * 2 + 1, none⟩) hbl).trans hp.c1
                have HR := Lib.hid hp.row
                obtain ⟨hlo, hhi, hreach⟩ : -9223372036854775808 ≤ p.pos ∧ p.pos ≤ 9223372036854775807 ∧ p.len ≤ 140737488355328 := ⟨hp.lo, hp.hi, hp.reach⟩
                have hlt2 := hH.lt
                clear hcb hp
                go_wp2_with fail
                have hX2 := hX.alloc (Obj.cells #[Value.int IntKind.i64 p.pos, Value.slice p.a p.len p.cap] 42)
                have hH2 := hH.alloc (Obj.cells #[Value.int IntKind.i64 p.pos, Value.slice p.a p.len p.cap] 42)
                have hB2 := hB.alloc (by omega) (Obj.cells #[Value.int IntKind.i64 p.pos, Value.slice p.a p.len p.cap] 42)
                have hQ2 := Whole.fresh wr 42 #[Value.int IntKind.i64 p.pos, Value.slice p.a p.len p.cap]
                clear hX hH hB e2 c0 c1
                generalize (wr.alloc (Obj.cells #[Value.int IntKind.i64 p.pos, Value.slice p.a p.len p.cap] 42)) = W1 at *
                obtain ⟨Q, hQ⟩ : ∃ Q, wr.heap.size = Q := ⟨_, rfl⟩
                rw [hQ] at hlt2 hQ2 ⊢
                clear hQ
                have hH3 := hH2.congr (fun i _ => congrFun (paint_zero (img kb ps k) p).symm i)
                go_loopw [8] (fun x wq => ∃ i : Nat, i ≤ p.len ∧ x = .int .i64 i ∧ Whole wq S 24 #[Value.int IntKind.i64 size, Value.int IntKind.u8 ↑kb, Value.slice (some ⟨b, o, none⟩) len cap] ∧ Whole wq Q 42 #[Value.int IntKind.i64 p.pos, Value.slice p.a p.len p.cap] ∧ Holds wq (S + 1) n (paint (img kb ps k) p i) ∧ Below S w wq) (fun x _ => p.len - (intOf x).toNat)
                case atStart => exact ⟨0, Nat.zero_le _, rfl, hX2, hQ2, hH3, hB2⟩
                case round =>
                  clear hX2 hQ2 hH2 hH3 hB2
                  obtain ⟨i, hi, rfl, hX, hQ, hH, hB⟩ := hrel
                  have q0 := hQ.cell 0
                  have q1 := hQ.cell 1
                  by_cases hil : i < p.len
                  · by_cases hin : 0 ≤ p.pos + i ∧ p.pos + i < n
                    · obtain ⟨hin0, hin1⟩ := hin
                      obtain ⟨t, ht⟩ := Int.eq_ofNat_of_zero_le hin0
                      obtain ⟨b2, o2, ha, hb2, hc2⟩ := HR.out.2.resolve_left (by omega)
                      have cc := (hB.cell (p := ⟨b2, o2 + i, none⟩) (show b2 < S by omega)).trans (hc2 i hil)
                      have hby := HR.out.1 i hil
                      have htn : t < n := by omega
                      have fr := hH.free t
                      have wk := hH.cell t htn
                      have hP := hH.put t (p.f i) hby
                      rw [paint_in _ _ _ _ ht] at hP
                      have hX2 := hX.away (p := ⟨S + 1, t, none⟩) (by simp) (.int .u8 (p.f i : Nat))
                      have hQ2 := hQ.away (p := ⟨S + 1, t, none⟩) (show Q ≠ S + 1 by omega) (.int .u8 (p.f i : Nat))
                      have hB2 := hB.setCell (p := ⟨S + 1, t, none⟩) (by simp) (.int .u8 (p.f i : Nat))
                      rw [ha] at q1 hQ2 ⊢
                      clear hc2 hH hX hQ hB
                      generalize p.f i = x at *
                      generalize p.pos = z at *
                      go_wp2_with fail
                      refine ⟨⟨i + 1, by omega, by congr 1, hX2, hQ2, hP, hB2⟩, ?_⟩
                      simp only [intOf]
                      omega
                    · have hH4 := hH.congr (paint_out (img kb ps k) p i n (by omega))
                      clear hH HR
                      generalize p.pos = z at *
                      rcases (show z + i < 0 ∨ ((n : Nat) : Int) ≤ z + i ∧ z + i ≤ 9223372036854775807 ∨ 9223372036854775807 < z + i by omega) with h5 | ⟨h5, h6⟩ | h5
                      · go_wp2_with fail
                        refine ⟨⟨i + 1, by omega, by congr 1, hX, hQ, hH4, hB⟩, ?_⟩
                        simp only [intOf]
                        omega
                      · go_wp2_with fail
                        refine ⟨⟨i + 1, by omega, by congr 1, hX, hQ, hH4, hB⟩, ?_⟩
                        simp only [intOf]
                        omega
                      · have hw : wrap64 (z + i) = z + i - 18446744073709551616 := by unfold wrap64; omega
                        go_wp2_with fail
                        refine ⟨⟨i + 1, by omega, by congr 1, hX, hQ, hH4, hB⟩, ?_⟩
                        simp only [intOf]
                        omega
                  · obtain rfl : i = p.len := by omega
                    have hH4 := hH.congr (f' := img kb ps (k + 1)) (fun j _ => by rw [img, hpe])
                    clear hH hlo hhi
                    go_wp2_with fail
                    refine ⟨⟨k + 1, by omega, by congr 1, hX, hH4, hB⟩, ?_⟩
                    simp only [intOf]
                    omega
              · obtain rfl : k = len := by omega
                go_wp2_with fail
                go_ret
                exact ⟨S + 1, rfl, hH, by omega, hB.mono hSle⟩
    · obtain rfl : size = (n : Int) := by rw [← hn]; unfold imgN; rw [if_neg hsz]; omega
      have hmk := fun W => run_make_row' (P := Try.prog) 25 5 (.int .u8 0) 1 Try.underlying25 (by kernel_rfl) rfl .i64 .i64 n (by omega) (by omega) W
      go_enter Try.func6, Try.ntmps6
      go_wp2_with fail
      have hB0 : Below w.heap.size w ((w.alloc (Obj.cells #[Value.int IntKind.i64 ↑n, Value.int IntKind.u8 ↑kb, Value.slice a len cap] 24)).alloc (Obj.cells (madeCells #[Value.int IntKind.u8 0] n) 5)) :=
        ((Below.refl _ w).alloc (Nat.le_refl _) _).alloc (by simp) _
      have hX0 : Whole ((w.alloc (Obj.cells #[Value.int IntKind.i64 ↑n, Value.int IntKind.u8 ↑kb, Value.slice a len cap] 24)).alloc (Obj.cells (madeCells #[Value.int IntKind.u8 0] n) 5)) w.heap.size 24 #[Value.int IntKind.i64 ↑n, Value.int IntKind.u8 ↑kb, Value.slice a len cap] :=
        (Whole.fresh w 24 #[Value.int IntKind.i64 ↑n, Value.int IntKind.u8 ↑kb, Value.slice a len cap]).alloc _
      have hH0 : Holds ((w.alloc (Obj.cells #[Value.int IntKind.i64 ↑n, Value.int IntKind.u8 ↑kb, Value.slice a len cap] 24)).alloc (Obj.cells (madeCells #[Value.int IntKind.u8 0] n) 5)) (w.heap.size + 1) n (fun _ => 0) := by
        have := holds_of_made (Whole.fresh (w.alloc (Obj.cells #[Value.int IntKind.i64 ↑n, Value.int IntKind.u8 ↑kb, Value.slice a len cap] 24)) 5 (madeCells #[Value.int IntKind.u8 0] n))
        simpa using this
      generalize ((w.alloc (Obj.cells #[Value.int IntKind.i64 ↑n, Value.int IntKind.u8 ↑kb, Value.slice a len cap] 24)).alloc (Obj.cells (madeCells #[Value.int IntKind.u8 0] n) 5)) = W0 at hB0 hX0 hH0 ⊢
      obtain ⟨S, hS⟩ : ∃ S, w.heap.size = S := ⟨_, rfl⟩
      have HP := Lib.hid h
      clear h hmk
      rw [hS] at hB0 hX0 hH0
      have hSle : w.heap.size ≤ S := by omega
      have hSle2 : S ≤ w.heap.size := by omega
      simp only [hS]
      clear hS
      go_loopw [5] (fun i wr => ∃ k : Nat, k ≤ n ∧ i = .int .i64 k ∧ Whole wr S 24 #[Value.int IntKind.i64 ↑n, Value.int IntKind.u8 ↑kb, Value.slice a len cap] ∧ Holds wr (S + 1) n (first (base kb) k) ∧ Below S w wr) (fun i _ => n - (intOf i).toNat)
      case atStart => exact ⟨0, Nat.zero_le _, rfl, hX0, hH0.congr (fun i _ => by simp [first]), hB0⟩
      case round =>
        obtain ⟨k, hk, rfl, hX, hH, hB⟩ := hrel
        clear hX0 hH0 hB0
        by_cases hlt : k < n
        · have e1 := hX.cell 1
          have fr := hH.free k
          have wk := hH.cell k hlt
          have hv : base kb k < 256 := by unfold base; rw [if_neg hk0]; omega
          have he : (k : Int) / 8 % 256 * (kb : Int) % 256 = (base kb k : Nat) := by unfold base; rw [if_neg hk0]; push_cast; rfl
          have hP := hH.put k (base kb k) hv
          rw [base_step] at hP
          have hX2 := hX.away (p := ⟨S + 1, k, none⟩) (by simp) (.int .u8 (base kb k : Nat))
          have hB2 := hB.setCell (p := ⟨S + 1, k, none⟩) (by simp) (.int .u8 (base kb k : Nat))
          clear hX hH hB
          generalize base kb k = x at *
          go_wp2_with fail
          refine ⟨⟨k + 1, by omega, by congr 1, hX2, hP, hB2⟩, ?_⟩
          simp only [intOf]
          omega
        · obtain hkn : k = n := by omega
          have hH1 := hH.congr (f' := base kb) (fun i hi => by simp [first, hkn, hi])
          clear hk hkn
          have e1 := hX.cell 1
          go_wp2_with fail
          have e2 := hX.cell 2
          go_loopw [6] (fun i wr => ∃ k : Nat, k ≤ len ∧ i = .int .i64 k ∧ Whole wr S 24 #[Value.int IntKind.i64 ↑n, Value.int IntKind.u8 ↑kb, Value.slice a len cap] ∧ Holds wr (S + 1) n (img kb ps k) ∧ Below S w wr) (fun i _ => len - (intOf i).toNat)
          case atStart => exact ⟨0, Nat.zero_le _, rfl, hX, hH1, hB⟩
          case round =>
            clear hX hH1 hB e2
            obtain ⟨k, hk, rfl, hX, hH, hB⟩ := hrel
            have e2 := hX.cell 2
            have hlen : len ≤ 140737488355328 := HP.out.1
            by_cases hlt : k < len
            · obtain ⟨b, o, rfl, hbl, hpt⟩ := HP.out.2.resolve_left (by omega)
              have hp := hpt k hlt
              clear hpt
              obtain ⟨p, hpe⟩ : ∃ p, ps k = p := ⟨_, rfl⟩
              rw [hpe] at hp
              have hcb := Below.mono hB hSle
              have c0 := (hcb.cell (p := ⟨b, o + k * 2, none⟩) hbl).trans hp.c0
              have c1 := (hcb.cell (p := ⟨b, o + k * 2 + 1, none⟩) hbl).trans hp.c1
              have HR := Lib.hid hp.row
              obtain ⟨hlo, hhi, hreach⟩ : -9223372036854775808 ≤ p.pos ∧ p.pos ≤ 9223372036854775807 ∧ p.len ≤ 140737488355328 := ⟨hp.lo, hp.hi, hp.reach⟩
              have hlt2 := hH.lt
              clear hcb hp
              go_wp2_with fail
              have hX2 := hX.alloc (Obj.cells #[Value.int IntKind.i64 p.pos, Value.slice p.a p.len p.cap] 42)
              have hH2 := hH.alloc (Obj.cells #[Value.int IntKind.i64 p.pos, Value.slice p.a p.len p.cap] 42)
              have hB2 := hB.alloc (by omega) (Obj.cells #[Value.int IntKind.i64 p.pos, Value.slice p.a p.len p.cap] 42)
              have hQ2 := Whole.fresh wr 42 #[Value.int IntKind.i64 p.pos, Value.slice p.a p.len p.cap]
              clear hX hH hB e2 c0 c1
              generalize (wr.alloc (Obj.cells #[Value.int IntKind.i64 p.pos, Value.slice p.a p.len p.cap] 42)) = W1 at *
              obtain ⟨Q, hQ⟩ : ∃ Q, wr.heap.size = Q := ⟨_, rfl⟩
              rw [hQ] at hlt2 hQ2 ⊢
              clear hQ
              have hH3 := hH2.congr (fun i _ => congrFun (paint_zero (img kb ps k) p).symm i)
              go_loopw [8] (fun x wq => ∃ i : Nat, i ≤ p.len ∧ x = .int .i64 i ∧ Whole wq S 24 #[Value.int IntKind.i64 ↑n, Value.int IntKind.u8 ↑kb, Value.slice (some ⟨b, o, none⟩) len cap] ∧ Whole wq Q 42 #[Value.int IntKind.i64 p.pos, Value.slice p.a p.len p.cap] ∧ Holds wq (S + 1) n (paint (img kb ps k) p i) ∧ Below S w wq) (fun x _ => p.len - (intOf x).toNat)
              case atStart => exact ⟨0, Nat.zero_le _, rfl, hX2, hQ2, hH3, hB2⟩
              case round =>
                clear hX2 hQ2 hH2 hH3 hB2
                obtain ⟨i, hi, rfl, hX, hQ, hH, hB⟩ := hrel
                have q0 := hQ.cell 0
                have q1 := hQ.cell 1
                by_cases hil : i < p.len
                · by_cases hin : 0 ≤ p.pos + i ∧ p.pos + i < n
                  · obtain ⟨hin0, hin1⟩ := hin
                    obtain ⟨t, ht⟩ := Int.eq_ofNat_of_zero_le hin0
                    obtain ⟨b2, o2, ha, hb2, hc2⟩ := HR.out.2.resolve_left (by omega)
                    have cc := (hB.cell (p := ⟨b2, o2 + i, none⟩) (show b2 < S by omega)).trans (hc2 i hil)
                    have hby := HR.out.1 i hil
                    have htn : t < n := by omega
                    have fr := hH.free t
                    have wk := hH.cell t htn
                    have hP := hH.put t (p.f i) hby
                    rw [paint_in _ _ _ _ ht] at hP
                    have hX2 := hX.away (p := ⟨S + 1, t, none⟩) (by simp) (.int .u8 (p.f i : Nat))
                    have hQ2 := hQ.away (p := ⟨S + 1, t, none⟩) (show Q ≠ S + 1 by omega) (.int .u8 (p.f i : Nat))
                    have hB2 := hB.setCell (p := ⟨S + 1, t, none⟩) (by simp) (.int .u8 (p.f i : Nat))
                    rw [ha] at q1 hQ2 ⊢
                    clear hc2 hH hX hQ hB
                    generalize p.f i = x at *
                    generalize p.pos = z at *
                    go_wp2_with fail
                    refine ⟨⟨i + 1, by omega, by congr 1, hX2, hQ2, hP, hB2⟩, ?_⟩
                    simp only [intOf]
                    omega
                  · have hH4 := hH.congr (paint_out (img kb ps k) p i n (by omega))
                    clear hH HR
                    generalize p.pos = z at *
                    rcases (show z + i < 0 ∨ ((n : Nat) : Int) ≤ z + i ∧ z + i ≤ 9223372036854775807 ∨ 9223372036854775807 < z + i by omega) with h5 | ⟨h5, h6⟩ | h5
                    · go_wp2_with fail
                      refine ⟨⟨i + 1, by omega, by congr 1, hX, hQ, hH4, hB⟩, ?_⟩
                      simp only [intOf]
                      omega
                    · go_wp2_with fail
                      refine ⟨⟨i + 1, by omega, by congr 1, hX, hQ, hH4, hB⟩, ?_⟩
                      simp only [intOf]
                      omega
                    · have hw : wrap64 (z + i) = z + i - 18446744073709551616 := by unfold wrap64; omega
                      go_wp2_with fail
                      refine ⟨⟨i + 1, by omega, by congr 1, hX, hQ, hH4, hB⟩, ?_⟩
                      simp only [intOf]
                      omega
                · obtain rfl : i = p.len := by omega
                  have hH4 := hH.congr (f' := img kb ps (k + 1)) (fun j _ => by rw [img, hpe])
                  clear hH hlo hhi
                  go_wp2_with fail
                  refine ⟨⟨k + 1, by omega, by congr 1, hX, hH4, hB⟩, ?_⟩
                  simp only [intOf]
                  omega
            · obtain rfl : k = len := by omega
              go_wp2_with fail
              go_ret
              exact ⟨S + 1, rfl, hH, by omega, hB.mono hSle⟩

end Go.Proofs.Ytggjaoihfhianaa
