/-
  What comes in: an image, a card, a cartridge, opened to their parts.
-/
import Derived.Test.YtggjaoihfhianaaImg
import Derived.ProofKit
import Derived.OpenShut
import Derived.SizedLaws
import Derived.Deep.Slices
import Derived.Deep.Fields
import Derived.ChangeSame
import Derived.Lib.SmallJoins
namespace Go.Proofs.Ytggjaoihfhianaa
open Go.RowKit Go.ChangeShapes Go.WideShapes Go.ChangeAt Go.Joins Go.Deep
set_option linter.unusedVariables false
set_option maxRecDepth 100000

theorem open_agg7 {H : Type} {enc : TypeId × Value → H} {P : Program} {w : World} {base : Nat} {spare : Nat → Bool} {held : Bool} {r : Reach} {b0 : Nat} {t : TypeId} {f0 f1 f2 f3 f4 f5 f6 : Field} {v : Value} {d : DataW H} {p : List MemPlace} (hs : P.underlying t = some (.struct #[f0, f1, f2, f3, f4, f5, f6])) (hone : oneCellFields P #[f0, f1, f2, f3, f4, f5, f6] = true) (hC : P.cellsOf t = 7)
    (hv : Value.okWide P w r b0 t v) (h : DataW.Trod enc P w base spare held t v d p) :
    ∃ (v0 v1 v2 v3 v4 v5 v6 : Value) (y0 y1 y2 y3 y4 y5 y6 : DataW H × List MemPlace) (n : Nat), v = .agg #[v0, v1, v2, v3, v4, v5, v6] ∧ d = .agg [y0.1, y1.1, y2.1, y3.1, y4.1, y5.1, y6.1] ∧
      DataW.trod enc P w base spare held n f0.type [v0] = some y0 ∧ DataW.trod enc P w base spare held n f1.type [v1] = some y1 ∧ DataW.trod enc P w base spare held n f2.type [v2] = some y2 ∧ DataW.trod enc P w base spare held n f3.type [v3] = some y3 ∧ DataW.trod enc P w base spare held n f4.type [v4] = some y4 ∧ DataW.trod enc P w base spare held n f5.type [v5] = some y5 ∧ DataW.trod enc P w base spare held n f6.type [v6] = some y6 := by
  obtain ⟨cs, rfl, hsz⟩ := okWide_struct hs hv
  obtain ⟨l⟩ := cs
  obtain ⟨fuel, hf⟩ := h
  obtain ⟨xs, n, _, hx, _, hlen, hg⟩ := DataW.trod_struct hs hf
  match l, hsz.trans hC, xs, hlen with
  | [c0, c1, c2, c3, c4, c5, c6], _, [y0, y1, y2, y3, y4, y5, y6], _ =>
    refine ⟨c0, c1, c2, c3, c4, c5, c6, y0, y1, y2, y3, y4, y5, y6, n, rfl, by simpa using (congrArg (·.1) hx), ?_, ?_, ?_, ?_, ?_, ?_, ?_⟩
    · simpa [Value.cells, (hone_of hone 0 f0 rfl).1, (hone_of hone 0 f0 rfl).2] using hg 0 f0 rfl
    · simpa [Value.cells, (hone_of hone 1 f1 rfl).1, (hone_of hone 1 f1 rfl).2] using hg 1 f1 rfl
    · simpa [Value.cells, (hone_of hone 2 f2 rfl).1, (hone_of hone 2 f2 rfl).2] using hg 2 f2 rfl
    · simpa [Value.cells, (hone_of hone 3 f3 rfl).1, (hone_of hone 3 f3 rfl).2] using hg 3 f3 rfl
    · simpa [Value.cells, (hone_of hone 4 f4 rfl).1, (hone_of hone 4 f4 rfl).2] using hg 4 f4 rfl
    · simpa [Value.cells, (hone_of hone 5 f5 rfl).1, (hone_of hone 5 f5 rfl).2] using hg 5 f5 rfl
    · simpa [Value.cells, (hone_of hone 6 f6 rfl).1, (hone_of hone 6 f6 rfl).2] using hg 6 f6 rfl
theorem open_agg8 {H : Type} {enc : TypeId × Value → H} {P : Program} {w : World} {base : Nat} {spare : Nat → Bool} {held : Bool} {r : Reach} {b0 : Nat} {t : TypeId} {f0 f1 f2 f3 f4 f5 f6 f7 : Field} {v : Value} {d : DataW H} {p : List MemPlace} (hs : P.underlying t = some (.struct #[f0, f1, f2, f3, f4, f5, f6, f7])) (hone : oneCellFields P #[f0, f1, f2, f3, f4, f5, f6, f7] = true) (hC : P.cellsOf t = 8)
    (hv : Value.okWide P w r b0 t v) (h : DataW.Trod enc P w base spare held t v d p) :
    ∃ (v0 v1 v2 v3 v4 v5 v6 v7 : Value) (y0 y1 y2 y3 y4 y5 y6 y7 : DataW H × List MemPlace) (n : Nat), v = .agg #[v0, v1, v2, v3, v4, v5, v6, v7] ∧ d = .agg [y0.1, y1.1, y2.1, y3.1, y4.1, y5.1, y6.1, y7.1] ∧
      DataW.trod enc P w base spare held n f0.type [v0] = some y0 ∧ DataW.trod enc P w base spare held n f1.type [v1] = some y1 ∧ DataW.trod enc P w base spare held n f2.type [v2] = some y2 ∧ DataW.trod enc P w base spare held n f3.type [v3] = some y3 ∧ DataW.trod enc P w base spare held n f4.type [v4] = some y4 ∧ DataW.trod enc P w base spare held n f5.type [v5] = some y5 ∧ DataW.trod enc P w base spare held n f6.type [v6] = some y6 ∧ DataW.trod enc P w base spare held n f7.type [v7] = some y7 := by
  obtain ⟨cs, rfl, hsz⟩ := okWide_struct hs hv
  obtain ⟨l⟩ := cs
  obtain ⟨fuel, hf⟩ := h
  obtain ⟨xs, n, _, hx, _, hlen, hg⟩ := DataW.trod_struct hs hf
  match l, hsz.trans hC, xs, hlen with
  | [c0, c1, c2, c3, c4, c5, c6, c7], _, [y0, y1, y2, y3, y4, y5, y6, y7], _ =>
    refine ⟨c0, c1, c2, c3, c4, c5, c6, c7, y0, y1, y2, y3, y4, y5, y6, y7, n, rfl, by simpa using (congrArg (·.1) hx), ?_, ?_, ?_, ?_, ?_, ?_, ?_, ?_⟩
    · simpa [Value.cells, (hone_of hone 0 f0 rfl).1, (hone_of hone 0 f0 rfl).2] using hg 0 f0 rfl
    · simpa [Value.cells, (hone_of hone 1 f1 rfl).1, (hone_of hone 1 f1 rfl).2] using hg 1 f1 rfl
    · simpa [Value.cells, (hone_of hone 2 f2 rfl).1, (hone_of hone 2 f2 rfl).2] using hg 2 f2 rfl
    · simpa [Value.cells, (hone_of hone 3 f3 rfl).1, (hone_of hone 3 f3 rfl).2] using hg 3 f3 rfl
    · simpa [Value.cells, (hone_of hone 4 f4 rfl).1, (hone_of hone 4 f4 rfl).2] using hg 4 f4 rfl
    · simpa [Value.cells, (hone_of hone 5 f5 rfl).1, (hone_of hone 5 f5 rfl).2] using hg 5 f5 rfl
    · simpa [Value.cells, (hone_of hone 6 f6 rfl).1, (hone_of hone 6 f6 rfl).2] using hg 6 f6 rfl
    · simpa [Value.cells, (hone_of hone 7 f7 rfl).1, (hone_of hone 7 f7 rfl).2] using hg 7 f7 rfl

/-- The values of integers. -/
def vals (k : IntKind) (zs : List Int) : List Value := zs.map (Value.int k)
/-- What is met where a slice of integers leads: the numbers zs, one behind the other (nothing is said if there are none). -/
def Lies (k : IntKind) (w : World) (a : Option Addr) (zs : List Int) : Prop :=
  zs = [] ∨ ∃ b o, a = some ⟨b, o, none⟩ ∧ b < w.heap.size ∧ ∀ i, i < zs.length → w.cell? ⟨b, o + i, none⟩ = some (.int k (zs[i]?.getD 0))
/-- The slice at a, of len elements: the numbers zs; so many bytes each; each fits. -/
def Seen (k : IntKind) (bytes : Nat) (w : World) (a : Option Addr) (len : Nat) (zs : List Int) : Prop :=
  zs.length = len ∧ Lies k w a zs ∧ zs.length * bytes ≤ 140737488351232 ∧ ∀ n ∈ zs, (Lit.int k n).wf = true
theorem seen_ints {H : Type} {enc : TypeId × Value → H} {P : Program} {w : World} {base : Nat} {held : Bool} {t e : TypeId} {k : IntKind} {bytes fuel : Nat} {a : Option Addr} {len cap : Nat} {d : DataW H} {p : List MemPlace}
    {ts : List TypeId} {ds : List (DataW H)} (j : Nat) (ht : P.underlying t = some (.slice e)) (he : P.underlying e = some (.int k)) (hc : P.cellsOf e = 1) (hb : P.bytesOf e = bytes)
    (h : DataW.trod enc P w base (fun _ => true) held fuel t (Value.slice a len cap).cells.toList = some (d, p)) (hsz : (DataW.weightsEach P ts ds).all (· ≤ reachBytes) = true) (hj : ts[j]? = some t) (hd : ds[j]? = some d) :
    ∃ zs, Seen k bytes w a len zs := by
  rcases open_ints ht he hc h with ⟨hcs, _⟩ | ⟨x, l, c, zs, hcs, _, hl, hm, hz, hx, hcell, hwz⟩
  · simp [Value.cells] at hcs
    obtain ⟨rfl, rfl, rfl⟩ := hcs
    exact ⟨[], rfl, .inl rfl, by simp, by simp⟩
  · simp [Value.cells] at hcs
    obtain ⟨rfl, rfl, rfl⟩ := hcs
    simp only [if_true] at hz
    simp only [Prod.mk.injEq] at hx
    obtain ⟨hxd, _⟩ := hx
    rw [hxd] at hd
    have hr := sized_slice hsz hj hd ht
    rw [hb] at hr
    simp only [lits, List.length_map, List.length_take, List.length_drop, reachBytes] at hr
    have hlen : (zs.take len).length = len := by simp; omega
    have hr' : len * bytes ≤ 140737488351232 := by
      refine Nat.le_trans (Nat.mul_le_mul_right bytes ?_) hr
      omega
    refine ⟨zs.take len, hlen, ?_, by rw [hlen]; exact hr', fun n hn => hwz n (List.mem_of_mem_take hn)⟩
    by_cases h0 : len = 0
    · subst h0; exact .inl (by simp)
    · obtain ⟨b, o, rfl, hcc⟩ := ints_at hcell (by omega)
      refine .inr ⟨b, o, rfl, World.block_lt_of_cell? _ _ (hcc 0 (by omega)), fun i hi => ?_⟩
      rw [hlen] at hi
      rw [hcc i (by omega)]
      simp [hi]

theorem row_of_seen {w : World} {a : Option Addr} {len : Nat} {zs : List Int} (h : Seen .u8 1 w a len zs) : Row w a len (fun i => (zs[i]?.getD 0).toNat) ∧ len ≤ 140737488355328 := by
  obtain ⟨rfl, hl, hr, hw⟩ := h
  have hb : ∀ i, i < zs.length → 0 ≤ zs[i]?.getD 0 ∧ zs[i]?.getD 0 < 256 := by
    intro i hi
    have := Go.bounds_u8 (hw _ (List.getElem_mem hi))
    rw [List.getElem?_eq_getElem hi]
    simp only [Option.getD_some]
    omega
  refine ⟨⟨fun i hi => by have := hb i hi; show (zs[i]?.getD 0).toNat < 256; omega, ?_⟩, by omega⟩
  rcases hl with rfl | ⟨b, o, rfl, hlt, hc⟩
  · exact .inl rfl
  · exact .inr ⟨b, o, rfl, hlt, fun i hi => by
      rw [hc i hi]
      have := hb i hi
      congr 2
      show _ = (((zs[i]?.getD 0).toNat : Nat) : Int)
      omega⟩
theorem mem_weightsAll {H : Type} {P : Program} {e : TypeId} : ∀ {l : List (DataW H)} {d : DataW H}, d ∈ l → ∀ n ∈ d.weights P e, n ∈ DataW.weightsAll P e l
  | [], d, h, n, hn => by cases h
  | x :: r, d, h, n, hn => by
    rw [DataW.weightsAll]
    rcases List.mem_cons.1 h with rfl | h
    · exact List.mem_append.2 (.inl hn)
    · exact List.mem_append.2 (.inr (mem_weightsAll h n hn))
theorem wf64 {x : Int} (h : (Lit.int .i64 x).wf = true) : -9223372036854775808 ≤ x ∧ x ≤ 9223372036854775807 := by
  simpa [Lit.wf, IntKind.min, IntKind.max, IntKind.signed, IntKind.bits] using h
theorem nat8 {x : Int} (h : (Lit.int .u8 x).wf = true) : ∃ n : Nat, x = n ∧ n < 256 := by
  have := Go.bounds_u8 h
  exact ⟨x.toNat, by omega, by omega⟩
theorem nat16 {x : Int} (h : (Lit.int .u16 x).wf = true) : ∃ n : Nat, x = n ∧ n < 65536 := by
  have := Go.bounds_u16 h
  exact ⟨x.toNat, by omega, by omega⟩
theorem trod_struct2 {H : Type} {enc : TypeId × Value → H} {P : Program} {w : World} {base : Nat} {spare : Nat → Bool} {held : Bool} {t : TypeId} {f0 f1 : Field} {fuel : Nat} {cs : List Value} {x : DataW H × List MemPlace}
    (ht : P.underlying t = some (.struct #[f0, f1])) (h : DataW.trod enc P w base spare held fuel t cs = some x) :
    ∃ y0 y1 n, x.1 = .agg [y0.1, y1.1] ∧ DataW.trod enc P w base spare held n f0.type ((cs.drop f0.offset).take (P.cellsOf f0.type)) = some y0 ∧
      DataW.trod enc P w base spare held n f1.type ((cs.drop f1.offset).take (P.cellsOf f1.type)) = some y1 := by
  obtain ⟨xs, n, _, rfl, hl, hlen, hf⟩ := DataW.trod_struct ht h
  match xs, hlen with
  | [y0, y1], _ => exact ⟨y0, y1, n, by simp, by simpa using hf 0 f0 rfl, by simpa using hf 1 f1 rfl⟩
theorem seen_patches {H : Type} {enc : TypeId × Value → H} {w : World} {base : Nat} {held : Bool} {fuel : Nat} {v : Value} {d : DataW H} {p : List MemPlace}
    (h : DataW.trod enc Try.prog w base (fun _ => true) held fuel 22 [v] = some (d, p)) (hsz : ∀ x ∈ d.weights Try.prog 22, x ≤ reachBytes) : ∃ (a : Option Addr) (len cap : Nat) (ps : Nat → Patch1), v = .slice a len cap ∧ Patches w a len ps := by
  rcases Deep.open_slice Try.underlying22 h with ⟨hcs, _⟩ | ⟨ad, l, c, m, n, D, Pl, hcs, hb, hl, hm, hmm, hx, hel⟩
  · simp at hcs
    subst hcs
    exact ⟨none, 0, 0, fun _ => default, rfl, Nat.zero_le _, .inl rfl⟩
  · simp only [List.cons.injEq, and_true] at hcs
    subst hcs
    simp only [if_true] at hmm
    subst hmm
    simp only [Prod.mk.injEq] at hx
    obtain ⟨hxd, _⟩ := hx
    subst hxd
    have hw : ∀ k, k < l → ∀ x ∈ (D k).weights Try.prog 42, x ≤ reachBytes := by
      intro k hk x hxm
      exact hsz x (by
        simp only [DataW.weights, Try.underlying22]
        refine List.mem_cons_of_mem _ (List.mem_append.2 (.inl ?_))
        exact mem_weightsAll (List.mem_map.2 ⟨k, List.mem_range.2 hk, rfl⟩) x hxm)
    have hlen : l ≤ 140737488355328 := by
      have := hsz _ (by
        simp only [DataW.weights, Try.underlying22]
        exact List.mem_cons_self)
      rw [show Try.prog.bytesOf 42 = 32 by kernel_rfl] at this
      simp only [List.length_map, List.length_range, reachBytes] at this
      omega
    by_cases h0 : l = 0
    · exact ⟨_, _, _, fun _ => default, rfl, hlen, .inl h0⟩
    obtain ⟨b, off, spot⟩ := ad
    have hspot : spot = none := by
      obtain ⟨cs', h1, h2⟩ := hel 0 (by omega)
      rw [show Try.prog.cellsOf 42 = 2 by kernel_rfl] at h1
      obtain ⟨_, hlen, hcell⟩ := World.cells?_some h1
      obtain ⟨v, hv⟩ : ∃ v, cs'[0]? = some v := ⟨cs'[0]'(by omega), List.getElem?_eq_getElem (by omega)⟩
      have f0 := hcell 0 (by omega)
      rw [hv] at f0
      simpa [Addr.add] using World.cell?_spot f0
    subst hspot
    have each : ∀ k, k < l → ∃ q : Patch1, b < w.heap.size ∧ PatchAt w b (off + k * 2) q := by
      intro k hk
      obtain ⟨cs', h1, h2⟩ := hel k (by omega)
      rw [show Try.prog.cellsOf 42 = 2 by kernel_rfl] at h1
      obtain ⟨_, hlen, hcell⟩ := World.cells?_some h1
      obtain ⟨y0, y1, n', hxy, g0, g1⟩ := trod_struct2 Try.underlying42 h2
      obtain ⟨v0, v1, rfl⟩ : ∃ v0 v1, cs' = [v0, v1] := by
        match cs', hlen with
        | [v0, v1], _ => exact ⟨v0, v1, rfl⟩
      simp only [show Try.prog.cellsOf 3 = 1 by kernel_rfl, show Try.prog.cellsOf 25 = 1 by kernel_rfl, List.drop_zero, List.drop_succ_cons, List.take_succ_cons, List.take_zero] at g0 g1
      obtain ⟨n0, e0, -, w0⟩ := DataW.trod_int Try.underlying3 g0
      obtain ⟨al, ll, cl, rfl⟩ : ∃ al ll cl, v1 = .slice al ll cl := by
        rcases DataW.trod_slice Try.underlying25 g1 with ⟨e, _⟩ | ⟨x, l, c, _, _, _, _, e, _⟩
        · exact ⟨none, 0, 0, by injection e⟩
        · exact ⟨some x, l, c, by injection e⟩
      obtain ⟨d1, p1⟩ := y1
      have hs1 : (DataW.weightsEach Try.prog [25] [d1]).all (· ≤ reachBytes) = true := by
        refine List.all_eq_true.2 (fun x hx => decide_eq_true (hw k hk x ?_))
        simp only [DataW.weightsEach, List.append_nil] at hx
        have hDk : D k = DataW.agg [y0.fst, d1] := hxy
        rw [hDk]
        simp [DataW.weights, Try.underlying42, DataW.weightsEach, hx]
      obtain ⟨zs, hz⟩ := seen_ints (len := ll) (cap := cl) (a := al) 0 Try.underlying25 Try.underlying5 (by kernel_rfl) (by kernel_rfl) (by simpa [Value.cells] using g1) hs1 rfl rfl
      obtain ⟨hrow, hlz⟩ := row_of_seen hz
      have f0 := hcell 0 (by omega)
      have f1 := hcell 1 (by omega)
      injection e0 with e0
      subst e0
      rw [Go.WideShapes.add_plain, Go.WideShapes.add_plain] at f0 f1
      have hw0 := wf64 w0
      refine ⟨⟨n0, al, ll, cl, fun i => (zs[i]?.getD 0).toNat⟩, World.block_lt_of_cell? w ⟨b, off + k * 2 + 0, none⟩ f0, ?_⟩
      exact ⟨by simpa using f0, by simpa using f1, hrow, hlz, hw0.1, hw0.2⟩
    obtain ⟨q, hq⟩ := Deep.choose_lt each
    exact ⟨_, _, _, q, rfl, hlen, .inr ⟨b, off, rfl, (hq 0 (by omega)).1, fun k hk => (hq k hk).2⟩⟩
/-- An image that came in. -/
theorem open_image {H : Type} {enc : TypeId × Value → H} {w : World} {r : Reach} {b0 base : Nat} {held : Bool} {v : Value} {d : DataW H} {p : List MemPlace} (hv : Value.okWide Try.prog w r b0 24 v) (h : DataW.Trod enc Try.prog w base (fun _ => true) held 24 v d p)
    (hsz : ∀ x ∈ d.weights Try.prog 24, x ≤ reachBytes) : ∃ (size : Int) (kb : Nat) (a : Option Addr) (len cap : Nat) (ps : Nat → Patch1), v = .agg #[.int .i64 size, .int .u8 kb, .slice a len cap] ∧ -9223372036854775808 ≤ size ∧ size ≤ 9223372036854775807 ∧ kb < 256 ∧ Patches w a len ps := by
  obtain ⟨v0, v1, v2, y0, y1, y2, n, rfl, rfl, -, h0, h1, h2⟩ := open_agg3 Try.underlying24 (by kernel_rfl) (by kernel_rfl) hv h
  obtain ⟨size, e0, -, w0⟩ := DataW.trod_int Try.underlying3 h0
  obtain ⟨kz, e1, -, w1⟩ := DataW.trod_int Try.underlying5 h1
  obtain ⟨kb, rfl, hkb⟩ := nat8 w1
  injection e0 with e0
  injection e1 with e1
  subst e0 e1
  obtain ⟨d2, p2⟩ := y2
  obtain ⟨a, len, cap, ps, rfl, hP⟩ := seen_patches h2 (fun x hx => hsz x (by simp [DataW.weights, Try.underlying24, DataW.weightsEach, hx]))
  exact ⟨size, kb, a, len, cap, ps, rfl, (wf64 w0).1, (wf64 w0).2, hkb, hP⟩
end Go.Proofs.Ytggjaoihfhianaa
