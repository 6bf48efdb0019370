/-
  Slices that come in: integers, operations.
-/
import Derived.Test.YthhahhmdpjchkaaOpenPlan
namespace Go.Proofs.Ythhahhmdpjchkaa
open Go.RowKit Go.ChangeShapes Go.WideShapes Go.ChangeAt Go.Joins Go.Deep
set_option linter.unusedVariables false
set_option maxRecDepth 100000

/-- The values of integers. -/
def vals (k : IntKind) (zs : List Int) : List Value := zs.map (Value.int k)
/-- What is met where a slice of integers leads: the numbers zs, one behind the other (nothing is said if there are none). -/
def Lies (k : IntKind) (w : World) (a : Option Addr) (zs : List Int) : Prop :=
  zs = [] ∨ ∃ b o, a = some ⟨b, o, none⟩ ∧ b < w.heap.size ∧ ∀ i, i < zs.length → w.cell? ⟨b, o + i, none⟩ = some (.int k (zs[i]?.getD 0))
/-- The slice at a, of len elements: the numbers zs; so many bytes each; each fits. -/
def Seen (k : IntKind) (bytes : Nat) (w : World) (a : Option Addr) (len : Nat) (zs : List Int) : Prop :=
  zs.length = len ∧ Lies k w a zs ∧ zs.length * bytes ≤ 140737488351232 ∧ ∀ n ∈ zs, (Lit.int k n).wf = true
theorem seen_ints {H : Type} {enc : TypeId × Value → H} {P : Program} {w : World} {base : Nat} {held : Bool} {t e : TypeId} {k : IntKind} {bytes fuel : Nat} {a : Option Addr} {len cap : Nat} {d : DataW H} {p : List MemPlace}
    {ts : List TypeId} {ds : List (DataW H)} (j : Nat) (ht : P.underlying t = some (.slice e)) (he : P.underlying e = some (.int k)) (hc : P.cellsOf e = 1) (hb : P.bytesOf e = bytes)
    (h : DataW.trod enc P w base (fun _ => true) held fuel t (Value.slice a len cap).cells.toList = some (d, p)) (hsz : (DataW.weightsEach P ts ds).all (· ≤ reachBytes) = true) (hj : ts[j]? = some t) (hd : ds[j]? = some d) :
    ∃ zs, Seen k bytes w a len zs := by
  rcases open_ints ht he hc h with ⟨hcs, _⟩ | ⟨x, l, c, zs, hcs, _, hl, hm, hz, hx, hcell, hwz⟩
  · simp [Value.cells] at hcs
    obtain ⟨rfl, rfl, rfl⟩ := hcs
    exact ⟨[], rfl, .inl rfl, by simp, by simp⟩
  · simp [Value.cells] at hcs
    obtain ⟨rfl, rfl, rfl⟩ := hcs
    simp only [if_true] at hz
    simp only [Prod.mk.injEq] at hx
    obtain ⟨hxd, _⟩ := hx
    rw [hxd] at hd
    have hr := sized_slice hsz hj hd ht
    rw [hb] at hr
    simp only [lits, List.length_map, List.length_take, List.length_drop, reachBytes] at hr
    have hlen : (zs.take len).length = len := by simp; omega
    have hr' : len * bytes ≤ 140737488351232 := by
      refine Nat.le_trans (Nat.mul_le_mul_right bytes ?_) hr
      omega
    refine ⟨zs.take len, hlen, ?_, by rw [hlen]; exact hr', fun n hn => hwz n (List.mem_of_mem_take hn)⟩
    by_cases h0 : len = 0
    · subst h0; exact .inl (by simp)
    · obtain ⟨b, o, rfl, hcc⟩ := ints_at hcell (by omega)
      refine .inr ⟨b, o, rfl, World.block_lt_of_cell? _ _ (hcc 0 (by omega)), fun i hi => ?_⟩
      rw [hlen] at hi
      rw [hcc i (by omega)]
      simp [hi]

theorem row_of_seen {w : World} {a : Option Addr} {len : Nat} {zs : List Int} (h : Seen .u8 1 w a len zs) : Row w a len (fun i => (zs[i]?.getD 0).toNat) ∧ len ≤ 140737488355328 := by
  obtain ⟨rfl, hl, hr, hw⟩ := h
  have hb : ∀ i, i < zs.length → 0 ≤ zs[i]?.getD 0 ∧ zs[i]?.getD 0 < 256 := by
    intro i hi
    have := Go.bounds_u8 (hw _ (List.getElem_mem hi))
    rw [List.getElem?_eq_getElem hi]
    simp only [Option.getD_some]
    omega
  refine ⟨⟨fun i hi => by have := hb i hi; show (zs[i]?.getD 0).toNat < 256; omega, ?_⟩, by omega⟩
  rcases hl with rfl | ⟨b, o, rfl, hlt, hc⟩
  · exact .inl rfl
  · exact .inr ⟨b, o, rfl, hlt, fun i hi => by
      rw [hc i hi]
      have := hb i hi
      congr 2
      show _ = (((zs[i]?.getD 0).toNat : Nat) : Int)
      omega⟩
theorem mem_weightsAll {H : Type} {P : Program} {e : TypeId} : ∀ {l : List (DataW H)} {d : DataW H}, d ∈ l → ∀ n ∈ d.weights P e, n ∈ DataW.weightsAll P e l
  | [], d, h, n, hn => by cases h
  | x :: r, d, h, n, hn => by
    rw [DataW.weightsAll]
    rcases List.mem_cons.1 h with rfl | h
    · exact List.mem_append.2 (.inl hn)
    · exact List.mem_append.2 (.inr (mem_weightsAll h n hn))
/-- Addresses that are read: n of them, the i-th is f i. -/
def Row32 (w : World) (a : Option Addr) (n : Nat) (f : Nat → Nat) : Prop :=
  (∀ i, i < n → f i < 4294967296) ∧ (n = 0 ∨ ∃ b o, a = some ⟨b, o, none⟩ ∧ b < w.heap.size ∧ ∀ i, i < n → w.cell? ⟨b, o + i, none⟩ = some (.int .u32 (f i : Nat)))
theorem Row32.below {w w' : World} {a : Option Addr} {n : Nat} {f : Nat → Nat} (h : Row32 w a n f) (hb : Below w.heap.size w w') : Row32 w' a n f := by
  rcases h with ⟨h0, h | ⟨b, o, rfl, hlt, hc⟩⟩
  · exact ⟨h0, .inl h⟩
  · exact ⟨h0, .inr ⟨b, o, rfl, Nat.lt_of_lt_of_le hlt hb.size, fun i hi => (hb.cell (p := ⟨b, o + i, none⟩) hlt).trans (hc i hi)⟩⟩
theorem row32_of_seen {w : World} {a : Option Addr} {len : Nat} {zs : List Int} (h : Seen .u32 4 w a len zs) : Row32 w a len (fun i => (zs[i]?.getD 0).toNat) ∧ len ≤ 140737488355328 := by
  obtain ⟨rfl, hl, hr, hw⟩ := h
  have hb : ∀ i, i < zs.length → 0 ≤ zs[i]?.getD 0 ∧ zs[i]?.getD 0 < 4294967296 := by
    intro i hi
    obtain ⟨n, hn, hn2⟩ := nat32 (hw _ (List.getElem_mem hi))
    rw [List.getElem?_eq_getElem hi]
    simp only [Option.getD_some]
    omega
  refine ⟨⟨fun i hi => by have := hb i hi; show (zs[i]?.getD 0).toNat < 4294967296; omega, ?_⟩, by omega⟩
  rcases hl with rfl | ⟨b, o, rfl, hlt, hc⟩
  · exact .inl rfl
  · exact .inr ⟨b, o, rfl, hlt, fun i hi => by
      rw [hc i hi]
      have := hb i hi
      congr 2
      show _ = (((zs[i]?.getD 0).toNat : Nat) : Int)
      omega⟩
/-- One call of a script: a read or a write, its address, its byte. -/
structure Op1 where
  what : Int
  at' : Nat
  v : Nat
instance : Inhabited Op1 := ⟨⟨0, 0, 0⟩⟩
/-- Call o lies at the three cells from offset q of block b on. -/
structure OpAt (w : World) (b q : Nat) (o : Op1) : Prop where
  c0 : w.cell? ⟨b, q, none⟩ = some (.int .i64 o.what)
  c1 : w.cell? ⟨b, q + 1, none⟩ = some (.int .u32 (o.at' : Nat))
  c2 : w.cell? ⟨b, q + 2, none⟩ = some (.int .u8 (o.v : Nat))
  ha : o.at' < 4294967296
  hv : o.v < 256
def OpsLie (w : World) (a : Option Addr) (len : Nat) (f : Nat → Op1) : Prop :=
  len = 0 ∨ ∃ b o, a = some ⟨b, o, none⟩ ∧ b < w.heap.size ∧ ∀ k, k < len → OpAt w b (o + k * 3) (f k)
theorem OpsLie.below {w w' : World} {a : Option Addr} {n : Nat} {f : Nat → Op1} (h : OpsLie w a n f) (hb : Below w.heap.size w w') : OpsLie w' a n f := by
  rcases h with h | ⟨b, o, rfl, hlt, hc⟩
  · exact .inl h
  · exact .inr ⟨b, o, rfl, Nat.lt_of_lt_of_le hlt hb.size, fun i hi =>
      ⟨(hb.cell (p := ⟨b, o + i * 3, none⟩) hlt).trans (hc i hi).c0, (hb.cell (p := ⟨b, o + i * 3 + 1, none⟩) hlt).trans (hc i hi).c1, (hb.cell (p := ⟨b, o + i * 3 + 2, none⟩) hlt).trans (hc i hi).c2, (hc i hi).ha, (hc i hi).hv⟩⟩
theorem trod_struct3 {H : Type} {enc : TypeId × Value → H} {P : Program} {w : World} {base : Nat} {spare : Nat → Bool} {held : Bool} {t : TypeId} {f0 f1 f2 : Field} {fuel : Nat} {cs : List Value} {x : DataW H × List MemPlace}
    (ht : P.underlying t = some (.struct #[f0, f1, f2])) (h : DataW.trod enc P w base spare held fuel t cs = some x) :
    ∃ y0 y1 y2 n, x.1 = .agg [y0.1, y1.1, y2.1] ∧ DataW.trod enc P w base spare held n f0.type ((cs.drop f0.offset).take (P.cellsOf f0.type)) = some y0 ∧
      DataW.trod enc P w base spare held n f1.type ((cs.drop f1.offset).take (P.cellsOf f1.type)) = some y1 ∧ DataW.trod enc P w base spare held n f2.type ((cs.drop f2.offset).take (P.cellsOf f2.type)) = some y2 := by
  obtain ⟨xs, n, _, rfl, hl, hlen, hf⟩ := DataW.trod_struct ht h
  match xs, hlen with
  | [y0, y1, y2], _ => exact ⟨y0, y1, y2, n, by simp, by simpa using hf 0 f0 rfl, by simpa using hf 1 f1 rfl, by simpa using hf 2 f2 rfl⟩
theorem seen_ops {H : Type} {enc : TypeId × Value → H} {w : World} {base : Nat} {held : Bool} {fuel : Nat} {a : Option Addr} {len cap : Nat} {d : DataW H} {p : List MemPlace}
    (h : DataW.trod enc Try.prog w base (fun _ => true) held fuel 24 (Value.slice a len cap).cells.toList = some (d, p)) : ∃ f : Nat → Op1, OpsLie w a len f ∧ len ≤ 9223372036854775807 := by
  rcases Deep.open_slice Try.underlying24 h with ⟨hcs, _⟩ | ⟨ad, l, c, m, n, D, Pl, hcs, hb, hl, hm, hmm, hx, hel⟩
  · simp [Value.cells] at hcs
    obtain ⟨rfl, rfl, rfl⟩ := hcs
    exact ⟨fun _ => default, .inl rfl, Nat.zero_le _⟩
  · simp [Value.cells] at hcs
    obtain ⟨rfl, rfl, rfl⟩ := hcs
    simp only [if_true] at hmm
    subst hmm
    by_cases h0 : len = 0
    · exact ⟨fun _ => default, .inl h0, by omega⟩
    obtain ⟨b, off, spot⟩ := ad
    have hspot : spot = none := by
      obtain ⟨cs', h1, h2⟩ := hel 0 (by omega)
      rw [show Try.prog.cellsOf 31 = 3 by kernel_rfl] at h1
      obtain ⟨_, hlen, hcell⟩ := World.cells?_some h1
      obtain ⟨v, hv⟩ : ∃ v, cs'[0]? = some v := ⟨cs'[0]'(by omega), List.getElem?_eq_getElem (by omega)⟩
      have f0 := hcell 0 (by omega)
      rw [hv] at f0
      simpa [Addr.add] using World.cell?_spot f0
    subst hspot
    have each : ∀ k, k < len → ∃ q : Op1, b < w.heap.size ∧ OpAt w b (off + k * 3) q := by
      intro k hk
      obtain ⟨cs', h1, h2⟩ := hel k (by omega)
      rw [show Try.prog.cellsOf 31 = 3 by kernel_rfl] at h1
      obtain ⟨_, hlen, hcell⟩ := World.cells?_some h1
      obtain ⟨y0, y1, y2, n', hxy, g0, g1, g2⟩ := trod_struct3 Try.underlying31 h2
      obtain ⟨v0, v1, v2, rfl⟩ : ∃ v0 v1 v2, cs' = [v0, v1, v2] := by
        match cs', hlen with
        | [v0, v1, v2], _ => exact ⟨v0, v1, v2, rfl⟩
      simp only [show Try.prog.cellsOf 3 = 1 by kernel_rfl, show Try.prog.cellsOf 29 = 1 by kernel_rfl, show Try.prog.cellsOf 5 = 1 by kernel_rfl, List.drop_zero, List.drop_succ_cons, List.take_succ_cons, List.take_zero] at g0 g1 g2
      obtain ⟨n0, e0, -, w0⟩ := DataW.trod_int Try.underlying3 g0
      obtain ⟨n1, e1, -, w1⟩ := DataW.trod_int Try.underlying29 g1
      obtain ⟨n2, e2, -, w2⟩ := DataW.trod_int Try.underlying5 g2
      have f0 := hcell 0 (by omega)
      have f1 := hcell 1 (by omega)
      have f2 := hcell 2 (by omega)
      injection e0 with e0
      injection e1 with e1
      injection e2 with e2
      obtain ⟨n1, rfl, hn1⟩ := nat32 w1
      obtain ⟨n2, rfl, hn2⟩ := nat8 w2
      subst e0 e1 e2
      rw [Go.WideShapes.add_plain, Go.WideShapes.add_plain] at f0 f1 f2
      exact ⟨⟨n0, n1, n2⟩, World.block_lt_of_cell? w ⟨b, off + k * 3 + 0, none⟩ f0, by simpa using f0, by simpa using f1, by simpa using f2, hn1, hn2⟩
    obtain ⟨q, hq⟩ := Deep.choose_lt each
    exact ⟨q, .inr ⟨b, off, rfl, (hq 0 (by omega)).1, fun k hk => (hq k hk).2⟩, by unfold maxLen at *; omega⟩
end Go.Proofs.Ythhahhmdpjchkaa
