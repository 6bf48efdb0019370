/-
  A script and a harm that came in.
-/
import Derived.Test.YtacnmnodbmbplaaOpen
namespace Go.Proofs.Ytacnmnodbmbplaa
open Go.RowKit Go.ChangeShapes Go.WideShapes Go.ChangeAt Go.Joins Go.Deep
set_option linter.unusedVariables false
set_option maxRecDepth 100000

/-- One call of a script. -/
structure Pt where
  what : Int
  n : Int
  a : Option Addr
  len : Nat
  cap : Nat
  f : Nat → Nat
instance : Inhabited Pt := ⟨⟨0, 0, none, 0, 0, fun _ => 0⟩⟩
/-- Call o lies at the three cells from offset q of block b on. -/
structure PutAt (w : World) (b q : Nat) (o : Pt) : Prop where
  c0 : w.cell? ⟨b, q, none⟩ = some (.int .i64 o.what)
  c1 : w.cell? ⟨b, q + 1, none⟩ = some (.int .i64 o.n)
  c2 : w.cell? ⟨b, q + 2, none⟩ = some (.slice o.a o.len o.cap)
  row : Row w o.a o.len o.f
  len : o.len ≤ 140737488351232
  n : -9223372036854775808 ≤ o.n ∧ o.n ≤ 9223372036854775807
def PutsLie (w : World) (a : Option Addr) (len : Nat) (f : Nat → Pt) : Prop :=
  len = 0 ∨ ∃ b o, a = some ⟨b, o, none⟩ ∧ b < w.heap.size ∧ ∀ k, k < len → PutAt w b (o + k * 3) (f k)
theorem PutAt.below {w w' : World} {b q : Nat} {o : Pt} (h : PutAt w b q o) (hb : Below w.heap.size w w') : PutAt w' b q o :=
  have hl := World.block_lt_of_cell? w ⟨b, q, none⟩ h.c0
  ⟨(hb.cell hl).trans h.c0, (hb.cell (p := ⟨b, q + 1, none⟩) hl).trans h.c1, (hb.cell (p := ⟨b, q + 2, none⟩) hl).trans h.c2, h.row.below hb, h.len, h.n⟩
theorem PutsLie.below {w w' : World} {a : Option Addr} {len : Nat} {f : Nat → Pt} (h : PutsLie w a len f) (hb : Below w.heap.size w w') : PutsLie w' a len f :=
  h.imp id fun ⟨b, o, h1, h2, h3⟩ => ⟨b, o, h1, Nat.lt_of_lt_of_le h2 hb.size, fun k hk => (h3 k hk).below hb⟩
theorem trod_struct3 {H : Type} {enc : TypeId × Value → H} {P : Program} {w : World} {base : Nat} {spare : Nat → Bool} {held : Bool} {t : TypeId} {f0 f1 f2 : Field} {fuel : Nat} {cs : List Value} {x : DataW H × List MemPlace}
    (ht : P.underlying t = some (.struct #[f0, f1, f2])) (h : DataW.trod enc P w base spare held fuel t cs = some x) :
    ∃ y0 y1 y2 n, x.1 = .agg [y0.1, y1.1, y2.1] ∧ DataW.trod enc P w base spare held n f0.type ((cs.drop f0.offset).take (P.cellsOf f0.type)) = some y0 ∧
      DataW.trod enc P w base spare held n f1.type ((cs.drop f1.offset).take (P.cellsOf f1.type)) = some y1 ∧ DataW.trod enc P w base spare held n f2.type ((cs.drop f2.offset).take (P.cellsOf f2.type)) = some y2 := by
  obtain ⟨xs, n, _, rfl, hl, hlen, hf⟩ := DataW.trod_struct ht h
  match xs, hlen with
  | [y0, y1, y2], _ => exact ⟨y0, y1, y2, n, by simp, by simpa using hf 0 f0 rfl, by simpa using hf 1 f1 rfl, by simpa using hf 2 f2 rfl⟩
theorem seen_puts {H : Type} {enc : TypeId × Value → H} {w : World} {base : Nat} {held : Bool} {fuel : Nat} {a : Option Addr} {len cap : Nat} {d : DataW H} {p : List MemPlace}
    {ts : List TypeId} {ds : List (DataW H)} (j : Nat) (h : DataW.trod enc Try.prog w base (fun _ => true) held fuel 22 (Value.slice a len cap).cells.toList = some (d, p))
    (hsz : (DataW.weightsEach Try.prog ts ds).all (· ≤ reachBytes) = true) (hj : ts[j]? = some 22) (hd : ds[j]? = some d) : ∃ f : Nat → Pt, PutsLie w a len f ∧ len ≤ maxLen := by
  rcases Deep.open_slice Try.underlying22 h with ⟨hcs, _⟩ | ⟨ad, l, c, m, n, D, Pl, hcs, hb, hl, hm, hmm, hx, hel⟩
  · simp [Value.cells] at hcs
    obtain ⟨rfl, rfl, rfl⟩ := hcs
    exact ⟨fun _ => default, .inl rfl, Nat.zero_le _⟩
  · simp [Value.cells] at hcs
    obtain ⟨rfl, rfl, rfl⟩ := hcs
    simp only [if_true] at hmm
    subst hmm
    simp only [Prod.mk.injEq] at hx
    obtain ⟨hxd, _⟩ := hx
    subst hxd
    have hw : ∀ k, k < len → ∀ x ∈ (D k).weights Try.prog 32, x ≤ reachBytes := by
      intro k hk x hxm
      have h1 := DataW.weights_mem_each (P := Try.prog) hj hd x (by
        simp only [DataW.weights, Try.underlying22]
        refine List.mem_cons_of_mem _ (List.mem_append.2 (.inl ?_))
        exact mem_weightsAll (List.mem_map.2 ⟨k, List.mem_range.2 hk, rfl⟩) x hxm)
      simpa using List.all_eq_true.1 hsz x h1
    by_cases h0 : len = 0
    · exact ⟨fun _ => default, .inl h0, by omega⟩
    obtain ⟨b, off, spot⟩ := ad
    have hspot : spot = none := by
      obtain ⟨cs', h1, h2⟩ := hel 0 (by omega)
      rw [show Try.prog.cellsOf 32 = 3 by kernel_rfl] at h1
      obtain ⟨_, hlen, hcell⟩ := World.cells?_some h1
      obtain ⟨v, hv⟩ : ∃ v, cs'[0]? = some v := ⟨cs'[0]'(by omega), List.getElem?_eq_getElem (by omega)⟩
      have f0 := hcell 0 (by omega)
      rw [hv] at f0
      simpa [Addr.add] using World.cell?_spot f0
    subst hspot
    have each : ∀ k, k < len → ∃ q : Pt, b < w.heap.size ∧ PutAt w b (off + k * 3) q := by
      intro k hk
      obtain ⟨cs', h1, h2⟩ := hel k (by omega)
      rw [show Try.prog.cellsOf 32 = 3 by kernel_rfl] at h1
      obtain ⟨_, hlen, hcell⟩ := World.cells?_some h1
      obtain ⟨y0, y1, y2, n', hxy, g0, g1, g2⟩ := trod_struct3 Try.underlying32 h2
      obtain ⟨v0, v1, v2, rfl⟩ : ∃ v0 v1 v2, cs' = [v0, v1, v2] := by
        match cs', hlen with
        | [v0, v1, v2], _ => exact ⟨v0, v1, v2, rfl⟩
      simp only [show Try.prog.cellsOf 3 = 1 by kernel_rfl, show Try.prog.cellsOf 2 = 1 by kernel_rfl, show Try.prog.cellsOf 25 = 1 by kernel_rfl, List.drop_zero, List.drop_succ_cons, List.take_succ_cons, List.take_zero] at g0 g1 g2
      obtain ⟨n0, e0, -, w0⟩ := DataW.trod_int Try.underlying3 g0
      obtain ⟨n1, e1, -, w1⟩ := DataW.trod_int Try.underlying2 g1
      obtain ⟨al, ll, cl, f, rfl, hR, hl⟩ := seen_bytes g2 (fun x hx => hw k hk x (by
        have hDk : D k = DataW.agg [y0.fst, y1.fst, y2.fst] := hxy
        rw [hDk]
        simp [DataW.weights, Try.underlying32, DataW.weightsEach, hx]))
      have f0 := hcell 0 (by omega)
      have f1 := hcell 1 (by omega)
      have f2 := hcell 2 (by omega)
      injection e0 with e0
      injection e1 with e1
      subst e0 e1
      rw [Go.WideShapes.add_plain, Go.WideShapes.add_plain] at f0 f1 f2
      refine ⟨⟨n0, n1, al, ll, cl, f⟩, World.block_lt_of_cell? w ⟨b, off + k * 3 + 0, none⟩ f0, ?_⟩
      exact ⟨by simpa using f0, by simpa using f1, by simpa using f2, hR, hl, wf64 w1⟩
    obtain ⟨q, hq⟩ := Deep.choose_lt each
    exact ⟨q, .inr ⟨b, off, rfl, (hq 0 (by omega)).1, fun k hk => (hq k hk).2⟩, by omega⟩
/-- A harm, as a value. -/
def harmV (at_ by_ less : Int) (a : Option Addr) (len cap : Nat) : Value := .agg #[.int .i64 at_, .int .u8 by_, .int .i64 less, .slice a len cap]
theorem open_harm {H : Type} {enc : TypeId × Value → H} {w : World} {r : Reach} {b0 base : Nat} {held : Bool} {v : Value} {d : DataW H} {p : List MemPlace} (hv : Value.okWide Try.prog w r b0 62 v) (h : DataW.Trod enc Try.prog w base (fun _ => true) held 62 v d p)
    (hsz : ∀ x ∈ d.weights Try.prog 62, x ≤ reachBytes) : ∃ (at_ less : Int) (by_ : Nat) (a : Option Addr) (len cap : Nat) (f : Nat → Nat), v = harmV at_ by_ less a len cap ∧ by_ < 256 ∧ (-9223372036854775808 ≤ at_ ∧ at_ ≤ 9223372036854775807) ∧ (-9223372036854775808 ≤ less ∧ less ≤ 9223372036854775807) ∧ Row w a len f ∧ len ≤ 140737488351232 := by
  obtain ⟨v0, v1, v2, v3, y0, y1, y2, y3, n, rfl, rfl, -, h0, h1, h2, h3⟩ := open_agg4 Try.underlying62 (by kernel_rfl) (by kernel_rfl) hv h
  obtain ⟨x0, e0, -, w0⟩ := DataW.trod_int Try.underlying3 h0
  obtain ⟨x1, e1, -, w1⟩ := DataW.trod_int Try.underlying5 h1
  obtain ⟨x2, e2, -, w2⟩ := DataW.trod_int Try.underlying3 h2
  injection e0 with e0
  injection e1 with e1
  injection e2 with e2
  subst e0 e1 e2
  obtain ⟨y, rfl, hy⟩ := nat8 w1
  obtain ⟨a, len, cap, f, rfl, hR, hl⟩ := seen_bytes h3 (fun x hx => hsz x (by simp [DataW.weights, Try.underlying62, DataW.weightsEach, hx]))
  exact ⟨x0, x2, y, a, len, cap, f, rfl, hy, wf64 w0, wf64 w2, hR, hl⟩
end Go.Proofs.Ytacnmnodbmbplaa
