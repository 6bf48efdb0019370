/-
  A script that came in: what is met at each of its calls.
-/
import Derived.Test.YtijcfpdcijpenaaSeen
import Derived.Deep.Slices
import Derived.ChangeSame
namespace Go.Proofs.Ytijcfpdcijpenaa
open Go.RowKit Go.ChangeShapes Go.WideShapes Go.ChangeAt
set_option linter.unusedVariables false
set_option maxRecDepth 100000
/-- One call of a script: which, for which thread, how many ticks, which times. -/
structure Op1 where
  what : Int
  i : Int
  n : Int
  a : Option Addr
  cap : Nat
  zs : List Int
instance : Inhabited Op1 := ⟨⟨0, 0, 0, none, 0, []⟩⟩
/-- Call o lies at the four cells from offset q of block b on. -/
structure OpAt (w : World) (b q : Nat) (o : Op1) : Prop where
  c0 : w.cell? ⟨b, q, none⟩ = some (.int .i64 o.what)
  c1 : w.cell? ⟨b, q + 1, none⟩ = some (.int .i64 o.i)
  c2 : w.cell? ⟨b, q + 2, none⟩ = some (.int .i64 o.n)
  c3 : w.cell? ⟨b, q + 3, none⟩ = some (.slice o.a o.zs.length o.cap)
  lies : Lies .i64 w o.a o.zs
  reach : o.zs.length * 8 ≤ 140737488351232
  wi : (Lit.int .i64 o.i).wf = true
  wn : (Lit.int .i64 o.n).wf = true
def OpsLie (w : World) (a : Option Addr) (len : Nat) (f : Nat → Op1) : Prop :=
  len = 0 ∨ ∃ b o, a = some ⟨b, o, none⟩ ∧ b < w.heap.size ∧ ∀ k, k < len → OpAt w b (o + k * 4) (f k)
theorem mem_weightsAll {H : Type} {P : Program} {e : TypeId} : ∀ {l : List (DataW H)} {d : DataW H}, d ∈ l → ∀ n ∈ d.weights P e, n ∈ DataW.weightsAll P e l
  | [], d, h, n, hn => by cases h
  | x :: r, d, h, n, hn => by
    rw [DataW.weightsAll]
    rcases List.mem_cons.1 h with rfl | h
    · exact List.mem_append.2 (.inl hn)
    · exact List.mem_append.2 (.inr (mem_weightsAll h n hn))
theorem trod_struct4 {H : Type} {enc : TypeId × Value → H} {P : Program} {w : World} {base : Nat} {spare : Nat → Bool} {held : Bool} {t : TypeId} {f0 f1 f2 f3 : Field} {fuel : Nat} {cs : List Value} {x : DataW H × List MemPlace}
    (ht : P.underlying t = some (.struct #[f0, f1, f2, f3])) (h : DataW.trod enc P w base spare held fuel t cs = some x) :
    ∃ y0 y1 y2 y3 n, x.1 = .agg [y0.1, y1.1, y2.1, y3.1] ∧ DataW.trod enc P w base spare held n f0.type ((cs.drop f0.offset).take (P.cellsOf f0.type)) = some y0 ∧
      DataW.trod enc P w base spare held n f1.type ((cs.drop f1.offset).take (P.cellsOf f1.type)) = some y1 ∧ DataW.trod enc P w base spare held n f2.type ((cs.drop f2.offset).take (P.cellsOf f2.type)) = some y2 ∧
      DataW.trod enc P w base spare held n f3.type ((cs.drop f3.offset).take (P.cellsOf f3.type)) = some y3 := by
  obtain ⟨xs, n, _, rfl, hl, hlen, hf⟩ := DataW.trod_struct ht h
  match xs, hlen with
  | [y0, y1, y2, y3], _ => exact ⟨y0, y1, y2, y3, n, by simp, by simpa using hf 0 f0 rfl, by simpa using hf 1 f1 rfl, by simpa using hf 2 f2 rfl, by simpa using hf 3 f3 rfl⟩
theorem seen_ops {H : Type} {enc : TypeId × Value → H} {w : World} {base : Nat} {held : Bool} {fuel : Nat} {a : Option Addr} {len cap : Nat} {d : DataW H} {p : List MemPlace}
    {ts : List TypeId} {ds : List (DataW H)} (j : Nat) (h : DataW.trod enc Try.prog w base (fun _ => true) held fuel 23 (Value.slice a len cap).cells.toList = some (d, p))
    (hsz : (DataW.weightsEach Try.prog ts ds).all (· ≤ reachBytes) = true) (hj : ts[j]? = some 23) (hd : ds[j]? = some d) : ∃ f : Nat → Op1, OpsLie w a len f ∧ len ≤ maxLen := by
  rcases Deep.open_slice Try.underlying23 h with ⟨hcs, _⟩ | ⟨ad, l, c, m, n, D, Pl, hcs, hb, hl, hm, hmm, hx, hel⟩
  · simp [Value.cells] at hcs
    obtain ⟨rfl, rfl, rfl⟩ := hcs
    exact ⟨fun _ => default, .inl rfl, Nat.zero_le _⟩
  · simp [Value.cells] at hcs
    obtain ⟨rfl, rfl, rfl⟩ := hcs
    simp only [if_true] at hmm
    subst hmm
    simp only [Prod.mk.injEq] at hx
    obtain ⟨hxd, _⟩ := hx
    subst hxd
    have hw : ∀ k, k < len → ∀ x ∈ (D k).weights Try.prog 35, x ≤ reachBytes := by
      intro k hk x hxm
      have h1 := DataW.weights_mem_each (P := Try.prog) hj hd x (by
        simp only [DataW.weights, Try.underlying23]
        refine List.mem_cons_of_mem _ (List.mem_append.2 (.inl ?_))
        exact mem_weightsAll (List.mem_map.2 ⟨k, List.mem_range.2 hk, rfl⟩) x hxm)
      simpa using List.all_eq_true.1 hsz x h1
    by_cases h0 : len = 0
    · exact ⟨fun _ => default, .inl h0, by omega⟩
    obtain ⟨b, off, spot⟩ := ad
    have hspot : spot = none := by
      obtain ⟨cs', h1, h2⟩ := hel 0 (by omega)
      rw [show Try.prog.cellsOf 35 = 4 by kernel_rfl] at h1
      obtain ⟨_, hlen, hcell⟩ := World.cells?_some h1
      obtain ⟨v, hv⟩ : ∃ v, cs'[0]? = some v := ⟨cs'[0]'(by omega), List.getElem?_eq_getElem (by omega)⟩
      have f0 := hcell 0 (by omega)
      rw [hv] at f0
      simpa [Addr.add] using World.cell?_spot f0
    subst hspot
    have each : ∀ k, k < len → ∃ q : Op1, b < w.heap.size ∧ OpAt w b (off + k * 4) q := by
      intro k hk
      obtain ⟨cs', h1, h2⟩ := hel k (by omega)
      rw [show Try.prog.cellsOf 35 = 4 by kernel_rfl] at h1
      obtain ⟨_, hlen, hcell⟩ := World.cells?_some h1
      obtain ⟨y0, y1, y2, y3, n', hxy, g0, g1, g2, g3⟩ := trod_struct4 Try.underlying35 h2
      obtain ⟨v0, v1, v2, v3, rfl⟩ : ∃ v0 v1 v2 v3, cs' = [v0, v1, v2, v3] := by
        match cs', hlen with
        | [v0, v1, v2, v3], _ => exact ⟨v0, v1, v2, v3, rfl⟩
      simp only [show Try.prog.cellsOf 3 = 1 by kernel_rfl, show Try.prog.cellsOf 22 = 1 by kernel_rfl, List.drop_zero, List.drop_succ_cons, List.take_succ_cons, List.take_zero] at g0 g1 g2 g3
      obtain ⟨n0, e0, -, w0⟩ := DataW.trod_int Try.underlying3 g0
      obtain ⟨n1, e1, -, w1⟩ := DataW.trod_int Try.underlying3 g1
      obtain ⟨n2, e2, -, w2⟩ := DataW.trod_int Try.underlying3 g2
      obtain ⟨al, ll, cl, rfl⟩ : ∃ al ll cl, v3 = .slice al ll cl := by
        rcases DataW.trod_slice Try.underlying22 g3 with ⟨e, _⟩ | ⟨x, l, c, _, _, _, _, e, _⟩
        · exact ⟨none, 0, 0, by injection e⟩
        · exact ⟨some x, l, c, by injection e⟩
      obtain ⟨d3, p3⟩ := y3
      have hs3 : (DataW.weightsEach Try.prog [22] [d3]).all (· ≤ reachBytes) = true := by
        refine List.all_eq_true.2 (fun x hx => decide_eq_true (hw k hk x ?_))
        simp only [DataW.weightsEach, List.append_nil] at hx
        have hDk : D k = DataW.agg [y0.fst, y1.fst, y2.fst, d3] := hxy
        rw [hDk]
        simp [DataW.weights, Try.underlying35, DataW.weightsEach, hx]
      obtain ⟨zs, q1, q2, q3, _⟩ := seen_ints (len := ll) (cap := cl) (a := al) 0 Try.underlying22 Try.underlying2 (by kernel_rfl) (by kernel_rfl) (by simpa [Value.cells] using g3) hs3 rfl rfl
      subst q1
      have f0 := hcell 0 (by omega)
      have f1 := hcell 1 (by omega)
      have f2 := hcell 2 (by omega)
      have f3 := hcell 3 (by omega)
      injection e0 with e0
      injection e1 with e1
      injection e2 with e2
      subst e0 e1 e2
      rw [Go.WideShapes.add_plain, Go.WideShapes.add_plain] at f0 f1 f2 f3
      refine ⟨⟨n0, n1, n2, al, cl, zs⟩, World.block_lt_of_cell? w ⟨b, off + k * 4 + 0, none⟩ f0, ?_⟩
      exact ⟨by simpa using f0, by simpa using f1, by simpa using f2, by simpa using f3, q2, q3, w1, w2⟩
    obtain ⟨q, hq⟩ := Deep.choose_lt each
    exact ⟨q, .inr ⟨b, off, rfl, (hq 0 (by omega)).1, fun k hk => (hq k hk).2⟩, by omega⟩
end Go.Proofs.Ytijcfpdcijpenaa
