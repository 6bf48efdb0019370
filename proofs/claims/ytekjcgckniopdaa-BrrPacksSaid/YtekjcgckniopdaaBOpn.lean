/-
  What comes in: numbers, bytes, what is done.
-/
import Derived.Test.YtekjcgckniopdaaBDecs
import Derived.ProofKit
import Derived.OpenShut
import Derived.SizedLaws
import Derived.Deep.Slices
import Derived.Deep.Fields
import Derived.ChangeSame
import Derived.Lib.SmallJoins
namespace Go.Proofs.Ytekjcgckniopdaa
open Go.RowKit Go.ChangeShapes Go.WideShapes Go.ChangeAt Go.Joins Go.Deep
set_option linter.unusedVariables false
set_option maxRecDepth 100000

theorem nat8 {x : Int} (h : (Lit.int .u8 x).wf = true) : ∃ n : Nat, x = n ∧ n < 256 := by
  have h : 0 ≤ x ∧ x ≤ 255 := by simpa [Lit.wf, IntKind.min, IntKind.max, IntKind.signed, IntKind.bits] using h
  exact ⟨x.toNat, by omega, by omega⟩
theorem nat16 {x : Int} (h : (Lit.int .u16 x).wf = true) : ∃ n : Nat, x = n ∧ n < 65536 := by
  have h : 0 ≤ x ∧ x ≤ 65535 := by simpa [Lit.wf, IntKind.min, IntKind.max, IntKind.signed, IntKind.bits] using h
  exact ⟨x.toNat, by omega, by omega⟩
theorem nat32 {x : Int} (h : (Lit.int .u32 x).wf = true) : ∃ n : Nat, x = n ∧ n < 4294967296 := by
  have h : 0 ≤ x ∧ x ≤ 4294967295 := by simpa [Lit.wf, IntKind.min, IntKind.max, IntKind.signed, IntKind.bits] using h
  exact ⟨x.toNat, by omega, by omega⟩
theorem wf64 {x : Int} (h : (Lit.int .i64 x).wf = true) : -9223372036854775808 ≤ x ∧ x ≤ 9223372036854775807 := by
  simpa [Lit.wf, IntKind.min, IntKind.max, IntKind.signed, IntKind.bits] using h
/-- The values of integers. -/
def vals (k : IntKind) (zs : List Int) : List Value := zs.map (Value.int k)
/-- What is met where a slice of integers leads: the numbers zs, one behind the other (nothing is said if there are none). -/
def Lies (k : IntKind) (w : World) (a : Option Addr) (zs : List Int) : Prop :=
  zs = [] ∨ ∃ b o, a = some ⟨b, o, none⟩ ∧ b < w.heap.size ∧ ∀ i, i < zs.length → w.cell? ⟨b, o + i, none⟩ = some (.int k (zs[i]?.getD 0))
/-- The slice at a, of len elements: the numbers zs; so many bytes each; each fits. -/
def Seen (k : IntKind) (bytes : Nat) (w : World) (a : Option Addr) (len : Nat) (zs : List Int) : Prop :=
  zs.length = len ∧ Lies k w a zs ∧ zs.length * bytes ≤ 140737488351232 ∧ ∀ n ∈ zs, (Lit.int k n).wf = true
theorem seen_ints {H : Type} {enc : TypeId × Value → H} {P : Program} {w : World} {base : Nat} {held : Bool} {t e : TypeId} {k : IntKind} {bytes fuel : Nat} {a : Option Addr} {len cap : Nat} {d : DataW H} {p : List MemPlace}
    {ts : List TypeId} {ds : List (DataW H)} (j : Nat) (ht : P.underlying t = some (.slice e)) (he : P.underlying e = some (.int k)) (hc : P.cellsOf e = 1) (hb : P.bytesOf e = bytes)
    (h : DataW.trod enc P w base (fun _ => true) held fuel t (Value.slice a len cap).cells.toList = some (d, p)) (hsz : (DataW.weightsEach P ts ds).all (· ≤ reachBytes) = true) (hj : ts[j]? = some t) (hd : ds[j]? = some d) :
    ∃ zs, Seen k bytes w a len zs := by
  rcases open_ints ht he hc h with ⟨hcs, _⟩ | ⟨x, l, c, zs, hcs, _, hl, hm, hz, hx, hcell, hwz⟩
  · simp [Value.cells] at hcs
    obtain ⟨rfl, rfl, rfl⟩ := hcs
    exact ⟨[], rfl, .inl rfl, by simp, by simp⟩
  · simp [Value.cells] at hcs
    obtain ⟨rfl, rfl, rfl⟩ := hcs
    simp only [if_true] at hz
    simp only [Prod.mk.injEq] at hx
    obtain ⟨hxd, _⟩ := hx
    rw [hxd] at hd
    have hr := sized_slice hsz hj hd ht
    rw [hb] at hr
    simp only [lits, List.length_map, List.length_take, List.length_drop, reachBytes] at hr
    have hlen : (zs.take len).length = len := by simp; omega
    have hr' : len * bytes ≤ 140737488351232 := by
      refine Nat.le_trans (Nat.mul_le_mul_right bytes ?_) hr
      omega
    refine ⟨zs.take len, hlen, ?_, by rw [hlen]; exact hr', fun n hn => hwz n (List.mem_of_mem_take hn)⟩
    by_cases h0 : len = 0
    · subst h0; exact .inl (by simp)
    · obtain ⟨b, o, rfl, hcc⟩ := ints_at hcell (by omega)
      refine .inr ⟨b, o, rfl, World.block_lt_of_cell? _ _ (hcc 0 (by omega)), fun i hi => ?_⟩
      rw [hlen] at hi
      rw [hcc i (by omega)]
      simp [hi]

theorem row_of_seen {w : World} {a : Option Addr} {len : Nat} {zs : List Int} (h : Seen .u8 1 w a len zs) : Row w a len (fun i => (zs[i]?.getD 0).toNat) ∧ len ≤ 140737488355328 := by
  obtain ⟨rfl, hl, hr, hw⟩ := h
  have hb : ∀ i, i < zs.length → 0 ≤ zs[i]?.getD 0 ∧ zs[i]?.getD 0 < 256 := by
    intro i hi
    have := Go.bounds_u8 (hw _ (List.getElem_mem hi))
    rw [List.getElem?_eq_getElem hi]
    simp only [Option.getD_some]
    omega
  refine ⟨⟨fun i hi => by have := hb i hi; show (zs[i]?.getD 0).toNat < 256; omega, ?_⟩, by omega⟩
  rcases hl with rfl | ⟨b, o, rfl, hlt, hc⟩
  · exact .inl rfl
  · exact .inr ⟨b, o, rfl, hlt, fun i hi => by
      rw [hc i hi]
      have := hb i hi
      congr 2
      show _ = (((zs[i]?.getD 0).toNat : Nat) : Int)
      omega⟩
theorem mem_weightsAll {H : Type} {P : Program} {e : TypeId} : ∀ {l : List (DataW H)} {d : DataW H}, d ∈ l → ∀ n ∈ d.weights P e, n ∈ DataW.weightsAll P e l
  | [], d, h, n, hn => by cases h
  | x :: r, d, h, n, hn => by
    rw [DataW.weightsAll]
    rcases List.mem_cons.1 h with rfl | h
    · exact List.mem_append.2 (.inl hn)
    · exact List.mem_append.2 (.inr (mem_weightsAll h n hn))
/-- A slice of bytes among what came in. -/
theorem seen_bytes {H : Type} {enc : TypeId × Value → H} {w : World} {base : Nat} {held : Bool} {fuel : Nat} {v : Value} {y : DataW H × List MemPlace} (h : DataW.trod enc Try.prog w base (fun _ => true) held fuel 22 [v] = some y)
    (hsz : ∀ x ∈ y.1.weights Try.prog 22, x ≤ reachBytes) : ∃ (a : Option Addr) (len cap : Nat) (f : Nat → Nat), v = .slice a len cap ∧ Row w a len f ∧ len ≤ 140737488351232 := by
  obtain ⟨a, len, cap, rfl⟩ : ∃ a l c, v = .slice a l c := by
    rcases DataW.trod_slice Try.underlying22 h with ⟨e, _⟩ | ⟨x, l, c, _, _, _, _, e, _⟩
    · exact ⟨none, 0, 0, by injection e⟩
    · exact ⟨some x, l, c, by injection e⟩
  obtain ⟨d, p⟩ := y
  have hs : (DataW.weightsEach Try.prog [22] [d]).all (· ≤ reachBytes) = true := by
    refine List.all_eq_true.2 (fun x hx => decide_eq_true (hsz x ?_))
    simpa only [DataW.weightsEach, List.append_nil] using hx
  obtain ⟨zs, hseen⟩ := seen_ints (len := len) (cap := cap) (a := a) 0 Try.underlying22 Try.underlying5 (by kernel_rfl) (show Try.prog.bytesOf 5 = 1 by kernel_rfl) (by simpa [Value.cells] using h) hs rfl rfl
  have hl := hseen.2.2.1
  have hl1 := hseen.1
  exact ⟨a, len, cap, _, rfl, (row_of_seen hseen).1, by omega⟩
theorem seen_bytes2 {H : Type} {enc : TypeId × Value → H} {w : World} {base : Nat} {held : Bool} {fuel : Nat} {v : Value} {y : DataW H × List MemPlace} (h : DataW.trod enc Try.prog w base (fun _ => true) held fuel 22 [v] = some y)
    (hsz : ∀ x ∈ y.1.weights Try.prog 22, x ≤ reachBytes) : ∃ (a : Option Addr) (len cap : Nat) (f : Nat → Nat), v = .slice a len cap ∧ Row w a len f ∧ len ≤ 140737488351232 ∧ len ≤ cap := by
  obtain ⟨a, len, cap, f, rfl, hR, hl⟩ := seen_bytes h hsz
  refine ⟨a, len, cap, f, rfl, hR, hl, ?_⟩
  rcases DataW.trod_slice Try.underlying22 h with ⟨e, _⟩ | ⟨x, l, c, _, _, _, _, e, _, _, hle, _⟩
  · injection e with e; injection e with e1 e2 e3; omega
  · injection e with e; injection e with e1 e2 e3; omega
theorem slice_cap {H : Type} {enc : TypeId × Value → H} {P : Program} {t e : TypeId} {w : World} {base : Nat} {held : Bool} {fuel : Nat} {a : Option Addr} {n c : Nat} {y : DataW H × List MemPlace} (ht : P.underlying t = some (.slice e)) (h : DataW.trod enc P w base (fun _ => true) held fuel t [.slice a n c] = some y) : n ≤ c := by
  rcases DataW.trod_slice ht h with ⟨e, _⟩ | ⟨x, l, c, _, _, _, _, e, _, _, hle, _⟩
  · injection e with e; injection e with e1 e2 e3; omega
  · injection e with e; injection e with e1 e2 e3; omega
theorem smp16 {x : Int} (h : (Lit.int .i16 x).wf = true) : Smp x := by
  have h : -32768 ≤ x ∧ x ≤ 32767 := by simpa [Lit.wf, IntKind.min, IntKind.max, IntKind.signed, IntKind.bits] using h
  exact h
theorem irow_of_seen {w : World} {a : Option Addr} {len : Nat} {zs : List Int} (h : Seen .i16 2 w a len zs) : IRow w a len (fun i => zs[i]?.getD 0) ∧ (∀ i : Nat, Smp (zs[i]?.getD 0)) ∧ len * 2 ≤ 140737488351232 := by
  obtain ⟨rfl, hl, hr, hw⟩ := h
  refine ⟨hl.imp (fun h => by rw [h]; rfl) id, fun i => ?_, hr⟩
  by_cases hi : i < zs.length
  · rw [List.getElem?_eq_getElem hi]
    exact smp16 (hw _ (List.getElem_mem hi))
  · rw [List.getElem?_eq_none (by omega)]
    exact ⟨by decide, by decide⟩
section
variable {H : Type} {enc : TypeId × Value → H} {w : World} {base : Nat} {spare : Nat → Bool} {held : Bool} {r : Reach} {b0 : Nat} {v : Value} {d : DataW H} {p : List MemPlace}
theorem open_back (hv : Value.okWide Try.prog w r b0 25 v) (h : DataW.Trod enc Try.prog w base spare held 25 v d p) : ∃ a b : Int, v = .agg #[.int .i16 a, .int .i16 b] ∧ Smp a ∧ Smp b := by
  obtain ⟨v0, v1, y0, y1, n, rfl, rfl, -, h0, h1⟩ := open_agg2 Try.underlying25 (by kernel_rfl) (by kernel_rfl) hv h
  obtain ⟨x0, e0, -, w0⟩ := DataW.trod_int Try.underlying23 h0
  obtain ⟨x1, e1, -, w1⟩ := DataW.trod_int Try.underlying23 h1
  injection e0 with e0
  injection e1 with e1
  subst e0 e1
  exact ⟨x0, x1, rfl, smp16 w0, smp16 w1⟩
end
section
variable {H : Type} {enc : TypeId × Value → H} {w : World} {base : Nat} {held : Bool} {r : Reach} {b0 : Nat} {v : Value} {d : DataW H} {p : List MemPlace}
theorem open_nibs (hv : Value.okWide Try.prog w r b0 47 v) (h : DataW.Trod enc Try.prog w base (fun _ => true) held 47 v d p)
    (hsz : ∀ x ∈ d.weights Try.prog 47, x ≤ reachBytes) :
    ∃ (sh : Nat) (a : Option Addr) (n c : Nat) (g : Nat → Nat), v = .agg #[.int .u8 (sh : Nat), .slice a n c] ∧ sh < 256 ∧ Row w a n g ∧ n ≤ 140737488351232 ∧ n ≤ c := by
  obtain ⟨v0, v1, y0, y1, n, rfl, rfl, -, h0, h1⟩ := open_agg2 Try.underlying47 (by kernel_rfl) (by kernel_rfl) hv h
  obtain ⟨x0, e0, -, w0⟩ := DataW.trod_int Try.underlying5 h0
  obtain ⟨x0, rfl, l0⟩ := nat8 w0
  injection e0 with e0
  subst e0
  obtain ⟨a, len, cap, f, rfl, hR, h1, h2⟩ := seen_bytes2 h1 (fun x hx => by
    apply hsz
    simp only [DataW.weights, Try.underlying47]
    simp [DataW.weightsEach, hx])
  exact ⟨x0, a, len, cap, f, rfl, l0, hR, h1, h2⟩
end
end Go.Proofs.Ytekjcgckniopdaa
