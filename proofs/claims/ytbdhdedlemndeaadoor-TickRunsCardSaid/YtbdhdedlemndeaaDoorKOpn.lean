/-
  What comes in: numbers, bytes, what is done.
-/
import Derived.Test.YtbdhdedlemndeaaDoorKMem
import Derived.Lib.LaidTab
import Derived.LaidMore
import Derived.ProofKit
import Derived.OpenShut
import Derived.SizedLaws
import Derived.Deep.Slices
import Derived.Deep.Fields
import Derived.ChangeSame
import Derived.Lib.SmallJoins
namespace Go.Proofs.YtbdhdedlemndeaaDoor
open Go.RowKit Go.ChangeShapes Go.WideShapes Go.ChangeAt Go.Joins Go.Deep
set_option linter.unusedVariables false
set_option maxRecDepth 100000

theorem nat8 {x : Int} (h : (Lit.int .u8 x).wf = true) : ∃ n : Nat, x = n ∧ n < 256 := by
  have h : 0 ≤ x ∧ x ≤ 255 := by simpa [Lit.wf, IntKind.min, IntKind.max, IntKind.signed, IntKind.bits] using h
  exact ⟨x.toNat, by omega, by omega⟩
theorem nat16 {x : Int} (h : (Lit.int .u16 x).wf = true) : ∃ n : Nat, x = n ∧ n < 65536 := by
  have h : 0 ≤ x ∧ x ≤ 65535 := by simpa [Lit.wf, IntKind.min, IntKind.max, IntKind.signed, IntKind.bits] using h
  exact ⟨x.toNat, by omega, by omega⟩
theorem nat32 {x : Int} (h : (Lit.int .u32 x).wf = true) : ∃ n : Nat, x = n ∧ n < 4294967296 := by
  have h : 0 ≤ x ∧ x ≤ 4294967295 := by simpa [Lit.wf, IntKind.min, IntKind.max, IntKind.signed, IntKind.bits] using h
  exact ⟨x.toNat, by omega, by omega⟩
theorem wf64 {x : Int} (h : (Lit.int .i64 x).wf = true) : -9223372036854775808 ≤ x ∧ x ≤ 9223372036854775807 := by
  simpa [Lit.wf, IntKind.min, IntKind.max, IntKind.signed, IntKind.bits] using h
/-- The values of integers. -/
def vals (k : IntKind) (zs : List Int) : List Value := zs.map (Value.int k)
/-- What is met where a slice of integers leads: the numbers zs, one behind the other (nothing is said if there are none). -/
def Lies (k : IntKind) (w : World) (a : Option Addr) (zs : List Int) : Prop :=
  zs = [] ∨ ∃ b o, a = some ⟨b, o, none⟩ ∧ b < w.heap.size ∧ ∀ i, i < zs.length → w.cell? ⟨b, o + i, none⟩ = some (.int k (zs[i]?.getD 0))
/-- The slice at a, of len elements: the numbers zs; so many bytes each; each fits. -/
def Seen (k : IntKind) (bytes : Nat) (w : World) (a : Option Addr) (len : Nat) (zs : List Int) : Prop :=
  zs.length = len ∧ Lies k w a zs ∧ zs.length * bytes ≤ 140737488351232 ∧ ∀ n ∈ zs, (Lit.int k n).wf = true
theorem seen_ints {H : Type} {enc : TypeId × Value → H} {P : Program} {w : World} {base : Nat} {held : Bool} {t e : TypeId} {k : IntKind} {bytes fuel : Nat} {a : Option Addr} {len cap : Nat} {d : DataW H} {p : List MemPlace}
    {ts : List TypeId} {ds : List (DataW H)} (j : Nat) (ht : P.underlying t = some (.slice e)) (he : P.underlying e = some (.int k)) (hc : P.cellsOf e = 1) (hb : P.bytesOf e = bytes)
    (h : DataW.trod enc P w base (fun _ => true) held fuel t (Value.slice a len cap).cells.toList = some (d, p)) (hsz : (DataW.weightsEach P ts ds).all (· ≤ reachBytes) = true) (hj : ts[j]? = some t) (hd : ds[j]? = some d) :
    ∃ zs, Seen k bytes w a len zs := by
  rcases open_ints ht he hc h with ⟨hcs, _⟩ | ⟨x, l, c, zs, hcs, _, hl, hm, hz, hx, hcell, hwz⟩
  · simp [Value.cells] at hcs
    obtain ⟨rfl, rfl, rfl⟩ := hcs
    exact ⟨[], rfl, .inl rfl, by simp, by simp⟩
  · simp [Value.cells] at hcs
    obtain ⟨rfl, rfl, rfl⟩ := hcs
    simp only [if_true] at hz
    simp only [Prod.mk.injEq] at hx
    obtain ⟨hxd, _⟩ := hx
    rw [hxd] at hd
    have hr := sized_slice hsz hj hd ht
    rw [hb] at hr
    simp only [lits, List.length_map, List.length_take, List.length_drop, reachBytes] at hr
    have hlen : (zs.take len).length = len := by simp; omega
    have hr' : len * bytes ≤ 140737488351232 := by
      refine Nat.le_trans (Nat.mul_le_mul_right bytes ?_) hr
      omega
    refine ⟨zs.take len, hlen, ?_, by rw [hlen]; exact hr', fun n hn => hwz n (List.mem_of_mem_take hn)⟩
    by_cases h0 : len = 0
    · subst h0; exact .inl (by simp)
    · obtain ⟨b, o, rfl, hcc⟩ := ints_at hcell (by omega)
      refine .inr ⟨b, o, rfl, World.block_lt_of_cell? _ _ (hcc 0 (by omega)), fun i hi => ?_⟩
      rw [hlen] at hi
      rw [hcc i (by omega)]
      simp [hi]

theorem row_of_seen {w : World} {a : Option Addr} {len : Nat} {zs : List Int} (h : Seen .u8 1 w a len zs) : Row w a len (fun i => (zs[i]?.getD 0).toNat) ∧ len ≤ 140737488355328 := by
  obtain ⟨rfl, hl, hr, hw⟩ := h
  have hb : ∀ i, i < zs.length → 0 ≤ zs[i]?.getD 0 ∧ zs[i]?.getD 0 < 256 := by
    intro i hi
    have := Go.bounds_u8 (hw _ (List.getElem_mem hi))
    rw [List.getElem?_eq_getElem hi]
    simp only [Option.getD_some]
    omega
  refine ⟨⟨fun i hi => by have := hb i hi; show (zs[i]?.getD 0).toNat < 256; omega, ?_⟩, by omega⟩
  rcases hl with rfl | ⟨b, o, rfl, hlt, hc⟩
  · exact .inl rfl
  · exact .inr ⟨b, o, rfl, hlt, fun i hi => by
      rw [hc i hi]
      have := hb i hi
      congr 2
      show _ = (((zs[i]?.getD 0).toNat : Nat) : Int)
      omega⟩
theorem mem_weightsAll {H : Type} {P : Program} {e : TypeId} : ∀ {l : List (DataW H)} {d : DataW H}, d ∈ l → ∀ n ∈ d.weights P e, n ∈ DataW.weightsAll P e l
  | [], d, h, n, hn => by cases h
  | x :: r, d, h, n, hn => by
    rw [DataW.weightsAll]
    rcases List.mem_cons.1 h with rfl | h
    · exact List.mem_append.2 (.inl hn)
    · exact List.mem_append.2 (.inr (mem_weightsAll h n hn))
/-- A slice of bytes among what came in. -/
theorem seen_bytes {H : Type} {enc : TypeId × Value → H} {w : World} {base : Nat} {held : Bool} {fuel : Nat} {v : Value} {y : DataW H × List MemPlace} (h : DataW.trod enc Tryd.prog w base (fun _ => true) held fuel 46 [v] = some y)
    (hsz : ∀ x ∈ y.1.weights Tryd.prog 46, x ≤ reachBytes) : ∃ (a : Option Addr) (len cap : Nat) (f : Nat → Nat), v = .slice a len cap ∧ Row w a len f ∧ len ≤ 140737488351232 := by
  obtain ⟨a, len, cap, rfl⟩ : ∃ a l c, v = .slice a l c := by
    rcases DataW.trod_slice Tryd.underlying46 h with ⟨e, _⟩ | ⟨x, l, c, _, _, _, _, e, _⟩
    · exact ⟨none, 0, 0, by injection e⟩
    · exact ⟨some x, l, c, by injection e⟩
  obtain ⟨d, p⟩ := y
  have hs : (DataW.weightsEach Tryd.prog [46] [d]).all (· ≤ reachBytes) = true := by
    refine List.all_eq_true.2 (fun x hx => decide_eq_true (hsz x ?_))
    simpa only [DataW.weightsEach, List.append_nil] using hx
  obtain ⟨zs, hseen⟩ := seen_ints (len := len) (cap := cap) (a := a) 0 Tryd.underlying46 Tryd.underlying5 (by kernel_rfl) (show Tryd.prog.bytesOf 5 = 1 by kernel_rfl) (by simpa [Value.cells] using h) hs rfl rfl
  have hl := hseen.2.2.1
  have hl1 := hseen.1
  exact ⟨a, len, cap, _, rfl, (row_of_seen hseen).1, by omega⟩
theorem seen_bytes2 {H : Type} {enc : TypeId × Value → H} {w : World} {base : Nat} {held : Bool} {fuel : Nat} {v : Value} {y : DataW H × List MemPlace} (h : DataW.trod enc Tryd.prog w base (fun _ => true) held fuel 46 [v] = some y)
    (hsz : ∀ x ∈ y.1.weights Tryd.prog 46, x ≤ reachBytes) : ∃ (a : Option Addr) (len cap : Nat) (f : Nat → Nat), v = .slice a len cap ∧ Row w a len f ∧ len ≤ 140737488351232 ∧ len ≤ cap := by
  obtain ⟨a, len, cap, f, rfl, hR, hl⟩ := seen_bytes h hsz
  refine ⟨a, len, cap, f, rfl, hR, hl, ?_⟩
  rcases DataW.trod_slice Tryd.underlying46 h with ⟨e, _⟩ | ⟨x, l, c, _, _, _, _, e, _, _, hle, _⟩
  · injection e with e; injection e with e1 e2 e3; omega
  · injection e with e; injection e with e1 e2 e3; omega
/-- What is done, one behind the other: which, at what place, how much. -/
def ORow (w : World) (a : Option Addr) (n : Nat) (fW fK : Nat → Int) (fV : Nat → Nat) : Prop :=
  (∀ i, i < n → (-9223372036854775808 ≤ fK i ∧ fK i ≤ 9223372036854775807) ∧ fV i < 256) ∧ (n = 0 ∨ ∃ b o, a = some ⟨b, o, none⟩ ∧ b < w.heap.size ∧
    ∀ i, i < n → w.cell? ⟨b, o + i * 3, none⟩ = some (.int .i64 (fW i)) ∧ w.cell? ⟨b, o + i * 3 + 1, none⟩ = some (.int .i64 (fK i)) ∧ w.cell? ⟨b, o + i * 3 + 2, none⟩ = some (.int .u8 (fV i : Nat)))
theorem ORow.below {w w' : World} {a : Option Addr} {n : Nat} {fW fK : Nat → Int} {fV : Nat → Nat} (h : ORow w a n fW fK fV) (hb : Below w.heap.size w w') : ORow w' a n fW fK fV := by
  rcases h with ⟨h0, h | ⟨b, o, rfl, hlt, hc⟩⟩
  · exact ⟨h0, .inl h⟩
  · exact ⟨h0, .inr ⟨b, o, rfl, Nat.lt_of_lt_of_le hlt hb.size, fun i hi => by
      obtain ⟨h1, h2, h3⟩ := hc i hi
      exact ⟨(hb.cell (p := ⟨b, o + i * 3, none⟩) hlt).trans h1, (hb.cell (p := ⟨b, o + i * 3 + 1, none⟩) hlt).trans h2, (hb.cell (p := ⟨b, o + i * 3 + 2, none⟩) hlt).trans h3⟩⟩⟩
theorem trod_struct3 {H : Type} {enc : TypeId × Value → H} {P : Program} {w : World} {base : Nat} {spare : Nat → Bool} {held : Bool} {t : TypeId} {f0 f1 f2 : Field} {fuel : Nat} {cs : List Value} {x : DataW H × List MemPlace}
    (ht : P.underlying t = some (.struct #[f0, f1, f2])) (h : DataW.trod enc P w base spare held fuel t cs = some x) :
    ∃ y0 y1 y2 n, x.1 = .agg [y0.1, y1.1, y2.1] ∧ DataW.trod enc P w base spare held n f0.type ((cs.drop f0.offset).take (P.cellsOf f0.type)) = some y0 ∧
      DataW.trod enc P w base spare held n f1.type ((cs.drop f1.offset).take (P.cellsOf f1.type)) = some y1 ∧ DataW.trod enc P w base spare held n f2.type ((cs.drop f2.offset).take (P.cellsOf f2.type)) = some y2 := by
  obtain ⟨xs, n, _, rfl, hl, hlen, hf⟩ := DataW.trod_struct ht h
  match xs, hlen with
  | [y0, y1, y2], _ => exact ⟨y0, y1, y2, n, by simp, by simpa using hf 0 f0 rfl, by simpa using hf 1 f1 rfl, by simpa using hf 2 f2 rfl⟩
theorem seen_kops {H : Type} {enc : TypeId × Value → H} {w : World} {base : Nat} {held : Bool} {fuel : Nat} {a : Option Addr} {len cap : Nat} {d : DataW H} {p : List MemPlace}
    {ts : List TypeId} {ds : List (DataW H)} (j : Nat) (h : DataW.trod enc Tryd.prog w base (fun _ => true) held fuel 22 (Value.slice a len cap).cells.toList = some (d, p))
    (hsz : (DataW.weightsEach Tryd.prog ts ds).all (· ≤ reachBytes) = true) (hj : ts[j]? = some 22) (hd : ds[j]? = some d) : ∃ fW fK fV, ORow w a len fW fK fV ∧ len ≤ 140737488355328 := by
  rcases Deep.open_slice Tryd.underlying22 h with ⟨hcs, _⟩ | ⟨ad, l, c, m, n, D, Pl, hcs, hb, hl, hm, hmm, hx, hel⟩
  · simp [Value.cells] at hcs
    obtain ⟨rfl, rfl, rfl⟩ := hcs
    exact ⟨fun _ => 0, fun _ => 0, fun _ => 0, ⟨fun i hi => absurd hi (Nat.not_lt_zero _), .inl rfl⟩, Nat.zero_le _⟩
  · simp [Value.cells] at hcs
    obtain ⟨rfl, rfl, rfl⟩ := hcs
    simp only [if_true] at hmm
    subst hmm
    have hlen : len ≤ 140737488355328 := by
      simp only [Prod.mk.injEq] at hx
      obtain ⟨hxd, _⟩ := hx
      rw [hxd] at hd
      have hr := sized_slice hsz hj hd Tryd.underlying22
      rw [show Tryd.prog.bytesOf 33 = 24 by kernel_rfl] at hr
      simp only [List.length_map, List.length_range, reachBytes] at hr
      omega
    by_cases h0 : len = 0
    · subst h0
      exact ⟨fun _ => 0, fun _ => 0, fun _ => 0, ⟨fun i hi => absurd hi (Nat.not_lt_zero _), .inl rfl⟩, Nat.zero_le _⟩
    obtain ⟨b, off, spot⟩ := ad
    have hspot : spot = none := by
      obtain ⟨cs', h1, h2⟩ := hel 0 (by omega)
      rw [show Tryd.prog.cellsOf 33 = 3 by kernel_rfl] at h1
      obtain ⟨_, hlen, hcell⟩ := World.cells?_some h1
      obtain ⟨v, hv⟩ : ∃ v, cs'[0]? = some v := ⟨cs'[0]'(by omega), List.getElem?_eq_getElem (by omega)⟩
      have f0 := hcell 0 (by omega)
      rw [hv] at f0
      simpa [Addr.add] using World.cell?_spot f0
    subst hspot
    have each : ∀ k, k < len → ∃ q : Int × Int × Nat, b < w.heap.size ∧ ((-9223372036854775808 ≤ q.2.1 ∧ q.2.1 ≤ 9223372036854775807) ∧ q.2.2 < 256) ∧ w.cell? ⟨b, off + k * 3, none⟩ = some (.int .i64 q.1) ∧ w.cell? ⟨b, off + k * 3 + 1, none⟩ = some (.int .i64 q.2.1) ∧ w.cell? ⟨b, off + k * 3 + 2, none⟩ = some (.int .u8 (q.2.2 : Nat)) := by
      intro k hk
      obtain ⟨cs', h1, h2⟩ := hel k (by omega)
      rw [show Tryd.prog.cellsOf 33 = 3 by kernel_rfl] at h1
      obtain ⟨_, hlen, hcell⟩ := World.cells?_some h1
      obtain ⟨y0, y1, y2, n', hxy, g0, g1, g2⟩ := trod_struct3 Tryd.underlying33 h2
      obtain ⟨v0, v1, v2, rfl⟩ : ∃ v0 v1 v2, cs' = [v0, v1, v2] := by
        match cs', hlen with
        | [v0, v1, v2], _ => exact ⟨v0, v1, v2, rfl⟩
      simp only [show Tryd.prog.cellsOf 3 = 1 by kernel_rfl, show Tryd.prog.cellsOf 5 = 1 by kernel_rfl, List.drop_zero, List.drop_succ_cons, List.take_succ_cons, List.take_zero] at g0 g1 g2
      obtain ⟨n0, e0, -, w0⟩ := DataW.trod_int Tryd.underlying3 g0
      obtain ⟨n1, e1, -, w1⟩ := DataW.trod_int Tryd.underlying3 g1
      obtain ⟨n2, e2, -, w2⟩ := DataW.trod_int Tryd.underlying5 g2
      obtain ⟨n2, rfl, l2⟩ := nat8 w2
      have f0 := hcell 0 (by omega)
      have f1 := hcell 1 (by omega)
      have f2 := hcell 2 (by omega)
      injection e0 with e0
      injection e1 with e1
      injection e2 with e2
      subst e0 e1 e2
      rw [Go.WideShapes.add_plain, Go.WideShapes.add_plain] at f0 f1 f2
      exact ⟨(n0, n1, n2), World.block_lt_of_cell? w ⟨b, off + k * 3 + 0, none⟩ f0, ⟨wf64 w1, l2⟩, by simpa using f0, by simpa using f1, by simpa using f2⟩
    obtain ⟨q, hq⟩ := Deep.choose_lt each
    exact ⟨fun i => (q i).1, fun i => (q i).2.1, fun i => (q i).2.2, ⟨fun i hi => (hq i hi).2.1, .inr ⟨b, off, rfl, (hq 0 (by omega)).1, fun i hi => (hq i hi).2.2⟩⟩, hlen⟩
theorem pd_of {W : World} (h : laidMet Tryd.prog [("lanthorn/tick.periods", Rows.laid_lanthorn_tick_periods)] W) : Pd W := by
  have hT : Lib.TabIs Tryd.prog W "lanthorn/tick.periods" .u8 [128, 128, 16] := Lib.tabIs_of_head (g := 0) (t := 68) (e := 5) (n := 3) (rest := []) (by kernel_rfl) (by kernel_rfl) Tryd.underlying68 Tryd.underlying5 (by kernel_rfl) (by kernel_rfl) h
  have hg : Tryd.prog.globalNamed "lanthorn/tick.periods" = some 0 := by kernel_rfl
  have c0 := hT.cell hg 0 (by decide)
  exact ⟨World.block_lt_of_cell? W ⟨0, 0, none⟩ c0, c0, hT.cell hg 1 (by decide), hT.cell hg 2 (by decide)⟩
end Go.Proofs.YtbdhdedlemndeaaDoor
