/-
  A drawn region by what holds in whatever order; loads and stores of whole rows (genkinv.py writes this text).
-/
import Derived.Test.YtbdhdedlemndeaaDoorKWrite
import Derived.Test.YtbdhdedlemndeaaDoorKLd
import Derived.Deep.RegionWith
namespace Go.Proofs.YtbdhdedlemndeaaDoor
open Go.RowKit Go.Shelf
set_option maxRecDepth 1000000
set_option maxHeartbeats 4000000
set_option linter.unusedVariables false

/-- What holds at the start, is kept by whatever may come up, and says the end when nothing is left, shows the region. -/
theorem wpAny_inv {P : Program} {ops : Array Oper} {Q : Exit → Act → World → Prop} {md : Region.Mode} (Inv : Array Bool → Act → World → Prop)
    (hstep : ∀ listed a w i, Inv listed a w → i ∈ Region.ready md ops listed → wpOp P ops Q i (fun a' w' => Inv (listed.setIfInBounds i true) a' w') a w)
    (hend : ∀ listed a w, Inv listed a w → Region.ready md ops listed = [] → Q .normal a w) :
    ∀ (fuel : Nat) (listed : Array Bool) (a : Act) (w : World), listed.toList.countP (fun b => !b) ≤ fuel → Inv listed a w → wpAny P md ops Q fuel listed a w
  | 0, listed, a, w, hc, h => by
    have hr : Region.ready md ops listed = [] := by
      cases hl : Region.ready md ops listed with
      | nil => rfl
      | cons i l =>
        exfalso
        obtain ⟨h1, _⟩ := mem_ready.1 (show i ∈ Region.ready md ops listed by rw [hl]; exact List.mem_cons_self)
        have hlt : i < listed.size := by
          rcases Nat.lt_or_ge i listed.size with h2 | h2
          · exact h2
          · simp [Array.getElem?_eq_none h2] at h1
        have h3 : listed[i] = false := by simpa [hlt] using h1
        have : 0 < listed.toList.countP (fun b => !b) := List.countP_pos_iff.2 ⟨listed[i], by simp, by rw [h3]; rfl⟩
        omega
    exact ⟨hr, hend listed a w h hr⟩
  | fuel + 1, listed, a, w, hc, h => by
    refine ⟨fun hr => hend listed a w h hr, fun i hi => wpOp_mono (fun a' w' h' => wpAny_inv Inv hstep hend fuel _ a' w' ?_ h') (hstep listed a w i h hi)⟩
    obtain ⟨h1, _⟩ := mem_ready.1 hi
    have hlt : i < listed.size := by
      rcases Nat.lt_or_ge i listed.size with h2 | h2
      · exact h2
      · simp [Array.getElem?_eq_none h2] at h1
    have h3 : listed[i] = false := by simpa [hlt] using h1
    have h4 : 0 < listed.toList.countP (fun b => !b) := List.countP_pos_iff.2 ⟨listed[i], by simp, by rw [h3]; rfl⟩
    have h5 : listed.toList[i]'(by simpa using hlt) = false := by rw [Array.getElem_toList]; exact h3
    rw [Array.toList_setIfInBounds, List.countP_set (by simpa using hlt), h5]
    simp only [Bool.not_false, Bool.not_true, if_true, Bool.false_eq_true, if_false]
    omega
theorem not_listed {listed : Array Bool} {i : Nat} (h : listed.getD i true = false) : listed.getD i false = false := by
  rcases Nat.lt_or_ge i listed.size with h' | h'
  · simp [h'] at h ⊢; exact h
  · simp [Array.getElem?_eq_none h'] at h
theorem repl_no {m j : Nat} {p : Prop} (h : (Array.replicate m false).getD j false = true) : p := by
  exfalso
  rcases Nat.lt_or_ge j m with h' | h'
  · simp [h'] at h
  · simp [h'] at h
/-- Nothing may come up any more: so what waits for none that is left has come up. -/
theorem all_listed {ops : Array Oper} {listed : Array Bool} (hr : Region.ready .any ops listed = []) (hsz : listed.size = ops.size) {i : Nat} {o : Oper} (ho : ops[i]? = some o) (hd : ∀ e ∈ o.after, Region.binds .any e = true → listed.getD e.on false = true) : listed.getD i false = true := by
  have hlt : i < listed.size := by rw [hsz]; exact (Array.getElem?_eq_some_iff.1 ho).1
  cases h : listed.getD i true with
  | true => simpa [hlt] using h
  | false =>
    have := (mem_ready (md := .any)).2 ⟨h, o, ho, fun e he hb => hd e he hb⟩
    rw [hr] at this
    cases this
theorem keep_at {listed : Array Bool} {i j : Nat} (hij : i ≠ j) (h : (listed.setIfInBounds i true).getD j false = true) : listed.getD j false = true := by rwa [getD_set_ne false hij] at h
theorem alloc_size (w : World) (o : Obj) : (w.alloc o).heap.size = w.heap.size + 1 := Array.size_push _
/-- The document's state as cells. -/
def docC (f : Nat → Nat) : Array Value := #[.bool (onF f 0), .bool (onF f 1), .bool (onF f 2), .bool (decide (128 ≤ f 0)), .int .i64 (f 1 : Nat), .int .i64 (f 5 : Nat), .int .i64 (f 9 : Nat), .int .i64 (f 2 : Nat), .int .i64 (f 6 : Nat), .int .i64 (f 10 : Nat), .int .i64 (f 3 : Nat), .int .i64 (f 7 : Nat), .int .i64 (f 11 : Nat), .int .i64 (f 4 : Nat), .int .i64 (f 8 : Nat), .int .i64 (f 12 : Nat), .int .u8 (f 13 : Nat), .int .u8 (f 14 : Nat), .int .u8 (f 15 : Nat), .int .u8 (f 16 : Nat), .int .u8 (f 17 : Nat), .int .u8 (f 18 : Nat), .int .u8 (f 19 : Nat), .int .u8 (f 20 : Nat), .int .u8 (f 21 : Nat), .int .u8 (f 22 : Nat)]
def docV (f : Nat → Nat) : Value := .agg (docC f)
theorem results_cell_tmp {P : Program} {fn : Func} {p1 p2 : Tmp} {ty1 : TypeId} (h : fn.results = #[.cell p1 ty1, .tmp p2]) (tmps : Array Value) (w : World) (g1 : Nat) (t1 : TypeId) (cs1 : Array Value) (fr1 : Nat × Nat) (d1 : TypeDesc) (v : Value)
    (hp1 : tmps.getD p1 undef = .pointer (some ⟨g1, 0, none⟩)) (hg1 : w.heap[g1]? = some (.cells cs1 t1 fr1)) (hu1 : P.underlying ty1 = some d1) (hd1 : (match d1 with | .struct _ | .array _ _ => true | _ => false) = true) (hi1 : (P.info? ty1).map (·.size) = some cs1.size)
    (hp2 : tmps.getD p2 undef = v) :
    (results fn tmps).run P w = .ok (.tuple #[.agg cs1, v]) w := by
  have hp1' : tmps[p1]?.getD undef = .pointer (some ⟨g1, 0, none⟩) := by simpa using hp1
  have hp2' : tmps[p2]?.getD undef = v := by simpa using hp2
  simp [results, h, hp1', hp2', asAddr, run_loadVar_row w g1 t1 ty1 cs1 fr1 d1 hg1 hu1 hd1 hi1]
def docZ : Array Value := #[.bool false, .bool false, .bool false, .bool false, .int .i64 0, .int .i64 0, .int .i64 0, .int .i64 0, .int .i64 0, .int .i64 0, .int .i64 0, .int .i64 0, .int .i64 0, .int .i64 0, .int .i64 0, .int .i64 0, .int .u8 0, .int .u8 0, .int .u8 0, .int .u8 0, .int .u8 0, .int .u8 0, .int .u8 0, .int .u8 0, .int .u8 0, .int .u8 0]
theorem docC_one (f : Nat → Nat) : (docC f).all (·.oneCell') = true := by kernel_rfl
theorem setRow_other {W : World} {g x : Nat} {cs ds : Array Value} {t : TypeId} (h : Whole W x t ds) (hne : x ≠ g) : Whole (W.setRow g cs) x t ds := by
  have : (W.setRow g cs).heap[x]? = W.heap[x]? := by
    simp only [World.setRow, Array.getElem?_modify]
    rw [if_neg (fun e => hne e.symm)]
  exact this.trans h
theorem below_setRow {B g : Nat} {w W : World} {cs : Array Value} (h : Below B w W) (hg : B ≤ g) : Below B w (W.setRow g cs) :=
  ⟨h.os, h.tape, h.output, by simpa [World.setRow] using h.size, fun k hk => by
    have : (W.setRow g cs).heap[k]? = W.heap[k]? := by
      simp only [World.setRow, Array.getElem?_modify]
      rw [if_neg (by omega)]
    exact this.trans (h.block k hk)⟩
theorem load_doc {W : World} {g : Nat} {f : Nat → Nat} (h : Whole W g 30 (docC f)) : (Instr.loadAt 30 (.pointer (some ⟨g, 0, none⟩))).run Tryd.prog W = .ok (.agg (docC f)) W :=
  load_at (run_loadVar_row _ _ 30 30 (docC f) (0, 0) _ h Tryd.underlying30 rfl (by kernel_rfl))
theorem store_doc {W : World} {g : Nat} {ds : Array Value} (f : Nat → Nat) (h : Whole W g 30 ds) (hs : ds.size = 26) : (Instr.storeAt 30 (.pointer (some ⟨g, 0, none⟩)) (.agg (docC f))).run Tryd.prog W = .ok () (W.setRow g (docC f)) ∧ Whole (W.setRow g (docC f)) g 30 (docC f) :=
  ⟨store_at (run_storeVar_row _ _ 30 30 ds (docC f) h (by kernel_rfl) (hs.trans rfl) (docC_one f)), setRow_heap _ _ _ _ _ (0, 0) h⟩
theorem oper_load {P : Program} {o : Oper} {a : Act} {K : Act → World → Prop} {Q : Exit → Act → World → Prop} {w : World} (t : TypeId) (x : Operand) (ho : o.op = .load t x) (ad : Addr) (r : Value) (hx : a.eval x = .pointer (some ad)) (hr : (Instr.loadAt t (.pointer (some ad))).run P w = .ok r w)
    (h : K (a.put o.dst r) w) : o.wp P a w K Q := by
  unfold Oper.wp
  simp [execOp, ho, hx, hr]
  exact h
theorem oper_store {P : Program} {o : Oper} {a : Act} {K : Act → World → Prop} {Q : Exit → Act → World → Prop} {w w' : World} (t : TypeId) (x y : Operand) (ho : o.op = .store t x y) (ad : Addr) (v : Value) (hx : a.eval x = .pointer (some ad)) (hy : a.eval y = v) (hr : (Instr.storeAt t (.pointer (some ad)) v).run P w = .ok () w')
    (h : K (a.put o.dst undef) w') : o.wp P a w K Q := by
  unfold Oper.wp
  simp [execOp, ho, hx, hy, hr]
  exact h
end Go.Proofs.YtbdhdedlemndeaaDoor
