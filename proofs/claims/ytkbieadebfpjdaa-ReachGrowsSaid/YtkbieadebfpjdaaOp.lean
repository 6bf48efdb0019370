/-
  A walker's operand: what stands between its calls.
-/
import Derived.Test.YtkbieadebfpjdaaWk7
namespace Go.Proofs.Ytkbieadebfpjdaa
open Go.RowKit Go.Shelf
set_option maxRecDepth 100000
set_option maxHeartbeats 1000000
set_option linter.unusedVariables false

/-- The index registers stay. -/
def Fix {α : Type} (F : M α) : Prop := ∀ s, (F s).2.r.X = s.r.X ∧ (F s).2.r.Y = s.r.Y
theorem Fix.pure {α : Type} (a : α) : Fix (pureM a) := fun _ => ⟨rfl, rfl⟩
theorem Fix.get : Fix getM := fun _ => ⟨rfl, rfl⟩
theorem Fix.inc : Fix incM := fun _ => ⟨rfl, rfl⟩
theorem Fix.idle : Fix idleM := fun s => by unfold idleM Ws.put; dsimp only; split <;> exact ⟨rfl, rfl⟩
theorem Fix.read (a : Nat) : Fix (readM a) := fun s => by rw [read_r]; exact ⟨rfl, rfl⟩
theorem Fix.bind {α β : Type} {F : M α} {G : α → M β} (hF : Fix F) (hG : ∀ v, Fix (G v)) : Fix (bindM F G) := fun s => ⟨((hG _) _).1.trans (hF s).1, ((hG _) _).2.trans (hF s).2⟩
theorem Fix.ite {α : Type} {p : Prop} [Decidable p] {F G : M α} (hF : Fix F) (hG : Fix G) : Fix (if p then F else G) := by split; exact hF; exact hG
theorem Fix.num {F : Nat → M Nat} (h : ∀ k, Fix (F k)) : ∀ m, Fix (numM F m)
  | 0 => Fix.pure 0
  | k + 1 => Fix.bind (Fix.num h k) fun n => Fix.bind (h k) fun v => Fix.pure _
theorem Fix.fetch (m : Nat) : Fix (fetchM m) := Fix.num (fun _ => Fix.bind Fix.get fun r => Fix.bind (Fix.read _) fun v => Fix.bind Fix.inc fun _ => Fix.pure _) m
theorem Fix.direct (n m : Nat) : Fix (directM n m) := Fix.num (fun i => (Fix.bind Fix.get fun r => Fix.read _ : Fix (direct1M n i))) m
theorem Fix.offset : Fix offsetM := Fix.bind (Fix.fetch 1) fun o => Fix.bind Fix.get fun r => Fix.bind (Fix.ite Fix.idle (Fix.pure ())) fun _ => Fix.pure _
theorem Fix.offsetBy (x : Nat) : Fix (offsetByM x) := Fix.bind Fix.offset fun o => Fix.bind Fix.idle fun _ => Fix.pure _
theorem Fix.stack : Fix stackM := Fix.bind (Fix.fetch 1) fun o => Fix.bind Fix.idle fun _ => Fix.bind Fix.get fun r => Fix.pure _
theorem Fix.page (n : Nat) : Fix (pageM n) := fun _ => ⟨rfl, rfl⟩
theorem Fix.data (n : Nat) : Fix (dataM n) := fun _ => ⟨rfl, rfl⟩
theorem Fix.indexed (a x u : Nat) : Fix (indexedM a x u) := Fix.bind Fix.get fun r => Fix.bind (Fix.ite Fix.idle (Fix.pure ())) fun _ => Fix.pure _
/-- A walker between its calls: what points to it (x), the place to be answered (t). -/
structure At (W0 : World) (B b x t X Y : Nat) (w : World) (s : Ws) (W : World) : Prop where
  wk : Wk W0 B b s W
  bt : Whole W t 27 #[.int .u32 0, .bool false]
  kp : Keeps b w W
  hX : s.r.X = X
  hY : s.r.Y = Y
  ht : t ≠ b ∧ B ≤ t ∧ w.heap.size ≤ t
section
variable {W0 w W W' : World} {B b x t X Y : Nat} {s s' : Ws}
theorem At.below (h : At W0 B b x t X Y w s W) (hb : Below W.heap.size W W') : At W0 B b x t X Y w s W' := ⟨h.wk.below hb, h.bt.below hb h.bt.lt, h.kp.trans (Keeps.below hb), h.hX, h.hY, h.ht⟩
theorem At.drew (h : At W0 B b x t X Y w s W) : At W0 B b x t X Y w s W.drew := h.below (Below.drew (Below.refl _ _))
theorem At.drewN (h : At W0 B b x t X Y w s W) (q : Nat) : At W0 B b x t X Y w s (W.drewN q) := h.below (below_drewN (Below.refl _ _) q)
theorem At.step (h : At W0 B b x t X Y w s W) (h1 : Wk W0 B b s' W') (h2 : Keeps b W W') (h3 : s'.r.X = s.r.X ∧ s'.r.Y = s.r.Y) : At W0 B b x t X Y w s' W' :=
  ⟨h1, h2 _ _ _ h.ht.1 (by decide) h.bt, h.kp.trans h2, h3.1.trans h.hX, h3.2.trans h.hY, h.ht⟩
theorem At.loads (h : At W0 B b x t X Y w s W) : W.cell? ⟨b, 1, none⟩ = some (.int .u16 X) ∧ W.cell? ⟨b, 2, none⟩ = some (.int .u16 Y) := by
  obtain ⟨a, c, lv, h1, _⟩ := h.wk.cells
  rw [h1.cell, h1.cell, ← h.hX, ← h.hY]
  exact ⟨rfl, rfl⟩
theorem At.stored (h : At W0 B b x t X Y w s W) (u v : Value) : ((W.setCell ⟨t, 0, none⟩ u).setCell ⟨t, 1, none⟩ v).cell? ⟨b, 1, none⟩ = some (.int .u16 X) ∧ ((W.setCell ⟨t, 0, none⟩ u).setCell ⟨t, 1, none⟩ v).cell? ⟨b, 2, none⟩ = some (.int .u16 Y) := by
  obtain ⟨h2, h3⟩ := h.loads
  obtain ⟨t1, _⟩ := h.ht
  have key : ∀ y, y ≠ t → ((W.setCell ⟨t, 0, none⟩ u).setCell ⟨t, 1, none⟩ v).heap[y]? = W.heap[y]? := fun y hy => (Below.heap_setCell _ _ _ _ hy).trans (Below.heap_setCell _ _ _ _ hy)
  exact ⟨(World.cell?_of_block (key b (fun e => t1 e.symm))).trans h2, (World.cell?_of_block (key b (fun e => t1 e.symm))).trans h3⟩
theorem At.tgt (h : At W0 B b x t X Y w s W) : (W.cell? ⟨t, 0, none⟩ = some (.int .u32 0) ∧ W.cell? ⟨t, 1, none⟩ = some (.bool false)) ∧ W.frozen? ⟨t, 0, none⟩ = false ∧ W.frozen? ⟨t, 1, none⟩ = false := by
  rw [h.bt.cell, h.bt.cell]
  exact ⟨⟨rfl, rfl⟩, h.bt.free 0, h.bt.free 1⟩
theorem At.fin (h : At W0 B b x t X Y w s W) (v : Nat) (bk : Bool) : Whole ((W.setCell ⟨t, 0, none⟩ (.int .u32 v)).setCell ⟨t, 1, none⟩ (.bool bk)) t 27 #[.int .u32 v, .bool bk] ∧
    Wk W0 B b s ((W.setCell ⟨t, 0, none⟩ (.int .u32 v)).setCell ⟨t, 1, none⟩ (.bool bk)) ∧ Keeps b w ((W.setCell ⟨t, 0, none⟩ (.int .u32 v)).setCell ⟨t, 1, none⟩ (.bool bk)) :=
  ⟨(h.bt.put 0 (.int .u32 v)).put 1 (.bool bk), place_end h.wk h.bt h.kp h.ht.1 h.ht.2.1 h.ht.2.2⟩
/-! Each call, between. -/
theorem At.offset (h : At W0 B b x t X Y w s W) (hl : s.l.length ≤ 98) : Calls Try.prog 19 #[.pointer (some ⟨b, 0, none⟩)] W fun e w' => e = .returned (.int .u32 ((offsetM s).1 : Nat)) ∧ At W0 B b x t X Y w (offsetM s).2 w' :=
  (offset_any h.wk hl).mono fun e w' ⟨he, h1, h2, _⟩ => ⟨he, h.step h1 h2 (Fix.offset s)⟩
theorem At.offsetBy (h : At W0 B b x t X Y w s W) (hl : s.l.length ≤ 97) (z : Nat) (hz : z < 65536) : Calls Try.prog 20 #[.pointer (some ⟨b, 0, none⟩), .int .u16 (z : Nat)] W fun e w' => e = .returned (.int .u32 ((offsetByM z s).1 : Nat)) ∧ At W0 B b x t X Y w (offsetByM z s).2 w' :=
  (offsetBy_any h.wk hl hz).mono fun e w' ⟨he, h1, h2, _⟩ => ⟨he, h.step h1 h2 (Fix.offsetBy z s)⟩
theorem At.fetch (h : At W0 B b x t X Y w s W) (m : Nat) (z : Int) (hz : z = (m : Int)) (hm : m ≤ 3) (hl : s.l.length + m ≤ 100) : Calls Try.prog 25 #[.pointer (some ⟨b, 0, none⟩), .int .u32 z] W fun e w' => e = .returned (.int .u32 ((fetchM m s).1 : Nat)) ∧ At W0 B b x t X Y w (fetchM m s).2 w' :=
  hz ▸ (fetch_any h.wk hm hl).mono fun e w' ⟨he, h1, h2, _⟩ => ⟨he, h.step h1 h2 (Fix.fetch m s)⟩
theorem At.stack (h : At W0 B b x t X Y w s W) (hl : s.l.length ≤ 97) : Calls Try.prog 27 #[.pointer (some ⟨b, 0, none⟩)] W fun e w' => e = .returned (.int .u32 ((stackM s).1 : Nat)) ∧ At W0 B b x t X Y w (stackM s).2 w' :=
  (stack_any h.wk hl).mono fun e w' ⟨he, h1, h2, _⟩ => ⟨he, h.step h1 h2 (Fix.stack s)⟩
theorem At.idle (h : At W0 B b x t X Y w s W) (hl : s.l.length ≤ 100) : Calls Try.prog 29 #[.pointer (some ⟨b, 0, none⟩)] W fun e w' => e = .returned (.tuple #[]) ∧ At W0 B b x t X Y w (idleM s).2 w' :=
  (idle_any h.wk hl).mono fun e w' ⟨he, h1, h2⟩ => ⟨he, h.step h1 h2 (Fix.idle s)⟩
theorem At.page (h : At W0 B b x t X Y w s W) (n : Nat) (hn : n < 4294967296) : Calls Try.prog 18 #[.pointer (some ⟨b, 0, none⟩), .int .u32 (n : Nat)] W fun e w' => e = .returned (plV (pageM n s).1.1 (pageM n s).1.2) ∧ At W0 B b x t X Y w (pageM n s).2 w' :=
  (page_any h.wk hn).mono fun e w' ⟨he, h1, h2⟩ => ⟨he, h.step h1 h2 (Fix.page n s)⟩
theorem At.data (h : At W0 B b x t X Y w s W) (n : Nat) (hn : n < 4294967296) : Calls Try.prog 22 #[.pointer (some ⟨b, 0, none⟩), .int .u32 (n : Nat)] W fun e w' => e = .returned (.int .u32 ((dataM n s).1 : Nat)) ∧ At W0 B b x t X Y w (dataM n s).2 w' :=
  (data_any h.wk hn).mono fun e w' ⟨he, h1, h2, _⟩ => ⟨he, h.step h1 h2 (Fix.data n s)⟩
theorem At.indexed (h : At W0 B b x t X Y w s W) (a z u : Nat) (hl : s.l.length ≤ 99) (ha : a < 16777216) (hz : z < 65536) (hu : u < 256) : Calls Try.prog 24 #[.pointer (some ⟨b, 0, none⟩), .int .u32 (a : Nat), .int .u16 (z : Nat), .int .u8 (u : Nat)] W fun e w' => e = .returned (.int .u32 ((indexedM a z u s).1 : Nat)) ∧ At W0 B b x t X Y w (indexedM a z u s).2 w' :=
  (indexed_any h.wk hl ha hz hu).mono fun e w' ⟨he, h1, h2, _⟩ => ⟨he, h.step h1 h2 (Fix.indexed a z u s)⟩
theorem At.across (h : At W0 B b x t X Y w s W) (a : Nat) (ha : a < 4294967296) : Calls Try.prog 21 #[.int .u32 (a : Nat)] W fun e w' => e = .returned (plV (a % 16777216) false) ∧ At W0 B b x t X Y w s w' :=
  (across_any a W ha).mono fun e w' ⟨he, hb⟩ => ⟨he, h.below hb⟩
theorem At.within (h : At W0 B b x t X Y w s W) (a : Nat) : Calls Try.prog 26 #[.int .u32 (a : Nat)] W fun e w' => e = .returned (plV a true) ∧ At W0 B b x t X Y w s w' :=
  (within_any a W).mono fun e w' ⟨he, hb⟩ => ⟨he, h.below hb⟩
end
/-! Bounds. -/
theorem fetch_lt {s : Ws} (h : ∀ i, i < s.n → s.f i < 256) (m : Nat) : True := trivial
theorem directw_any {W0 w : World} {B b n m : Nat} {s : Ws} (h : Wk W0 B b s w) (hm : m ≤ 3) (hl : s.l.length + m ≤ 100) (hn : n < 100000) :
    Calls Try.prog 23 #[.pointer (some ⟨b, 0, none⟩), .int .u32 (n : Nat), .int .u32 (m : Nat)] w fun e w' => e = .returned (.int .u32 ((directM n m s).1 : Nat)) ∧ Wk W0 B b (directM n m s).2 w' ∧ Keeps b w w' ∧ (directM n m s).1 < 256 ^ m := by
  have hmf := makeF
  have hW := (h.alloc (.cells #[.pointer (some ⟨b, 0, none⟩)] 52)).alloc (.cells #[.int .u32 (n : Nat)] 25)
  have hX := (Whole.fresh w 52 #[.pointer (some ⟨b, 0, none⟩)]).alloc (.cells #[.int .u32 (n : Nat)] 25)
  have hY := Whole.fresh (w.alloc (.cells #[.pointer (some ⟨b, 0, none⟩)] 52)) 25 #[.int .u32 (n : Nat)]
  rw [World.size_alloc] at hY
  have hK := ((Keeps.refl b w).alloc (.cells #[.pointer (some ⟨b, 0, none⟩)] 52)).alloc (.cells #[.int .u32 (n : Nat)] 25)
  have hne : w.heap.size ≠ b := by have := h.lt; omega
  have hne2 : w.heap.size + 1 ≠ b := by have := h.lt; omega
  have HN := number_any (k := 31) (F := direct1M n) (caps := #[.pointer (some ⟨w.heap.size, 0, none⟩), .pointer (some ⟨w.heap.size + 1, 0, none⟩)]) (Q := fun W => Whole W w.heap.size 52 #[.pointer (some ⟨b, 0, none⟩)] ∧ Whole W (w.heap.size + 1) 25 #[.int .u32 (n : Nat)]) hm
    (fun i s w hi hW q hl => direct1_any hW q.1 q.2 hl hn (by omega)) (fun w w' q k => ⟨k _ _ _ hne (by decide) q.1, k _ _ _ hne2 (by decide) q.2⟩) (fun i => (Good.bind (c := 0) (d := 1) Good.get fun r => Good.read _ : Good (direct1M n i) 1)) (enters_of Try.func31 (by kernel_rfl) rfl) hW ⟨hX, hY⟩ hl
  change Calls _ _ _ _ (fun e w' => e = .returned (.int .u32 ((directM n m s).1 : Nat)) ∧ Wk W0 B b (directM n m s).2 w' ∧ Keeps b _ w' ∧ (directM n m s).1 < 256 ^ m) at HN
  replace HN := Lib.hid HN
  replace hK := Lib.hid hK
  clear h hX hY hW hl hm
  go_enter Try.func23, Try.ntmps23
  go_wp2_with fail
  refine HN.out.mono ?_
  rintro e w' ⟨rfl, h1, h2, h3⟩
  clear HN
  go_wp2_with fail
  go_ret
  exact ⟨rfl, h1, hK.out.trans h2, h3⟩
theorem At.direct {W0 w W : World} {B b x t X Y : Nat} {s : Ws} (h : At W0 B b x t X Y w s W) (n m : Nat) (z : Int) (hz : z = (m : Int)) (hn : n < 100000) (hm : m ≤ 3) (hl : s.l.length + m ≤ 100) : Calls Try.prog 23 #[.pointer (some ⟨b, 0, none⟩), .int .u32 (n : Nat), .int .u32 z] W fun e w' => e = .returned (.int .u32 ((directM n m s).1 : Nat)) ∧ At W0 B b x t X Y w (directM n m s).2 w' :=
  hz ▸ (directw_any h.wk hm hl hn).mono fun e w' ⟨he, h1, h2, _⟩ => ⟨he, h.step h1 h2 (Fix.direct n m s)⟩
theorem sum_facts {n i z : Nat} (h : n + i = z) (hn : n < 100000) (hi : i < 3) : (n : Int) + (i : Int) = (z : Int) ∧ (z : Int) % 4294967296 = (z : Int) ∧ IntKind.u32.wrap (z : Int) = (z : Int) ∧ IntKind.u32.wrap ((n : Int) + (i : Int)) = (z : Int) ∧ z < 4294967296 := by
  simp only [IntKind.wrap_u32]
  omega
theorem stack1_any {W0 w : World} {B b x z0 y n i : Nat} {s : Ws} (h : Wk W0 B b s w) (q : Whole w x 62 #[.pointer (some ⟨b, 0, none⟩)]) (q1 : Whole w z0 5 #[.int .u8 0]) (q2 : Whole w y 25 #[.int .u32 (n : Nat)]) (hl : s.l.length ≤ 100) (hn : n < 100000) (hi : i < 3) :
    Calls Try.prog 35 #[.int .u32 (i : Nat), .pointer (some ⟨x, 0, none⟩), .pointer (some ⟨z0, 0, none⟩), .pointer (some ⟨y, 0, none⟩)] w fun e w' => e = .returned (.int .u8 ((stack1M n i s).1 : Nat)) ∧ Wk W0 B b (stack1M n i s).2 w' ∧ Keeps b w w' ∧ (stack1M n i s).1 < 256 := by
  have hd : Keeps b w w.drew := Keeps.below (Below.drew (Below.refl _ _))
  have d0 := q.drew.cell 0
  have d1 := q2.drew.cell 0
  have d2 := q1.drew.cell 0
  simp only [List.getElem?_toArray, List.getElem?_cons_zero] at d0 d1 d2
  obtain ⟨v, hv⟩ : ∃ v, (n + i) % 65536 = v := ⟨_, rfl⟩
  have HR := read_any v h.drew hl (by omega)
  rw [show stack1M n i s = readM ((n + i) % 65536) s from rfl, hv]
  obtain ⟨z, hz⟩ : ∃ z, n + i = z := ⟨_, rfl⟩
  have hv2 : 0 * 65536 + z % 65536 = v := by rw [Nat.zero_mul, Nat.zero_add, ← hz, hv]
  have HA := fun W => address_v (b := 0) (n := z) (v := v) (x := ((0 : Nat) : Int)) (z := (z : Nat)) W rfl rfl (by omega) (sum_facts hz hn hi).2.2.2.2 hv2
  obtain ⟨e1, e2, e3, e4, e5⟩ := sum_facts hz hn hi
  generalize readM v s = p1 at *
  obtain ⟨y, s1⟩ := p1
  dsimp only at *
  replace HR := Lib.hid HR
  replace HA := Lib.hid HA
  replace hd := Lib.hid hd
  replace e5 := Lib.hid e5
  clear h q q1 q2 hl hn hi hv hz hv2
  go_enter Try.func35, Try.ntmps35
  go_upto_region 1 with (fail)
  refine wp_region_still_tail 6 (by kernel_rfl) (by kernel_rfl) ?_
  simp only [List.take_succ_cons, List.take_zero, List.drop_succ_cons, List.drop_zero]
  repeat still_step
  still_call ((HA.out _).mono (by rintro e w' ⟨rfl, rfl⟩; exact ⟨rfl, rfl⟩))
  refine wpStill_nil ?_
  show wpList _ _ _ _ _ w.drew
  generalize w.drew = W1 at *
  clear HA
  go_wp2_with fail
  refine HR.out.mono ?_
  rintro e w1 ⟨rfl, h1, h2, h3⟩
  go_wp2_with fail
  go_ret
  exact ⟨rfl, h1, hd.out.trans h2, h3⟩
end Go.Proofs.Ytkbieadebfpjdaa
