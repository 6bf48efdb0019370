/-
  What was run, as a turn: the cells of one.
-/
import Derived.Test.YtnacdaodjgdnnaaGreatXEntA
import Derived.Deep.RegionHeld3
namespace Go.Proofs.YtnacdaodjgdnnaaGreat
open Go.RowKit Go.Shelf
set_option maxRecDepth 100000
set_option maxHeartbeats 400000
set_option linter.unusedVariables false

/-- A turn laid into its block, cell by cell. -/
def layT (W : World) (T : Nat) (v0 v1 v2 v3 v4 v5 v6 v7 v8 v9 v10 v11 v12 : Value) : World := (((((((((((((W.setCell ⟨T, 0, none⟩ (v0)).setCell ⟨T, 1, none⟩ (v1)).setCell ⟨T, 2, none⟩ (v2)).setCell ⟨T, 3, none⟩ (v3)).setCell ⟨T, 4, none⟩ (v4)).setCell ⟨T, 5, none⟩ (v5)).setCell ⟨T, 6, none⟩ (v6)).setCell ⟨T, 7, none⟩ (v7)).setCell ⟨T, 8, none⟩ (v8)).setCell ⟨T, 9, none⟩ (v9)).setCell ⟨T, 10, none⟩ (v10)).setCell ⟨T, 11, none⟩ (v11)).setCell ⟨T, 12, none⟩ (v12))
theorem layT_fin {W0 W : World} {B T n : Nat} {lv : Value} {xs : List Value} (v0 v1 v2 v3 v4 v5 v6 v7 v8 v9 v10 v11 v12 : Value) (hT : Whole W T 29 #[.slice none 0 0, .bool false, .int .u16 0, .int .u16 0, .int .u16 0, .int .u16 0, .int .u16 0, .int .u16 0, .int .u8 0, .int .u8 0, .int .u8 0, .bool false, .int .u8 0]) (hO : W.ownsRow B 35 3 lv n xs) (hap : lv.ownBlock ≠ some T) (hB : Below B W0 W) (hTB : B ≤ T) :
    Whole (layT W T v0 v1 v2 v3 v4 v5 v6 v7 v8 v9 v10 v11 v12) T 29 #[v0, v1, v2, v3, v4, v5, v6, v7, v8, v9, v10, v11, v12] ∧ (layT W T v0 v1 v2 v3 v4 v5 v6 v7 v8 v9 v10 v11 v12).ownsRow B 35 3 lv n xs ∧ Below B W0 (layT W T v0 v1 v2 v3 v4 v5 v6 v7 v8 v9 v10 v11 v12) := by
  unfold layT
  refine ⟨?_, (row_put (row_put (row_put (row_put (row_put (row_put (row_put (row_put (row_put (row_put (row_put (row_put (row_put hO (p := ⟨T, 0, none⟩) hap (v0)) (p := ⟨T, 1, none⟩) hap (v1)) (p := ⟨T, 2, none⟩) hap (v2)) (p := ⟨T, 3, none⟩) hap (v3)) (p := ⟨T, 4, none⟩) hap (v4)) (p := ⟨T, 5, none⟩) hap (v5)) (p := ⟨T, 6, none⟩) hap (v6)) (p := ⟨T, 7, none⟩) hap (v7)) (p := ⟨T, 8, none⟩) hap (v8)) (p := ⟨T, 9, none⟩) hap (v9)) (p := ⟨T, 10, none⟩) hap (v10)) (p := ⟨T, 11, none⟩) hap (v11)) (p := ⟨T, 12, none⟩) hap (v12)), (Below.setCell (Below.setCell (Below.setCell (Below.setCell (Below.setCell (Below.setCell (Below.setCell (Below.setCell (Below.setCell (Below.setCell (Below.setCell (Below.setCell (Below.setCell hB (p := ⟨T, 0, none⟩) hTB (v0)) (p := ⟨T, 1, none⟩) hTB (v1)) (p := ⟨T, 2, none⟩) hTB (v2)) (p := ⟨T, 3, none⟩) hTB (v3)) (p := ⟨T, 4, none⟩) hTB (v4)) (p := ⟨T, 5, none⟩) hTB (v5)) (p := ⟨T, 6, none⟩) hTB (v6)) (p := ⟨T, 7, none⟩) hTB (v7)) (p := ⟨T, 8, none⟩) hTB (v8)) (p := ⟨T, 9, none⟩) hTB (v9)) (p := ⟨T, 10, none⟩) hTB (v10)) (p := ⟨T, 11, none⟩) hTB (v11)) (p := ⟨T, 12, none⟩) hTB (v12))⟩
  have h0 := hT.put 0 v0
  simp only [List.setIfInBounds_toArray, List.set_cons_zero] at h0
  clear hT
  have h1 := h0.put 1 v1
  simp only [List.setIfInBounds_toArray, List.set_cons_zero, List.set_cons_succ] at h1
  clear h0
  have h2 := h1.put 2 v2
  simp only [List.setIfInBounds_toArray, List.set_cons_zero, List.set_cons_succ] at h2
  clear h1
  have h3 := h2.put 3 v3
  simp only [List.setIfInBounds_toArray, List.set_cons_zero, List.set_cons_succ] at h3
  clear h2
  have h4 := h3.put 4 v4
  simp only [List.setIfInBounds_toArray, List.set_cons_zero, List.set_cons_succ] at h4
  clear h3
  have h5 := h4.put 5 v5
  simp only [List.setIfInBounds_toArray, List.set_cons_zero, List.set_cons_succ] at h5
  clear h4
  have h6 := h5.put 6 v6
  simp only [List.setIfInBounds_toArray, List.set_cons_zero, List.set_cons_succ] at h6
  clear h5
  have h7 := h6.put 7 v7
  simp only [List.setIfInBounds_toArray, List.set_cons_zero, List.set_cons_succ] at h7
  clear h6
  have h8 := h7.put 8 v8
  simp only [List.setIfInBounds_toArray, List.set_cons_zero, List.set_cons_succ] at h8
  clear h7
  have h9 := h8.put 9 v9
  simp only [List.setIfInBounds_toArray, List.set_cons_zero, List.set_cons_succ] at h9
  clear h8
  have h10 := h9.put 10 v10
  simp only [List.setIfInBounds_toArray, List.set_cons_zero, List.set_cons_succ] at h10
  clear h9
  have h11 := h10.put 11 v11
  simp only [List.setIfInBounds_toArray, List.set_cons_zero, List.set_cons_succ] at h11
  clear h10
  have h12 := h11.put 12 v12
  simp only [List.setIfInBounds_toArray, List.set_cons_zero, List.set_cons_succ] at h12
  clear h11
  exact h12
end Go.Proofs.YtnacdaodjgdnnaaGreat
namespace Go.Proofs.YtnacdaodjgdnnaaGreat
open Go.RowKit Go.Shelf
set_option maxRecDepth 100000
set_option maxHeartbeats 400000
set_option linter.unusedVariables false

theorem turn_stopped {W0 w : World} {B b : Nat} {s : Xs} (h : Xk W0 B b s w) (hs : s.st = true) :
    Calls Tryz.prog 61 #[.pointer (some ⟨b, 0, none⟩)] w fun e w' => ∃ lv, e = .returned (.agg #[lv, .bool false, .int .u16 0, .int .u16 0, .int .u16 0, .int .u16 0, .int .u16 0, .int .u16 0, .int .u8 0, .int .u8 0, .int .u8 0, .bool false, .int .u8 0]) ∧ w'.ownsRow B 35 3 lv s.l.length (accX s.l) ∧ Below B W0 w' := by
  obtain ⟨sa, c, lv, hc, _, _, ho⟩ := h.cells
  obtain ⟨la, lc, rfl⟩ : ∃ la lc, lv = .slice la s.l.length lc := by
    rcases ho.2 with ⟨e, h0⟩ | ⟨g, cap, cur, e, _⟩
    · exact ⟨none, 0, by rw [e, h0]⟩
    · exact ⟨_, _, e⟩
  have hlt : B ≤ w.heap.size := by have := h.bel.size; have := h.base; omega
  have hC := hc.alloc (.cells #[.slice none 0 0, .bool false, .int .u16 0, .int .u16 0, .int .u16 0, .int .u16 0, .int .u16 0, .int .u16 0, .int .u8 0, .int .u8 0, .int .u8 0, .bool false, .int .u8 0] 29)
  have hO := ho.alloc (.cells #[.slice none 0 0, .bool false, .int .u16 0, .int .u16 0, .int .u16 0, .int .u16 0, .int .u16 0, .int .u16 0, .int .u8 0, .int .u8 0, .int .u8 0, .bool false, .int .u8 0] 29)
  have hB := h.bel.alloc hlt (.cells #[.slice none 0 0, .bool false, .int .u16 0, .int .u16 0, .int .u16 0, .int .u16 0, .int .u16 0, .int .u16 0, .int .u8 0, .int .u8 0, .int .u8 0, .bool false, .int .u8 0] 29)
  have hT := Whole.fresh w 29 #[.slice none 0 0, .bool false, .int .u16 0, .int .u16 0, .int .u16 0, .int .u16 0, .int .u16 0, .int .u16 0, .int .u8 0, .int .u8 0, .int .u8 0, .bool false, .int .u8 0]
  have c11 := hC.cell 11
  have c12 := hC.cell 12
  unfold rnC at c11 c12
  simp only [List.getElem?_toArray, List.getElem?_cons_zero, List.getElem?_cons_succ] at c11 c12
  rw [hs] at c12
  obtain ⟨V, hV⟩ : ∃ V, w.alloc (.cells #[.slice none 0 0, .bool false, .int .u16 0, .int .u16 0, .int .u16 0, .int .u16 0, .int .u16 0, .int .u16 0, .int .u8 0, .int .u8 0, .int .u8 0, .bool false, .int .u8 0] 29) = V := ⟨_, rfl⟩
  rw [hV] at hC hO hB hT c11 c12
  obtain ⟨T, hTe⟩ : ∃ T, w.heap.size = T := ⟨_, rfl⟩
  rw [hTe] at hT hlt
  have t0 : V.cell? ⟨T, 0, none⟩ = some (.slice none 0 0) := by rw [hT.cell]; rfl
  have f0 := hT.free 0
  have t1 : V.cell? ⟨T, 1, none⟩ = some (.bool false) := by rw [hT.cell]; rfl
  have f1 := hT.free 1
  have t2 : V.cell? ⟨T, 2, none⟩ = some (.int .u16 0) := by rw [hT.cell]; rfl
  have f2 := hT.free 2
  have t3 : V.cell? ⟨T, 3, none⟩ = some (.int .u16 0) := by rw [hT.cell]; rfl
  have f3 := hT.free 3
  have t4 : V.cell? ⟨T, 4, none⟩ = some (.int .u16 0) := by rw [hT.cell]; rfl
  have f4 := hT.free 4
  have t5 : V.cell? ⟨T, 5, none⟩ = some (.int .u16 0) := by rw [hT.cell]; rfl
  have f5 := hT.free 5
  have t6 : V.cell? ⟨T, 6, none⟩ = some (.int .u16 0) := by rw [hT.cell]; rfl
  have f6 := hT.free 6
  have t7 : V.cell? ⟨T, 7, none⟩ = some (.int .u16 0) := by rw [hT.cell]; rfl
  have f7 := hT.free 7
  have t8 : V.cell? ⟨T, 8, none⟩ = some (.int .u8 0) := by rw [hT.cell]; rfl
  have f8 := hT.free 8
  have t9 : V.cell? ⟨T, 9, none⟩ = some (.int .u8 0) := by rw [hT.cell]; rfl
  have f9 := hT.free 9
  have t10 : V.cell? ⟨T, 10, none⟩ = some (.int .u8 0) := by rw [hT.cell]; rfl
  have f10 := hT.free 10
  have t11 : V.cell? ⟨T, 11, none⟩ = some (.bool false) := by rw [hT.cell]; rfl
  have f11 := hT.free 11
  have t12 : V.cell? ⟨T, 12, none⟩ = some (.int .u8 0) := by rw [hT.cell]; rfl
  have f12 := hT.free 12
  have hap := own_apart hO hT (by decide)
  have hfin := Lib.hid (layT_fin (.slice la s.l.length lc) (.bool false) (.int .u16 0) (.int .u16 0) (.int .u16 0) (.int .u16 0) (.int .u16 0) (.int .u16 0) (.int .u8 0) (.int .u8 0) (.int .u8 0) (.bool false) (.int .u8 0) hT hO hap hB hlt)
  unfold layT at hfin
  clear h hc ho hC hO hB hT hap hlt hs
  go_enter Tryz.func61, Tryz.ntmps61
  go_upto_region 1 with (fail)
  clear hV hTe
  go_wp2_with fail
  exact bodyPost_ret (results_cell_row (fn := Tryz.f61) (p := 2) (ty := 29) rfl _ _ _ _ _ (0, 0) _ rfl hfin.out.1 Tryz.underlying29 rfl (by kernel_rfl)) rfl ⟨_, rfl, hfin.out.2⟩
end Go.Proofs.YtnacdaodjgdnnaaGreat
namespace Go.Proofs.YtnacdaodjgdnnaaGreat
open Go.RowKit Go.Shelf
set_option linter.unusedVariables false

/-- What a walk does, apart from where it lies. -/
inductive Pg (α : Type) where
  | ret (a : α) : Pg α
  | put (k a v : Nat) (p : Pg α) : Pg α
  | read (a : Nat) (p : Nat → Pg α) : Pg α
def Pg.bind {α β : Type} : Pg α → (α → Pg β) → Pg β
  | .ret a, g => g a
  | .put k a v p, g => .put k a v (p.bind g)
  | .read a p, g => .read a fun v => (p v).bind g
/-- Registers, and what comes after. -/
abbrev Ra := Rg × Nat
abbrev Wp (α : Type) : Type := Ra → Pg (α × Ra)
def runX {α : Type} : Pg α → Xs → α × Xs
  | .ret a, s => (a, s)
  | .put k a v p, s => runX p (s.put k a v)
  | .read a p, s => runX (p (readX a s).1) (readX a s).2
def Xs.wr (s : Xs) (r : Ra) : Xs := { s with r := r.1, af := r.2 }
def outX {α : Type} (p : (α × Ra) × Xs) : α × Xs := (p.1.1, p.2.wr p.1.2)
theorem take_wr (s : Xs) (r : Ra) : takeX (s.wr r) = ((takeX s).1, (takeX s).2.wr r) := by
  unfold takeX Xs.wr
  dsimp only
  split <;> rfl
theorem put_wr (s : Xs) (r : Ra) (k a v : Nat) : (s.wr r).put k a v = (s.put k a v).wr r := by
  unfold Xs.put Xs.wr
  dsimp only
  split <;> rfl
theorem read_wr (s : Xs) (r : Ra) (a : Nat) : readX a (s.wr r) = ((readX a s).1, (readX a s).2.wr r) := by
  unfold readX
  rw [put_wr, take_wr]
theorem runX_wr {α : Type} (p : Pg α) : ∀ (s : Xs) (r : Ra), runX p (s.wr r) = ((runX p s).1, (runX p s).2.wr r) := by
  induction p with
  | ret a => intro s r; rfl
  | put k a v p ih => intro s r; simp only [runX, put_wr, ih]
  | read a p ih => intro s r; simp only [runX, read_wr, ih]
theorem runX_bind {α β : Type} (p : Pg α) (g : α → Pg β) : ∀ s, runX (p.bind g) s = runX (g (runX p s).1) (runX p s).2 := by
  induction p with
  | ret a => intro s; rfl
  | put k a v p ih => intro s; simp only [Pg.bind, runX, ih]
  | read a p ih => intro s; simp only [Pg.bind, runX, ih]
/-- A walk is what a plan says. -/
def Is {α : Type} (F : X α) (p : Wp α) : Prop := ∀ s, F s = outX (runX (p (s.r, s.af)) s)
def pureW {α : Type} (a : α) : Wp α := fun r => .ret (a, r)
def bindW {α β : Type} (p : Wp α) (q : α → Wp β) : Wp β := fun r => (p r).bind fun x => q x.1 x.2
def putW (k a v : Nat) : Wp Unit := fun r => .put k a v (.ret ((), r))
def readW (a : Nat) : Wp Nat := fun r => .read a fun v => .ret (v, r)
def getW : Wp Rg := fun r => .ret (r.1, r)
def setW (g : Rg → Rg) : Wp Unit := fun r => .ret ((), (g r.1, r.2))
def afterW (n : Nat) : Wp Unit := fun r => .ret ((), (r.1, n))
theorem put_ra (s : Xs) (k a v : Nat) : (s.put k a v).wr (s.r, s.af) = s.put k a v := by
  unfold Xs.put Xs.wr
  split <;> rfl
theorem Is.pure {α : Type} (a : α) : Is (pureX a) (pureW a) := fun s => rfl
theorem Is.bind {α β : Type} {F : X α} {p : Wp α} {G : α → X β} {q : α → Wp β} (h : Is F p) (k : ∀ a, Is (G a) (q a)) : Is (bindX F G) (bindW p q) := fun s => by
  show G (F s).1 (F s).2 = outX (runX ((p (s.r, s.af)).bind fun x => q x.1 x.2) s)
  rw [runX_bind, h s]
  generalize runX (p (s.r, s.af)) s = z
  obtain ⟨⟨a, r⟩, t⟩ := z
  show G a (t.wr r) = outX (runX (q a r) t)
  rw [k a (t.wr r)]
  show outX (runX (q a r) (t.wr r)) = _
  rw [runX_wr]
  rfl
theorem Is.idle : Is idleX (putW 0 0 0) := fun s => by
  show ((), s.put 0 0 0) = ((), (s.put 0 0 0).wr (s.r, s.af))
  rw [put_ra]
theorem Is.put (k a v : Nat) : Is (fun s => ((), s.put k a v)) (putW k a v) := fun s => by
  show ((), s.put k a v) = ((), (s.put k a v).wr (s.r, s.af))
  rw [put_ra]
theorem read_ra (a : Nat) (s : Xs) : (readX a s).2.wr (s.r, s.af) = (readX a s).2 := by
  unfold readX takeX Xs.put Xs.wr
  split <;> split <;> rfl
theorem Is.read (a : Nat) : Is (readX a) (readW a) := fun s => by
  show readX a s = ((readX a s).1, (readX a s).2.wr (s.r, s.af))
  rw [read_ra]
theorem Is.get : Is getX getW := fun s => rfl
theorem Is.set (g : Rg → Rg) : Is (setX g) (setW g) := fun s => rfl
theorem Is.ite {α : Type} {c : Prop} [Decidable c] {F G : X α} {p q : Wp α} (h : Is F p) (k : Is G q) : Is (if c then F else G) (if c then p else q) := by
  split
  · exact h
  · exact k
def incW : Wp Unit := setW fun r => { r with PC := (r.PC + 1) % 65536 }
theorem Is.inc : Is incX incW := fun s => rfl
def numW (F : Nat → Wp Nat) : Nat → Wp Nat
  | 0 => pureW 0
  | k + 1 => bindW (numW F k) fun n => bindW (F k) fun v => pureW (n + v * 256 ^ k)
theorem Is.num {F : Nat → X Nat} {p : Nat → Wp Nat} (h : ∀ i, Is (F i) (p i)) : ∀ m, Is (numX F m) (numW p m)
  | 0 => Is.pure 0
  | k + 1 => Is.bind (Is.num h k) fun n => Is.bind (h k) fun v => Is.pure _
def fetch1W : Wp Nat := bindW getW fun r => bindW (readW (r.K * 65536 + r.PC)) fun v => bindW incW fun _ => pureW v
theorem Is.fetch1 : Is fetch1X fetch1W := Is.bind Is.get fun r => Is.bind (Is.read _) fun v => Is.bind Is.inc fun _ => Is.pure _
def fetchW (m : Nat) : Wp Nat := numW (fun _ => fetch1W) m
theorem Is.fetch (m : Nat) : Is (fetchX m) (fetchW m) := Is.num (fun _ => Is.fetch1) m
def at1W (bk n i : Nat) : Wp Nat := readW (bk * 65536 + (n + i) % 65536)
def readAtW (bk n m : Nat) : Wp Nat := numW (at1W bk n) m
theorem Is.readAt (bk n m : Nat) : Is (readAtX bk n m) (readAtW bk n m) := Is.num (fun i => Is.read _) m
def writeAtW (bk n v : Nat) : Wp Unit := putW 2 (bk * 65536 + n % 65536) v
theorem Is.writeAt (bk n v : Nat) : Is (writeAtX bk n v) (writeAtW bk n v) := Is.put _ _ _

/-! The document's plan: written out whole, then cut. -/
structure Ds where
  r : Rg
  n : Nat
  f : Nat → Nat
  l : List (Nat × Nat × Nat)
  c : Nat
  af : Nat
abbrev D (α : Type) : Type := Ds → α × Ds
def pureD {α : Type} (a : α) : D α := fun s => (a, s)
def bindD {α β : Type} (F : D α) (G : α → D β) : D β := fun s => G (F s).1 (F s).2
def Ds.put (s : Ds) (k a v : Nat) : Ds := { s with l := s.l ++ [(k, a, v)] }
def Ds.byte (s : Ds) : Nat := if s.c < s.n then s.f s.c else 0
def readD (a : Nat) : D Nat := fun s => (s.byte, { s with l := s.l ++ [(1, a % 16777216, 0)], c := s.c + 1 })
def getD : D Rg := fun s => (s.r, s)
def setD (g : Rg → Rg) : D Unit := fun s => ((), { s with r := g s.r })
def runD {α : Type} : Pg α → Ds → α × Ds
  | .ret a, s => (a, s)
  | .put k a v p, s => runD p (s.put k a v)
  | .read a p, s => runD (p (readD a s).1) (readD a s).2
def nreads (l : List (Nat × Nat × Nat)) : Nat := l.countP fun x => x.1 == 1
def cutL : Nat → List (Nat × Nat × Nat) → List (Nat × Nat × Nat)
  | _, [] => []
  | n, x :: l => if x.1 = 1 then (if n = 0 then [x] else x :: cutL (n - 1) l) else x :: cutL n l
theorem nreads_cons (x : Nat × Nat × Nat) (l : List (Nat × Nat × Nat)) : nreads (x :: l) = nreads l + if x.1 = 1 then 1 else 0 := by
  unfold nreads
  rw [List.countP_cons]
  congr 1
  simp
theorem cutL_all : ∀ (l : List (Nat × Nat × Nat)) (n : Nat), nreads l ≤ n → cutL n l = l
  | [], _, _ => rfl
  | x :: l, n, h => by
    rw [nreads_cons] at h
    unfold cutL
    by_cases hx : x.1 = 1
    · rw [if_pos hx] at h ⊢
      rw [if_neg (by omega), cutL_all l (n - 1) (by omega)]
    · rw [if_neg hx] at h ⊢
      rw [cutL_all l n (by omega)]
theorem cutL_more : ∀ (l m : List (Nat × Nat × Nat)) (n : Nat), n < nreads l → cutL n (l ++ m) = cutL n l
  | [], _, _, h => absurd h (Nat.not_lt_zero _)
  | x :: l, m, n, h => by
    rw [nreads_cons] at h
    rw [List.cons_append]
    unfold cutL
    by_cases hx : x.1 = 1
    · rw [if_pos hx] at h
      rw [if_pos hx, if_pos hx]
      by_cases hn : n = 0
      · rw [if_pos hn, if_pos hn]
      · rw [if_neg hn, if_neg hn, cutL_more l m (n - 1) (by omega)]
    · rw [if_neg hx] at h
      rw [if_neg hx, if_neg hx, cutL_more l m n (by omega)]
theorem cutL_at : ∀ (l : List (Nat × Nat × Nat)) (x : Nat × Nat × Nat) (n : Nat), nreads l ≤ n → cutL n (l ++ [x]) = l ++ [x]
  | [], x, n, _ => by
    show cutL n [x] = [x]
    unfold cutL
    split
    · split
      · rfl
      · rfl
    · rfl
  | y :: l, x, n, h => by
    rw [nreads_cons] at h
    rw [List.cons_append]
    unfold cutL
    by_cases hx : y.1 = 1
    · rw [if_pos hx] at h ⊢
      rw [if_neg (by omega), cutL_at l x (n - 1) (by omega)]
    · rw [if_neg hx] at h ⊢
      rw [cutL_at l x n (by omega)]
theorem nreads_snoc (l : List (Nat × Nat × Nat)) (x : Nat × Nat × Nat) : nreads (l ++ [x]) = nreads l + if x.1 = 1 then 1 else 0 := by
  unfold nreads
  rw [List.countP_append, List.countP_singleton]
  congr 1
  simp
/-- A runner that walks, beside the plan that the document writes out. -/
structure Twin (s : Xs) (d : Ds) : Prop where
  cnt : d.c = nreads d.l
  left : s.n = d.n - d.c
  byte : ∀ i, i < s.n → s.f i = d.f (d.c + i)
  list : s.l = cutL d.n d.l
  stop : s.st = decide (d.n < d.c)
theorem Twin.put {s : Xs} {d : Ds} (h : Twin s d) (k a v : Nat) (hk : k ≠ 1) : Twin (s.put k a v) (d.put k a v) := by
  have e := nreads_snoc d.l (k, a, v)
  rw [if_neg hk, Nat.add_zero] at e
  have hc := h.cnt
  have hs := h.stop
  unfold Xs.put Ds.put
  by_cases hlt : d.n < d.c
  · rw [if_pos (by rw [hs]; exact decide_eq_true hlt)]
    exact ⟨by show d.c = nreads _; rw [e, hc], h.left, h.byte, by show s.l = cutL d.n (d.l ++ _); rw [cutL_more _ _ _ (by omega)]; exact h.list, hs⟩
  · rw [if_neg (by rw [hs]; simpa using hlt)]
    exact ⟨by show d.c = nreads _; rw [e, hc], h.left, h.byte, by show s.l ++ _ = cutL d.n (d.l ++ _); rw [cutL_at _ _ _ (by omega), h.list, cutL_all _ _ (by omega)], hs⟩
theorem Twin.read {s : Xs} {d : Ds} (h : Twin s d) (a : Nat) : (readX a s).1 = (readD a d).1 ∧ Twin (readX a s).2 (readD a d).2 := by
  have e := nreads_snoc d.l (1, a % 16777216, 0)
  rw [if_pos rfl] at e
  have hc := h.cnt
  have hs := h.stop
  have hn := h.left
  have hl := h.list
  have hb := h.byte
  generalize a % 16777216 = x at *
  have hx : readX a s = takeX (s.put 1 (a % 16777216) 0) := rfl
  unfold readX readD Ds.byte takeX Xs.put
  by_cases hlt : d.n < d.c
  · have hst : s.st = true := by rw [hs]; exact decide_eq_true hlt
    have hn0 : s.n = 0 := by omega
    rw [if_pos hst, if_pos hn0, if_neg (by omega)]
    refine ⟨rfl, ?_⟩
    exact ⟨by show d.c + 1 = nreads _; rw [nreads_snoc, if_pos rfl, hc], by show s.n = d.n - (d.c + 1); omega, fun i (hi : i < s.n) => by omega, by show s.l = cutL d.n (d.l ++ _); rw [cutL_more _ _ _ (by omega)]; exact hl, by show true = _; exact (decide_eq_true (show d.n < d.c + 1 by omega)).symm⟩
  · have hst : ¬ s.st = true := by rw [hs]; simpa using hlt
    rw [if_neg hst]
    have hl2 : ∀ y, s.l ++ [y] = cutL d.n (d.l ++ [y]) := fun y => by rw [cutL_at _ _ _ (by omega), hl, cutL_all _ _ (by omega)]
    by_cases hn0 : s.n = 0
    · dsimp only
      rw [if_pos hn0, if_neg (by omega)]
      refine ⟨rfl, ?_⟩
      exact ⟨by show d.c + 1 = nreads _; rw [nreads_snoc, if_pos rfl, hc], by show s.n = d.n - (d.c + 1); omega, fun i (hi : i < s.n) => by omega, hl2 _, by show true = _; exact (decide_eq_true (show d.n < d.c + 1 by omega)).symm⟩
    · dsimp only
      rw [if_neg hn0, if_pos (by omega)]
      refine ⟨by show s.f 0 = d.f d.c; rw [hb 0 (by omega), Nat.add_zero], ?_⟩
      exact ⟨by show d.c + 1 = nreads _; rw [nreads_snoc, if_pos rfl, hc], by show s.n - 1 = d.n - (d.c + 1); omega, fun i (hi : i < s.n - 1) => by show s.f (i + 1) = d.f (d.c + 1 + i); rw [hb (i + 1) (by omega)]; congr 1; omega, hl2 _, by show s.st = _; rw [hs]; simp; omega⟩
/-- Only reads are called reads. -/
inductive Fair {α : Type} : Pg α → Prop where
  | ret (a : α) : Fair (.ret a)
  | put (k a v : Nat) (p : Pg α) : k ≠ 1 → Fair p → Fair (.put k a v p)
  | read (a : Nat) (p : Nat → Pg α) : (∀ v, Fair (p v)) → Fair (.read a p)
theorem run_twin {α : Type} (p : Pg α) (hp : Fair p) : ∀ s d, Twin s d → (runX p s).1 = (runD p d).1 ∧ Twin (runX p s).2 (runD p d).2 := by
  induction hp with
  | ret a => intro s d h; exact ⟨rfl, h⟩
  | put k a v p hk _ ih => intro s d h; exact ih _ _ (h.put k a v hk)
  | read a p _ ih =>
    intro s d h
    obtain ⟨h1, h2⟩ := h.read a
    show (runX (p (readX a s).1) (readX a s).2).1 = (runD (p (readD a d).1) (readD a d).2).1 ∧ _
    rw [← h1]
    have := ih (readX a s).1 _ _ h2
    refine ⟨this.1, ?_⟩
    show Twin (runX (p (readX a s).1) (readX a s).2).2 (runD (p (readD a d).1) (readD a d).2).2
    rw [← h1]
    exact this.2

/-- A plan, walked. -/
def wx {α : Type} (p : Wp α) : X α := fun s => outX (runX (p (s.r, s.af)) s)
theorem Is.eq {α : Type} {F : X α} {p : Wp α} (h : Is F p) : wx p = F := funext fun s => (h s).symm
theorem wx_bind {α β : Type} (p : Wp α) (q : α → Wp β) (s : Xs) : wx (bindW p q) s = wx (q (wx p s).1) (wx p s).2 := (Is.bind (p := p) (F := wx p) (fun s => rfl) (q := q) (G := fun a => wx (q a)) (fun a s => rfl) s).symm
theorem wx_pure {α : Type} (a : α) (s : Xs) : wx (pureW a) s = (a, s) := rfl
theorem wx_get (s : Xs) : wx getW s = (s.r, s) := rfl
theorem wx_set (g : Rg → Rg) (s : Xs) : wx (setW g) s = ((), { s with r := g s.r }) := rfl
theorem wx_after (n : Nat) (s : Xs) : wx (afterW n) s = ((), { s with af := n }) := rfl
theorem wx_idle (s : Xs) : wx (putW 0 0 0) s = idleX s := (Is.idle s).symm
/-- A plan, written out. -/
def Ds.wr (s : Ds) (r : Ra) : Ds := { s with r := r.1, af := r.2 }
def outD {α : Type} (p : (α × Ra) × Ds) : α × Ds := (p.1.1, p.2.wr p.1.2)
def wd {α : Type} (p : Wp α) : D α := fun s => outD (runD (p (s.r, s.af)) s)
theorem runD_wr {α : Type} (p : Pg α) : ∀ (s : Ds) (r : Ra), runD p (s.wr r) = ((runD p s).1, (runD p s).2.wr r) := by
  induction p with
  | ret a => intro s r; rfl
  | put k a v p ih => intro s r; exact ih (s.put k a v) r
  | read a p ih => intro s r; exact ih (readD a s).1 (readD a s).2 r
theorem runD_bind {α β : Type} (p : Pg α) (g : α → Pg β) : ∀ s, runD (p.bind g) s = runD (g (runD p s).1) (runD p s).2 := by
  induction p with
  | ret a => intro s; rfl
  | put k a v p ih => intro s; simp only [Pg.bind, runD, ih]
  | read a p ih => intro s; simp only [Pg.bind, runD, ih]
theorem wd_bind {α β : Type} (p : Wp α) (q : α → Wp β) (s : Ds) : wd (bindW p q) s = wd (q (wd p s).1) (wd p s).2 := by
  show outD (runD ((p (s.r, s.af)).bind fun x => q x.1 x.2) s) = outD (runD (q (runD (p (s.r, s.af)) s).1.1 (runD (p (s.r, s.af)) s).1.2) ((runD (p (s.r, s.af)) s).2.wr (runD (p (s.r, s.af)) s).1.2))
  rw [runD_bind, runD_wr]
  rfl
theorem wd_pure {α : Type} (a : α) (s : Ds) : wd (pureW a) s = (a, s) := rfl
theorem wd_get (s : Ds) : wd getW s = (s.r, s) := rfl
theorem wd_set (g : Rg → Rg) (s : Ds) : wd (setW g) s = ((), { s with r := g s.r }) := rfl
theorem wd_after (n : Nat) (s : Ds) : wd (afterW n) s = ((), { s with af := n }) := rfl
theorem wd_put (k a v : Nat) (s : Ds) : wd (putW k a v) s = ((), s.put k a v) := rfl
theorem wd_read (a : Nat) (s : Ds) : wd (readW a) s = readD a s := rfl
/-- A plan that calls only reads reads. -/
def Fine {α : Type} (p : Wp α) : Prop := ∀ r, Fair (p r)
theorem Fair.bind {α β : Type} {p : Pg α} {g : α → Pg β} (h : Fair p) (k : ∀ a, Fair (g a)) : Fair (p.bind g) := by
  induction h with
  | ret a => exact k a
  | put k a v p hk _ ih => exact .put _ _ _ _ hk ih
  | read a p _ ih => exact .read _ _ ih
theorem Fine.pure {α : Type} (a : α) : Fine (pureW a) := fun r => .ret _
theorem Fine.bind {α β : Type} {p : Wp α} {q : α → Wp β} (h : Fine p) (k : ∀ a, Fine (q a)) : Fine (bindW p q) := fun r => (h r).bind fun x => k x.1 x.2
theorem Fine.put (k a v : Nat) (h : k ≠ 1) : Fine (putW k a v) := fun r => .put _ _ _ _ h (.ret _)
theorem Fine.read (a : Nat) : Fine (readW a) := fun r => .read _ _ fun v => .ret _
theorem Fine.get : Fine getW := fun r => .ret _
theorem Fine.set (g : Rg → Rg) : Fine (setW g) := fun r => .ret _
theorem Fine.after (n : Nat) : Fine (afterW n) := fun r => .ret _
theorem Fine.ite {α : Type} {c : Prop} [Decidable c] {p q : Wp α} (h : Fine p) (k : Fine q) : Fine (if c then p else q) := by
  split
  · exact h
  · exact k
theorem Fine.num {p : Nat → Wp Nat} (h : ∀ i, Fine (p i)) : ∀ m, Fine (numW p m)
  | 0 => Fine.pure 0
  | k + 1 => Fine.bind (Fine.num h k) fun n => Fine.bind (h k) fun v => Fine.pure _
theorem Fine.fetch (m : Nat) : Fine (fetchW m) := Fine.num (fun _ => Fine.bind Fine.get fun r => Fine.bind (Fine.read _) fun v => Fine.bind (Fine.set _) fun _ => Fine.pure _) m
theorem Fine.readAt (bk n m : Nat) : Fine (readAtW bk n m) := Fine.num (fun i => Fine.read _) m
theorem Fine.writeAt (bk n v : Nat) : Fine (writeAtW bk n v) := Fine.put _ _ _ (by decide)
/-- Both ways, side by side. -/
theorem both {α : Type} {p : Wp α} (h : Fine p) {s : Xs} {d : Ds} (ht : Twin s d) (hr : s.r = d.r) (ha : s.af = d.af) : (wx p s).1 = (wd p d).1 ∧ (wx p s).2.r = (wd p d).2.r ∧ (wx p s).2.af = (wd p d).2.af ∧ Twin (wx p s).2 (wd p d).2 := by
  have h1 := run_twin _ (h (s.r, s.af)) s d ht
  have e : (d.r, d.af) = (s.r, s.af) := by rw [hr, ha]
  unfold wx wd outX outD Xs.wr Ds.wr
  rw [e]
  generalize runX (p (s.r, s.af)) s = x at *
  generalize runD (p (s.r, s.af)) d = y at *
  obtain ⟨h1, h2⟩ := h1
  rw [h1]
  exact ⟨rfl, rfl, rfl, ⟨h2.cnt, h2.left, h2.byte, h2.list, h2.stop⟩⟩
end Go.Proofs.YtnacdaodjgdnnaaGreat
namespace Go.Proofs.YtnacdaodjgdnnaaGreat
open Go.RowKit Go.Shelf
set_option maxRecDepth 100000
set_option maxHeartbeats 1000000
set_option linter.unusedVariables false

theorem layT_cell (W : World) (T g i : Nat) (v0 v1 v2 v3 v4 v5 v6 v7 v8 v9 v10 v11 v12 : Value) (h : g ≠ T) : (layT W T v0 v1 v2 v3 v4 v5 v6 v7 v8 v9 v10 v11 v12).cell? ⟨g, i, none⟩ = W.cell? ⟨g, i, none⟩ := by
  have hb : ∀ (V : World) (j : Nat) (v : Value), (V.setCell ⟨T, j, none⟩ v).cell? ⟨g, i, none⟩ = V.cell? ⟨g, i, none⟩ := fun V j v => by
    unfold World.cell?
    rw [show (V.setCell ⟨T, j, none⟩ v).heap[(⟨g, i, none⟩ : Addr).block]? = V.heap[(⟨g, i, none⟩ : Addr).block]? from Below.heap_setCell V ⟨T, j, none⟩ v g h]
  unfold layT
  simp only [hb]
/-- What a runner's cells say. -/
def RnS (b : Nat) (s : Xs) (lv : Value) (V : World) : Prop :=
  V.cell? ⟨b, 11, none⟩ = some lv ∧ V.cell? ⟨b, 18, none⟩ = some (.int .u8 s.af) ∧ V.cell? ⟨b, 0, none⟩ = some (.int .u16 s.r.A) ∧ V.cell? ⟨b, 1, none⟩ = some (.int .u16 s.r.X) ∧ V.cell? ⟨b, 2, none⟩ = some (.int .u16 s.r.Y) ∧ V.cell? ⟨b, 3, none⟩ = some (.int .u16 s.r.S) ∧ V.cell? ⟨b, 4, none⟩ = some (.int .u16 s.r.D) ∧ V.cell? ⟨b, 5, none⟩ = some (.int .u16 s.r.PC) ∧ V.cell? ⟨b, 6, none⟩ = some (.int .u8 s.r.B) ∧ V.cell? ⟨b, 7, none⟩ = some (.int .u8 s.r.K) ∧ V.cell? ⟨b, 8, none⟩ = some (.int .u8 s.r.P) ∧ V.cell? ⟨b, 9, none⟩ = some (.bool s.r.E)
theorem Whole.rnS {w : World} {b : Nat} {s : Xs} {sv lv : Value} (h : Whole w b 104 (rnC s.r sv lv s.st s.cd s.af)) : RnS b s lv w := by
  unfold RnS
  rw [h.cell, h.cell, h.cell, h.cell, h.cell, h.cell, h.cell, h.cell, h.cell, h.cell, h.cell, h.cell]
  exact ⟨rfl, rfl, rfl, rfl, rfl, rfl, rfl, rfl, rfl, rfl, rfl, rfl⟩
theorem turn_on {W0 w : World} {B b : Nat} {s : Xs} (h : Xk W0 B b s w) (hs : s.st = false) :
    Calls Tryz.prog 61 #[.pointer (some ⟨b, 0, none⟩)] w fun e w' => ∃ lv, e = .returned (.agg #[lv, .bool true, .int .u16 s.r.settle.A, .int .u16 s.r.settle.X, .int .u16 s.r.settle.Y, .int .u16 s.r.settle.S, .int .u16 s.r.settle.D, .int .u16 s.r.settle.PC, .int .u8 s.r.settle.B, .int .u8 s.r.settle.K, .int .u8 s.r.settle.P, .bool s.r.settle.E, .int .u8 s.af]) ∧ w'.ownsRow B 35 3 lv s.l.length (accX s.l) ∧ Below B W0 w' := by
  obtain ⟨sa, c, lv, hc, _, _, ho⟩ := h.cells
  obtain ⟨la, lc, rfl⟩ : ∃ la lc, lv = .slice la s.l.length lc := by
    rcases ho.2 with ⟨e, h0⟩ | ⟨g, cap, cur, e, _⟩
    · exact ⟨none, 0, by rw [e, h0]⟩
    · exact ⟨_, _, e⟩
  have HS := fun W => settle_any s.r W h.ok
  have hlt : B ≤ w.heap.size := by have := h.bel.size; have := h.base; omega
  have hC := hc.alloc (.cells #[.slice none 0 0, .bool false, .int .u16 0, .int .u16 0, .int .u16 0, .int .u16 0, .int .u16 0, .int .u16 0, .int .u8 0, .int .u8 0, .int .u8 0, .bool false, .int .u8 0] 29)
  have hO := ho.alloc (.cells #[.slice none 0 0, .bool false, .int .u16 0, .int .u16 0, .int .u16 0, .int .u16 0, .int .u16 0, .int .u16 0, .int .u8 0, .int .u8 0, .int .u8 0, .bool false, .int .u8 0] 29)
  have hB := h.bel.alloc hlt (.cells #[.slice none 0 0, .bool false, .int .u16 0, .int .u16 0, .int .u16 0, .int .u16 0, .int .u16 0, .int .u16 0, .int .u8 0, .int .u8 0, .int .u8 0, .bool false, .int .u8 0] 29)
  have hT := Whole.fresh w 29 #[.slice none 0 0, .bool false, .int .u16 0, .int .u16 0, .int .u16 0, .int .u16 0, .int .u16 0, .int .u16 0, .int .u8 0, .int .u8 0, .int .u8 0, .bool false, .int .u8 0]
  have c12 := hC.cell 12
  unfold rnC at c12
  simp only [List.getElem?_toArray, List.getElem?_cons_zero, List.getElem?_cons_succ] at c12
  rw [hs] at c12
  obtain ⟨V, hV⟩ : ∃ V, w.alloc (.cells #[.slice none 0 0, .bool false, .int .u16 0, .int .u16 0, .int .u16 0, .int .u16 0, .int .u16 0, .int .u16 0, .int .u8 0, .int .u8 0, .int .u8 0, .bool false, .int .u8 0] 29) = V := ⟨_, rfl⟩
  rw [hV] at hC hO hB hT c12
  obtain ⟨T, hTe⟩ : ∃ T, w.heap.size = T := ⟨_, rfl⟩
  rw [hTe] at hT hlt
  have hbT : b ≠ T := by have := hc.lt; omega
  have hcells := fun (W : World) (hb : Below V.heap.size V W) => (hC.below hb hC.lt).rnS
  have hBV : B ≤ V.heap.size := by have := hB.size; have := h.base; omega
  have hfin := fun (W : World) (hb : Below V.heap.size V W) (v : Rg) => layT_fin (.slice la s.l.length lc) (.bool true) (.int .u16 (v.A : Nat)) (.int .u16 (v.X : Nat)) (.int .u16 (v.Y : Nat)) (.int .u16 (v.S : Nat)) (.int .u16 (v.D : Nat)) (.int .u16 (v.PC : Nat)) (.int .u8 (v.B : Nat)) (.int .u8 (v.K : Nat)) (.int .u8 (v.P : Nat)) (.bool v.E) (.int .u8 (s.af : Nat)) (hT.below hb hT.lt)
    (hO.kept (row := none) ⟨hb.os, hb.tape, hb.output, hb.size, fun k hk _ => hb.block k hk⟩ (by cases (Value.slice la s.l.length lc).ownBlock <;> simp)) (own_apart hO hT (by decide)) (hB.trans (hb.mono hBV)) hlt
  have hkeep := fun (W : World) (hW : RnS b s (.slice la s.l.length lc) W) (v : Rg) => (show RnS b s (.slice la s.l.length lc) (layT W T (.slice la s.l.length lc) (.bool true) (.int .u16 (v.A : Nat)) (.int .u16 (v.X : Nat)) (.int .u16 (v.Y : Nat)) (.int .u16 (v.S : Nat)) (.int .u16 (v.D : Nat)) (.int .u16 (v.PC : Nat)) (.int .u8 (v.B : Nat)) (.int .u8 (v.K : Nat)) (.int .u8 (v.P : Nat)) (.bool v.E) (.int .u8 (s.af : Nat))) from by
    unfold RnS at hW ⊢
    simp only [layT_cell _ _ _ _ _ _ _ _ _ _ _ _ _ _ _ _ _ hbT]
    exact hW)
  have hT2 := fun (W : World) (hb : Below V.heap.size V W) => hT.below hb hT.lt
  have hd : Below V.heap.size V V.drew := Below.drew (Below.refl _ _)
  have q0 := hcells _ hd
  have htr := fun (W : World) (hb : Below V.drew.heap.size V.drew W) => hd.trans hb
  unfold layT at hfin hkeep
  unfold Rg.v rgC at HS
  generalize s.r.settle = v at *
  unfold RnS at hcells hkeep q0
  replace hfin := Lib.hid hfin
  replace hkeep := Lib.hid hkeep
  replace HS := Lib.hid HS
  replace hcells := Lib.hid hcells
  replace hT2 := Lib.hid hT2
  replace htr := Lib.hid htr
  obtain ⟨L, hL⟩ : ∃ L, s.l.length = L := ⟨_, rfl⟩
  rw [hL] at hfin hkeep hcells q0 ⊢
  clear h hc ho hC hO hB hT hs hd hL
  generalize s.r.A = rA at *
  generalize s.r.X = rX at *
  generalize s.r.Y = rY at *
  generalize s.r.S = rS at *
  generalize s.r.D = rD at *
  generalize s.r.PC = rPC at *
  generalize s.r.B = rB at *
  generalize s.r.K = rK at *
  generalize s.r.P = rP at *
  generalize s.r.E = rE at *
  generalize s.af = af at *
  go_enter Tryz.func61, Tryz.ntmps61
  go_upto_region 1 with (fail)
  clear hV hTe
  go_upto_region 3 with (fail)
  go_region_held3 (fun V => V.cell? ⟨b, 11, none⟩ = some (.slice la L lc) ∧ V.cell? ⟨b, 18, none⟩ = some (.int .u8 af) ∧ V.cell? ⟨b, 0, none⟩ = some (.int .u16 rA) ∧ V.cell? ⟨b, 1, none⟩ = some (.int .u16 rX) ∧ V.cell? ⟨b, 2, none⟩ = some (.int .u16 rY) ∧ V.cell? ⟨b, 3, none⟩ = some (.int .u16 rS) ∧ V.cell? ⟨b, 4, none⟩ = some (.int .u16 rD) ∧ V.cell? ⟨b, 5, none⟩ = some (.int .u16 rPC) ∧ V.cell? ⟨b, 6, none⟩ = some (.int .u8 rB) ∧ V.cell? ⟨b, 7, none⟩ = some (.int .u8 rK) ∧ V.cell? ⟨b, 8, none⟩ = some (.int .u8 rP) ∧ V.cell? ⟨b, 9, none⟩ = some (.bool rE))
    (first | with_reducible exact q0 | with_reducible exact hcells.out _ (htr.out _ hb2) | with_reducible exact hkeep.out _ (hcells.out _ (htr.out _ hb2)) _ | go_keep)
    (first | (go_at_call 28; (with_reducible refine (HS.out _).mono ?_); rintro e W2 ⟨rfl, hb2⟩; have hT3 := hT2.out _ (htr.out _ hb2); have t0 : W2.cell? ⟨T, 0, none⟩ = some (.slice none 0 0) := (by rw [hT3.cell]; rfl); have f0 := hT3.free 0; have t1 : W2.cell? ⟨T, 1, none⟩ = some (.bool false) := (by rw [hT3.cell]; rfl); have f1 := hT3.free 1; have t2 : W2.cell? ⟨T, 2, none⟩ = some (.int .u16 0) := (by rw [hT3.cell]; rfl); have f2 := hT3.free 2; have t3 : W2.cell? ⟨T, 3, none⟩ = some (.int .u16 0) := (by rw [hT3.cell]; rfl); have f3 := hT3.free 3; have t4 : W2.cell? ⟨T, 4, none⟩ = some (.int .u16 0) := (by rw [hT3.cell]; rfl); have f4 := hT3.free 4; have t5 : W2.cell? ⟨T, 5, none⟩ = some (.int .u16 0) := (by rw [hT3.cell]; rfl); have f5 := hT3.free 5; have t6 : W2.cell? ⟨T, 6, none⟩ = some (.int .u16 0) := (by rw [hT3.cell]; rfl); have f6 := hT3.free 6; have t7 : W2.cell? ⟨T, 7, none⟩ = some (.int .u16 0) := (by rw [hT3.cell]; rfl); have f7 := hT3.free 7; have t8 : W2.cell? ⟨T, 8, none⟩ = some (.int .u8 0) := (by rw [hT3.cell]; rfl); have f8 := hT3.free 8; have t9 : W2.cell? ⟨T, 9, none⟩ = some (.int .u8 0) := (by rw [hT3.cell]; rfl); have f9 := hT3.free 9; have t10 : W2.cell? ⟨T, 10, none⟩ = some (.int .u8 0) := (by rw [hT3.cell]; rfl); have f10 := hT3.free 10; have t11 : W2.cell? ⟨T, 11, none⟩ = some (.bool false) := (by rw [hT3.cell]; rfl); have f11 := hT3.free 11; have t12 : W2.cell? ⟨T, 12, none⟩ = some (.int .u8 0) := (by rw [hT3.cell]; rfl); have f12 := hT3.free 12; have hfn := Lib.hid (hfin.out _ (htr.out _ hb2) v)))
  go_wp2_with fail
  exact bodyPost_ret (results_cell_row (fn := Tryz.f61) (p := 2) (ty := 29) rfl _ _ _ _ _ (0, 0) _ rfl hfn.out.1 Tryz.underlying29 rfl (by kernel_rfl)) rfl ⟨_, rfl, hfn.out.2⟩
end Go.Proofs.YtnacdaodjgdnnaaGreat
namespace Go.Proofs.YtnacdaodjgdnnaaGreat
open Go.RowKit Go.Shelf
set_option maxRecDepth 100000
set_option maxHeartbeats 1000000
set_option linter.unusedVariables false

/-- A turn's value. -/
def tnV (lv : Value) (d : Bool) (r : Rg) (a : Nat) : Value := .agg #[lv, .bool d, .int .u16 r.A, .int .u16 r.X, .int .u16 r.Y, .int .u16 r.S, .int .u16 r.D, .int .u16 r.PC, .int .u8 r.B, .int .u8 r.K, .int .u8 r.P, .bool r.E, .int .u8 a]
def rg0 : Rg := ⟨0, 0, 0, 0, 0, 0, 0, 0, 0, false⟩
def Xs.tr (s : Xs) : Rg := if s.st then rg0 else s.r.settle
def Xs.ta (s : Xs) : Nat := if s.st then 0 else s.af
theorem row_base {w : World} {B B' : Nat} {e : TypeId} {s n : Nat} {v : Value} {xs : List Value} (h : w.ownsRow B' e s v n xs) (hB : B ≤ B') : w.ownsRow B e s v n xs :=
  ⟨h.1, h.2.imp id fun ⟨g, cap, cur, h1, h2, h3⟩ => ⟨g, cap, cur, h1, Nat.le_trans hB h2, h3⟩⟩
theorem row_slice {w : World} {B : Nat} {e : TypeId} {s n : Nat} {v : Value} {xs : List Value} (h : w.ownsRow B e s v n xs) : ∃ la lc, v = .slice la n lc := by
  rcases h.2 with ⟨e, h0⟩ | ⟨g, cap, cur, e, _⟩
  · exact ⟨none, 0, by rw [e, h0]⟩
  · exact ⟨_, _, e⟩
theorem turn_any {W0 w : World} {B b : Nat} {s : Xs} (h : Xk W0 B b s w) :
    Calls Tryz.prog 61 #[.pointer (some ⟨b, 0, none⟩)] w fun e w' => ∃ lv, e = .returned (tnV lv (!s.st) s.tr s.ta) ∧ w'.ownsRow B 35 3 lv s.l.length (accX s.l) ∧ Below B W0 w' := by
  unfold Xs.tr Xs.ta
  cases hs : s.st with
  | true =>
    rw [if_pos rfl, if_pos rfl]
    exact turn_stopped h hs
  | false =>
    rw [if_neg (by decide), if_neg (by decide)]
    exact turn_on h hs
theorem layT_put (W : World) (T : Nat) (v0 v1 v2 v3 v4 v5 v6 v7 v8 v9 v10 v11 v12 : Value) : layT W T v0 v1 v2 v3 v4 v5 v6 v7 v8 v9 v10 v11 v12 = (((((((((((((W.setCell ⟨T, 0, none⟩ (v0)).setCell ⟨T, 1, none⟩ (v1)).setCell ⟨T, 2, none⟩ (v2)).setCell ⟨T, 3, none⟩ (v3)).setCell ⟨T, 4, none⟩ (v4)).setCell ⟨T, 5, none⟩ (v5)).setCell ⟨T, 6, none⟩ (v6)).setCell ⟨T, 7, none⟩ (v7)).setCell ⟨T, 8, none⟩ (v8)).setCell ⟨T, 9, none⟩ (v9)).setCell ⟨T, 10, none⟩ (v10)).setCell ⟨T, 11, none⟩ (v11)).setCell ⟨T, 12, none⟩ (v12)) := rfl
/-- What an interrupt runs. -/
def enterTopX (why : Nat) : X Unit := if why = 0 then resetX else if why = 1 ∨ why = 2 then interruptX why else pureX ()
theorem Row.alloc {w : World} {a : Option Addr} {n : Nat} {f : Nat → Nat} (h : Row w a n f) (o : Obj) : Row (w.alloc o) a n f := h.below ((Below.refl _ _).alloc (Nat.le_refl _) o)
/-- The last steps of a turn: it is laid where it is handed out from. -/
theorem enter_any_top (why : Nat) (r : Rg) (a : Option Addr) (n c : Nat) (f : Nat → Nat) (w : World) (hw : why < 256) (h : r.Ok) (hR : Row w a n f) (hnc : n ≤ c) :
    Calls Tryz.prog 21 #[.int .u8 (why : Nat), r.v, .slice a n c] w fun e w' => ∃ lv, e = .returned (tnV lv (!(enterTopX why ⟨r.settle, n, f, [], false, cd0, 0⟩).2.st) (enterTopX why ⟨r.settle, n, f, [], false, cd0, 0⟩).2.tr (enterTopX why ⟨r.settle, n, f, [], false, cd0, 0⟩).2.ta) ∧
      w'.ownsRow w.heap.size 35 3 lv (enterTopX why ⟨r.settle, n, f, [], false, cd0, 0⟩).2.l.length (accX (enterTopX why ⟨r.settle, n, f, [], false, cd0, 0⟩).2.l) ∧ Below w.heap.size w w' := by
  have hG := (Whole.fresh w 24 (rgC r.A r.X r.Y r.S r.D r.PC r.B r.K r.P r.E)).alloc (.cells #[.slice none 0 0, .bool false, .int .u16 0, .int .u16 0, .int .u16 0, .int .u16 0, .int .u16 0, .int .u16 0, .int .u8 0, .int .u8 0, .int .u8 0, .bool false, .int .u8 0] 29)
  have hB := ((Below.refl w.heap.size w).alloc (Nat.le_refl _) (.cells (rgC r.A r.X r.Y r.S r.D r.PC r.B r.K r.P r.E) 24)).alloc (by simp) (.cells #[.slice none 0 0, .bool false, .int .u16 0, .int .u16 0, .int .u16 0, .int .u16 0, .int .u16 0, .int .u16 0, .int .u8 0, .int .u8 0, .int .u8 0, .bool false, .int .u8 0] 29)
  have hT := Whole.fresh (w.alloc (.cells (rgC r.A r.X r.Y r.S r.D r.PC r.B r.K r.P r.E) 24)) 29 #[.slice none 0 0, .bool false, .int .u16 0, .int .u16 0, .int .u16 0, .int .u16 0, .int .u16 0, .int .u16 0, .int .u8 0, .int .u8 0, .int .u8 0, .bool false, .int .u8 0]
  have hR2 := (hR.alloc (.cells (rgC r.A r.X r.Y r.S r.D r.PC r.B r.K r.P r.E) 24)).alloc (.cells #[.slice none 0 0, .bool false, .int .u16 0, .int .u16 0, .int .u16 0, .int .u16 0, .int .u16 0, .int .u16 0, .int .u8 0, .int .u8 0, .int .u8 0, .bool false, .int .u8 0] 29)
  have hsz : (w.alloc (.cells (rgC r.A r.X r.Y r.S r.D r.PC r.B r.K r.P r.E) 24)).heap.size = w.heap.size + 1 := by simp
  rw [hsz] at hT
  generalize hV : (w.alloc (.cells (rgC r.A r.X r.Y r.S r.D r.PC r.B r.K r.P r.E) 24)).alloc (.cells #[.slice none 0 0, .bool false, .int .u16 0, .int .u16 0, .int .u16 0, .int .u16 0, .int .u16 0, .int .u16 0, .int .u8 0, .int .u8 0, .int .u8 0, .bool false, .int .u8 0] 29) = V at *
  have HR := runnerOf_any r a n c f V h hR2 hnc
  generalize hs0 : (⟨r.settle, n, f, [], false, cd0, 0⟩ : Xs) = s0 at *
  have hl0 : s0.l.length ≤ 80 := by rw [← hs0]; exact Nat.zero_le _
  have H0 := fun (b : Nat) (W : World) (hW : Xk V V.heap.size b s0 W) => reset_any hW hl0
  have H1 := fun (b : Nat) (W : World) (hW : Xk V V.heap.size b s0 W) => interrupt_any (why := why) hW hl0 hw
  have HT := fun (b : Nat) (s : Xs) (W : World) (hW : Xk V V.heap.size b s W) => turn_any hW
  have g0 := hG.cell 0
  have g1 := hG.cell 1
  have g2 := hG.cell 2
  have g3 := hG.cell 3
  have g4 := hG.cell 4
  have g5 := hG.cell 5
  have g6 := hG.cell 6
  have g7 := hG.cell 7
  have g8 := hG.cell 8
  have g9 := hG.cell 9
  unfold rgC at g0 g1 g2 g3 g4 g5 g6 g7 g8 g9 hV
  simp only [List.getElem?_toArray, List.getElem?_cons_zero, List.getElem?_cons_succ] at g0 g1 g2 g3 g4 g5 g6 g7 g8 g9
  have hszT : w.heap.size ≤ w.heap.size + 1 := Nat.le_succ _
  have hVs := hB.size
  have hTlt := hT.lt
  have hlast : ∀ (s : Xs) (lv : Value) (W : World) (d : Bool) (q : Rg) (z : Nat), W.ownsRow V.heap.size 35 3 lv s.l.length (accX s.l) → Below V.heap.size V W → (Whole W (w.heap.size + 1) 29 #[.slice none 0 0, .bool false, .int .u16 0, .int .u16 0, .int .u16 0, .int .u16 0, .int .u16 0, .int .u16 0, .int .u8 0, .int .u8 0, .int .u8 0, .bool false, .int .u8 0] ∧ Hid (Whole (layT W (w.heap.size + 1) lv (.bool d) (.int .u16 (q.A : Nat)) (.int .u16 (q.X : Nat)) (.int .u16 (q.Y : Nat)) (.int .u16 (q.S : Nat)) (.int .u16 (q.D : Nat)) (.int .u16 (q.PC : Nat)) (.int .u8 (q.B : Nat)) (.int .u8 (q.K : Nat)) (.int .u8 (q.P : Nat)) (.bool q.E) (.int .u8 (z : Nat))) (w.heap.size + 1) 29 #[lv, .bool d, .int .u16 (q.A : Nat), .int .u16 (q.X : Nat), .int .u16 (q.Y : Nat), .int .u16 (q.S : Nat), .int .u16 (q.D : Nat), .int .u16 (q.PC : Nat), .int .u8 (q.B : Nat), .int .u8 (q.K : Nat), .int .u8 (q.P : Nat), .bool q.E, .int .u8 (z : Nat)] ∧ (layT W (w.heap.size + 1) lv (.bool d) (.int .u16 (q.A : Nat)) (.int .u16 (q.X : Nat)) (.int .u16 (q.Y : Nat)) (.int .u16 (q.S : Nat)) (.int .u16 (q.D : Nat)) (.int .u16 (q.PC : Nat)) (.int .u8 (q.B : Nat)) (.int .u8 (q.K : Nat)) (.int .u8 (q.P : Nat)) (.bool q.E) (.int .u8 (z : Nat))).ownsRow w.heap.size 35 3 lv s.l.length (accX s.l) ∧ Below w.heap.size w (layT W (w.heap.size + 1) lv (.bool d) (.int .u16 (q.A : Nat)) (.int .u16 (q.X : Nat)) (.int .u16 (q.Y : Nat)) (.int .u16 (q.S : Nat)) (.int .u16 (q.D : Nat)) (.int .u16 (q.PC : Nat)) (.int .u8 (q.B : Nat)) (.int .u8 (q.K : Nat)) (.int .u8 (q.P : Nat)) (.bool q.E) (.int .u8 (z : Nat))))) :=
    fun s lv W d q z ho hb => by
      have hTw := hT.below hb hTlt
      exact ⟨hTw, Lib.hid (layT_fin lv (.bool d) _ _ _ _ _ _ _ _ _ (.bool q.E) _ hTw (row_base ho hVs) (own_apart ho hTw (by decide)) (hB.trans (hb.mono hVs)) hszT)⟩
  unfold layT at hlast
  unfold Rg.v rgC
  replace H0 := Lib.hid H0
  replace H1 := Lib.hid H1
  replace HT := Lib.hid HT
  replace HR := Lib.hid HR
  unfold Rg.v rgC at HR
  replace hlast := Lib.hid hlast
  clear hG hB hT hR2 hR hsz hl0 hszT hVs hTlt hnc hs0
  unfold tnV
  rcases (show why = 0 ∨ why = 1 ∨ why = 2 ∨ 2 < why by omega) with rfl | rfl | rfl | hgt
  · rw [show enterTopX 0 = resetX from rfl]
    generalize hse : (resetX s0).2 = s at *
    replace hse := Lib.hid hse
    go_enter Tryz.func21, Tryz.ntmps21
    go_upto_region 1 with (fail)
    clear hV
    go_wp2_with fail
    refine HR.out.mono ?_
    rintro e W1 ⟨b, rfl, hk0⟩
    replace hk0 := Lib.hid hk0
    clear HR
    go_wp2_with fail
    refine (H0.out _ _ hk0.out).mono ?_
    rintro e W2 ⟨rfl, hk, _⟩
    try rw [hse.out] at hk
    replace hk := Lib.hid hk
    clear H0 H1 hk0 hse
    go_wp2_with fail
    refine (HT.out _ _ _ hk.out).mono ?_
    rintro e W5 ⟨lv, rfl, ho, hb⟩
    obtain ⟨la, lc, rfl⟩ := row_slice ho

    obtain ⟨hTc, hfn⟩ := hlast.out s _ W5 (!s.st) s.tr s.ta ho hb
    have t0 := hTc.cell 0
    have f0 := hTc.free 0
    have t1 := hTc.cell 1
    have f1 := hTc.free 1
    have t2 := hTc.cell 2
    have f2 := hTc.free 2
    have t3 := hTc.cell 3
    have f3 := hTc.free 3
    have t4 := hTc.cell 4
    have f4 := hTc.free 4
    have t5 := hTc.cell 5
    have f5 := hTc.free 5
    have t6 := hTc.cell 6
    have f6 := hTc.free 6
    have t7 := hTc.cell 7
    have f7 := hTc.free 7
    have t8 := hTc.cell 8
    have f8 := hTc.free 8
    have t9 := hTc.cell 9
    have f9 := hTc.free 9
    have t10 := hTc.cell 10
    have f10 := hTc.free 10
    have t11 := hTc.cell 11
    have f11 := hTc.free 11
    have t12 := hTc.cell 12
    have f12 := hTc.free 12
    simp only [List.getElem?_toArray, List.getElem?_cons_zero, List.getElem?_cons_succ] at t0 t1 t2 t3 t4 t5 t6 t7 t8 t9 t10 t11 t12
    clear HT hk hTc ho hb hlast g0 g1 g2 g3 g4 g5 g6 g7 g8 g9
    unfold tnV
    go_wp2_with fail
    exact bodyPost_ret (results_cell_row (fn := Tryz.f21) (p := 6) (ty := 29) rfl _ _ _ _ _ (0, 0) _ rfl hfn.out.1 Tryz.underlying29 rfl (by kernel_rfl)) rfl ⟨_, rfl, hfn.out.2⟩
  · rw [show enterTopX 1 = interruptX 1 from rfl]
    generalize hse : (interruptX 1 s0).2 = s at *
    replace hse := Lib.hid hse
    go_enter Tryz.func21, Tryz.ntmps21
    go_upto_region 1 with (fail)
    clear hV
    go_wp2_with fail
    refine HR.out.mono ?_
    rintro e W1 ⟨b, rfl, hk0⟩
    replace hk0 := Lib.hid hk0
    clear HR
    go_wp2_with fail
    refine (H1.out _ _ hk0.out).mono ?_
    rintro e W2 ⟨rfl, hk, _⟩
    try rw [hse.out] at hk
    replace hk := Lib.hid hk
    clear H0 H1 hk0 hse
    go_wp2_with fail
    refine (HT.out _ _ _ hk.out).mono ?_
    rintro e W5 ⟨lv, rfl, ho, hb⟩
    obtain ⟨la, lc, rfl⟩ := row_slice ho

    obtain ⟨hTc, hfn⟩ := hlast.out s _ W5 (!s.st) s.tr s.ta ho hb
    have t0 := hTc.cell 0
    have f0 := hTc.free 0
    have t1 := hTc.cell 1
    have f1 := hTc.free 1
    have t2 := hTc.cell 2
    have f2 := hTc.free 2
    have t3 := hTc.cell 3
    have f3 := hTc.free 3
    have t4 := hTc.cell 4
    have f4 := hTc.free 4
    have t5 := hTc.cell 5
    have f5 := hTc.free 5
    have t6 := hTc.cell 6
    have f6 := hTc.free 6
    have t7 := hTc.cell 7
    have f7 := hTc.free 7
    have t8 := hTc.cell 8
    have f8 := hTc.free 8
    have t9 := hTc.cell 9
    have f9 := hTc.free 9
    have t10 := hTc.cell 10
    have f10 := hTc.free 10
    have t11 := hTc.cell 11
    have f11 := hTc.free 11
    have t12 := hTc.cell 12
    have f12 := hTc.free 12
    simp only [List.getElem?_toArray, List.getElem?_cons_zero, List.getElem?_cons_succ] at t0 t1 t2 t3 t4 t5 t6 t7 t8 t9 t10 t11 t12
    clear HT hk hTc ho hb hlast g0 g1 g2 g3 g4 g5 g6 g7 g8 g9
    unfold tnV
    go_wp2_with fail
    exact bodyPost_ret (results_cell_row (fn := Tryz.f21) (p := 6) (ty := 29) rfl _ _ _ _ _ (0, 0) _ rfl hfn.out.1 Tryz.underlying29 rfl (by kernel_rfl)) rfl ⟨_, rfl, hfn.out.2⟩
  · rw [show enterTopX 2 = interruptX 2 from rfl]
    generalize hse : (interruptX 2 s0).2 = s at *
    replace hse := Lib.hid hse
    go_enter Tryz.func21, Tryz.ntmps21
    go_upto_region 1 with (fail)
    clear hV
    go_wp2_with fail
    refine HR.out.mono ?_
    rintro e W1 ⟨b, rfl, hk0⟩
    replace hk0 := Lib.hid hk0
    clear HR
    go_wp2_with fail
    refine (H1.out _ _ hk0.out).mono ?_
    rintro e W2 ⟨rfl, hk, _⟩
    try rw [hse.out] at hk
    replace hk := Lib.hid hk
    clear H0 H1 hk0 hse
    go_wp2_with fail
    refine (HT.out _ _ _ hk.out).mono ?_
    rintro e W5 ⟨lv, rfl, ho, hb⟩
    obtain ⟨la, lc, rfl⟩ := row_slice ho

    obtain ⟨hTc, hfn⟩ := hlast.out s _ W5 (!s.st) s.tr s.ta ho hb
    have t0 := hTc.cell 0
    have f0 := hTc.free 0
    have t1 := hTc.cell 1
    have f1 := hTc.free 1
    have t2 := hTc.cell 2
    have f2 := hTc.free 2
    have t3 := hTc.cell 3
    have f3 := hTc.free 3
    have t4 := hTc.cell 4
    have f4 := hTc.free 4
    have t5 := hTc.cell 5
    have f5 := hTc.free 5
    have t6 := hTc.cell 6
    have f6 := hTc.free 6
    have t7 := hTc.cell 7
    have f7 := hTc.free 7
    have t8 := hTc.cell 8
    have f8 := hTc.free 8
    have t9 := hTc.cell 9
    have f9 := hTc.free 9
    have t10 := hTc.cell 10
    have f10 := hTc.free 10
    have t11 := hTc.cell 11
    have f11 := hTc.free 11
    have t12 := hTc.cell 12
    have f12 := hTc.free 12
    simp only [List.getElem?_toArray, List.getElem?_cons_zero, List.getElem?_cons_succ] at t0 t1 t2 t3 t4 t5 t6 t7 t8 t9 t10 t11 t12
    clear HT hk hTc ho hb hlast g0 g1 g2 g3 g4 g5 g6 g7 g8 g9
    unfold tnV
    go_wp2_with fail
    exact bodyPost_ret (results_cell_row (fn := Tryz.f21) (p := 6) (ty := 29) rfl _ _ _ _ _ (0, 0) _ rfl hfn.out.1 Tryz.underlying29 rfl (by kernel_rfl)) rfl ⟨_, rfl, hfn.out.2⟩
  · rw [show enterTopX why = pureX () from by unfold enterTopX; rw [if_neg (by omega), if_neg (by omega)]]
    generalize hse : (pureX () s0).2 = s at *
    have t0 : ((why : Int) == 0) = false := by rw [beq_eq_false_iff_ne]; omega
    have t1 : ((why : Int) == 1) = false := by rw [beq_eq_false_iff_ne]; omega
    have t2 : ((why : Int) == 2) = false := by rw [beq_eq_false_iff_ne]; omega
    have hs1 : s0 = s := hse
    rw [hs1] at HR
    clear H0 H1 hse hs1 hgt
    go_enter Tryz.func21, Tryz.ntmps21
    go_upto_region 1 with (fail)
    clear hV
    go_wp2_with fail
    refine HR.out.mono ?_
    rintro e W1 ⟨b, rfl, hk⟩
    replace hk := Lib.hid hk
    clear HR
    go_wp2_with fail
    refine (HT.out _ _ _ hk.out).mono ?_
    rintro e W5 ⟨lv, rfl, ho, hb⟩
    obtain ⟨la, lc, rfl⟩ := row_slice ho

    obtain ⟨hTc, hfn⟩ := hlast.out s _ W5 (!s.st) s.tr s.ta ho hb
    have u0 := hTc.cell 0
    have f0 := hTc.free 0
    have u1 := hTc.cell 1
    have f1 := hTc.free 1
    have u2 := hTc.cell 2
    have f2 := hTc.free 2
    have t3 := hTc.cell 3
    have f3 := hTc.free 3
    have t4 := hTc.cell 4
    have f4 := hTc.free 4
    have t5 := hTc.cell 5
    have f5 := hTc.free 5
    have t6 := hTc.cell 6
    have f6 := hTc.free 6
    have t7 := hTc.cell 7
    have f7 := hTc.free 7
    have t8 := hTc.cell 8
    have f8 := hTc.free 8
    have t9 := hTc.cell 9
    have f9 := hTc.free 9
    have t10 := hTc.cell 10
    have f10 := hTc.free 10
    have t11 := hTc.cell 11
    have f11 := hTc.free 11
    have t12 := hTc.cell 12
    have f12 := hTc.free 12
    simp only [List.getElem?_toArray, List.getElem?_cons_zero, List.getElem?_cons_succ] at u0 u1 u2 t3 t4 t5 t6 t7 t8 t9 t10 t11 t12
    clear HT hk hTc ho hb hlast g0 g1 g2 g3 g4 g5 g6 g7 g8 g9
    unfold tnV
    go_wp2_with fail
    exact bodyPost_ret (results_cell_row (fn := Tryz.f21) (p := 6) (ty := 29) rfl _ _ _ _ _ (0, 0) _ rfl hfn.out.1 Tryz.underlying29 rfl (by kernel_rfl)) rfl ⟨_, rfl, hfn.out.2⟩
end Go.Proofs.YtnacdaodjgdnnaaGreat
