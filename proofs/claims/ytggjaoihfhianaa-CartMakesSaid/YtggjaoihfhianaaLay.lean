/-
  A card is laid: words, and the whole.
-/
import Derived.Test.YtggjaoihfhianaaUnmak2
import Derived.Laws.IdiomCopy
import Derived.Lib.SliceRun
import Derived.Lib.LazyBuf
import Derived.Deep.DeepCutAuto
import Derived.Deep.CutBlock
import Derived.Deep.RegionHeld3
import Derived.Laws.Concat
import Derived.Deep.QuietTactic
namespace Go.Proofs.Ytggjaoihfhianaa
open Go.RowKit Go.Shelf
set_option maxRecDepth 100000
set_option maxHeartbeats 4000000

/-- Some bytes over others. -/
def overL (f : Nat → Nat) (p : Nat) (L : List Nat) : Nat → Nat := fun j => if p ≤ j ∧ j < p + L.length then L.getD (j - p) 0 else f j
theorem overL_nil (f : Nat → Nat) (p : Nat) : overL f p [] = f := by
  funext j
  unfold overL
  rw [if_neg (by simp only [List.length_nil]; omega)]
theorem overL_cons (f : Nat → Nat) (p x : Nat) (L : List Nat) : overL (upd f p x) (p + 1) L = overL f p (x :: L) := by
  funext j
  unfold overL upd
  simp only [List.length_cons]
  by_cases e : j = p
  · subst e
    rw [if_neg (by omega), if_pos rfl, if_pos (by omega), Nat.sub_self]
    rfl
  · by_cases h : p + 1 ≤ j ∧ j < p + 1 + L.length
    · rw [if_pos h, if_pos (by omega), show j - p = (j - (p + 1)) + 1 by omega]
      rfl
    · rw [if_neg h, if_neg e, if_neg (by omega)]
def byteVs (L : List Nat) : List Value := L.map fun x => Value.int .u8 (x : Nat)
theorem Holds.overL {g n : Nat} : ∀ (L : List Nat) (p : Nat) (f : Nat → Nat) (w : World), Holds w g n f → (∀ x ∈ L, x < 256) → Holds (w.setCells g p (byteVs L)) g n (overL f p L)
  | [], p, f, w, h, _ => by rw [overL_nil]; exact h
  | x :: L, p, f, w, h, hb => by
    rw [← overL_cons]
    exact Holds.overL L (p + 1) (upd f p x) _ (h.put p x (hb x (by simp))) (fun y hy => hb y (by simp [hy]))
theorem only_setCells {a : World} {g : Nat} : ∀ (vs : List Value) (p : Nat) (w : World), a.grownBy w (some g) → a.grownBy (w.setCells g p vs) (some g)
  | [], _, _, h => h
  | v :: vs, p, _, h => only_setCells vs (p + 1) _ (only_set h p v)

theorem putWord_any (R o cp k z n : Nat) (f : Nat → Nat) (w : World) (hk : k + 1 < 64) (hz : z < 65536) (hn : o + 64 ≤ n) (h : Holds w R n f) :
    Calls Try.prog 34 #[.slice (some ⟨R, o, none⟩) 64 cp, .int .i64 k, .int .u16 z] w fun e w' => (∃ v, e = .returned v) ∧ Holds w' R n (upd (upd f (o + k) (z % 256)) (o + (k + 1)) (z / 256)) ∧ w.grownBy w' (some R) := by
  have fr := h.free
  have c0 := h.cell (o + k) (by omega)
  have c1 := h.cell (o + (k + 1)) (by omega)
  have hcv : IntKind.u8.wrap (z : Int) = (z % 256 : Nat) := by simp [IntKind.wrap, IntKind.signed, IntKind.bits]
  go_enter Try.func34, Try.ntmps34
  go_wp2_with fail
  have hP := (h.put (o + k) (z % 256) (Nat.mod_lt _ (by decide))).put (o + (k + 1)) (z / 256) (by omega)
  have hO := only_set (only_set (Below.only (Below.refl _ w) R) (o + k) (.int .u8 (z % 256 : Nat))) (o + (k + 1)) (.int .u8 (z / 256 : Nat))
  exact bodyPost_end (results_none rfl _ _ _) rfl ⟨⟨_, rfl⟩, hP, hO⟩

/-- The 21 bytes of a title, blanks behind it. -/
def titleL (t : ByteArray) : List Nat := (t.data.toList.map (·.toNat)) ++ List.replicate (21 - t.size) 32
theorem titleL_byte (t : ByteArray) : ∀ x ∈ titleL t, x < 256 := by
  intro x hx
  unfold titleL at hx
  rcases List.mem_append.1 hx with h | h
  · obtain ⟨b, _, rfl⟩ := List.mem_map.1 h
    exact b.toNat_lt
  · rw [List.eq_of_mem_replicate h]
    decide
theorem titleL_len (t : ByteArray) (h : t.size ≤ 21) : (titleL t).length = 21 := by
  unfold titleL
  rw [List.length_append, List.length_map, List.length_replicate, ← Lib.size_eq]
  omega
/-- A title with its blanks. -/
def padT (t : ByteArray) : ByteArray := t ++ ⟨(Lib.repeatL [32] (21 - t.size)).toArray⟩
theorem repeat_one (k : Nat) : Lib.repeatL [(32 : UInt8)] k = List.replicate k 32 := by
  induction k with
  | zero => rfl
  | succ k ih =>
    rw [Lib.repeatL, ih]
    rfl
theorem padT_bytes (t : ByteArray) : (padT t).data.toList.map (fun x => Value.int .u8 (x.toNat : Int)) = byteVs (titleL t) := by
  unfold padT byteVs titleL
  rw [repeat_one]
  simp [ByteArray.data_append, List.map_replicate]
theorem padT_size (t : ByteArray) (h : t.size ≤ 21) : (padT t).size = 21 := by
  unfold padT
  rw [ByteArray.size_append, repeat_one]
  show t.size + (List.replicate (21 - t.size) (32 : UInt8)).toArray.size = 21
  simp
  omega
theorem lay_keep {W : World} {X R p cp n : Nat} {t : ByteArray} {cs : Array Value} {g : Nat → Nat} (h4 : cs[4]? = some (.string t)) (hn : p + 64 ≤ n) (ht : t.size ≤ 21) (hX : Whole W X 28 cs) (hH : Holds W R n g) :
    W.cell? ⟨X, 4, none⟩ = some (.string t) ∧ ∀ ty, (Builtin.copy_ #[25, 9] ty #[.slice (some ⟨R, p, none⟩) 64 cp, .string (padT t)]).run Try.prog W = .ok (goInt 21) (W.setCells R p (byteVs (titleL t))) := by
  refine ⟨(hX.cell 4).trans h4, fun ty => ?_⟩
  have hs := padT_size t ht
  have e := run_copy_string (P := Try.prog) W 25 9 ty 5 R p 64 cp (padT t) Try.underlying25 (fun w => by kernel_rfl) (by omega) (fun j hj => by rw [hH.cell (p + j) (by omega)]; rfl) (fun j _ => hH.free _)
  rw [hs, padT_bytes] at e
  exact e
theorem Whole.overC {g R : Nat} {ty : TypeId} {cs : Array Value} (hne : g ≠ R) : ∀ (vs : List Value) (p : Nat) (W : World), Whole W g ty cs → Whole (W.setCells R p vs) g ty cs
  | [], _, _, h => h
  | v :: vs, p, _, h => Whole.overC hne vs (p + 1) _ (h.away (p := ⟨R, p, none⟩) hne v)
theorem Below.onlyT {a w w' : World} {g : Nat} (h : a.grownBy w (some g)) (k : Below w.heap.size w w') : a.grownBy w' (some g) :=
  ⟨k.os.trans h.os, k.tape.trans h.tape, k.output.trans h.output, Nat.le_trans h.size k.size, fun b hb hne => (k.block b (Nat.lt_of_lt_of_le hb h.size)).trans (h.block b hb hne)⟩
theorem only_drew {a w : World} {g : Nat} (h : a.grownBy w (some g)) : a.grownBy w.drew (some g) := ⟨h.os, h.tape, h.output, h.size, h.block⟩
theorem only_trans {a w w' : World} {g : Nat} (h : a.grownBy w (some g)) (k : w.grownBy w' (some g)) : a.grownBy w' (some g) :=
  ⟨k.os.trans h.os, k.tape.trans h.tape, k.output.trans h.output, Nat.le_trans h.size k.size, fun b hb hne => (k.block b (Nat.lt_of_lt_of_le hb h.size) hne).trans (h.block b hb hne)⟩

/-- A card but check and sum. -/
def modeN (l : Nat) (fast : Bool) : Nat := (if l = 1 then 32 else if l = 2 then 33 else 37) + if fast then 16 else 0
def layF (f : Nat → Nat) (p l c : Nat) (ram : Int) (t : ByteArray) (z : Nat) (fast : Bool) : Nat → Nat :=
  upd (upd (upd (upd (upd (overL (overL f p (List.replicate 32 0)) p (titleL t)) (p + 21) (modeN l fast)) (p + 22) (kindN c)) (p + 24) (sizeN ram)) (p + 60) (z % 256)) (p + 61) (z / 256)
theorem upd_upd (f : Nat → Nat) (i x y : Nat) : upd (upd f i x) i y = upd f i y := by
  funext j
  unfold upd
  split <;> rfl

theorem lay_any (R l M cp n c na ca : Nat) (ra : Option Addr) (ram : Int) (t : ByteArray) (z : Nat) (fast : Bool) (Sg : Value) (f : Nat → Nat) (w : World) (hn : posOf l + 64 ≤ n) (hcp : 64 ≤ cp) (hc : c < 256) (hz : z < 65536) (ht : t.size ≤ 21) (hram : sizeN ram ≤ 9)
    (hH : Holds w R n f) (hM : Whole w M 5 (modesOf l)) (hne : M ≠ R) :
    Calls Try.prog 20 #[.slice (some ⟨R, posOf l, none⟩) 64 cp, .agg (cartC l c (.slice ra na ca) ram t z fast Sg), planV l M] w fun e w' => (∃ v, e = .returned v) ∧ Holds w' R n (layF f (posOf l) l c ram t z fast) ∧ w.grownBy w' (some R) := by
  obtain ⟨p, hp⟩ : ∃ p, posOf l = p := ⟨_, rfl⟩
  obtain ⟨ml, hml⟩ : ∃ m, modeLen l = m := ⟨_, rfl⟩
  obtain ⟨md, hmd⟩ : ∃ m : Nat, (if l = 1 then 32 else if l = 2 then 33 else 37) = m := ⟨_, rfl⟩
  have hml1 : 0 < ml := by rw [← hml]; unfold modeLen; split <;> decide
  have hmd0 : (modesOf l)[0]? = some (.int .u8 (md : Nat)) := by
    rw [← hmd]
    unfold modesOf
    split
    · rfl
    split
    · rfl
    · rfl
  have hmd1 : md < 64 := by rw [← hmd]; split; decide; split; decide; decide
  have hor : bits .or .u8 (md : Int) 16 = (md + 16 : Nat) := by
    rw [← hmd]
    split
    · decide
    split
    · decide
    · decide
  have hmo : modeN l fast = md + if fast then 16 else 0 := by unfold modeN; rw [hmd]
  rw [hp] at hn ⊢
  unfold planV layF
  rw [hmo, hp, hml]
  unfold cartC
  generalize modesOf l = mds at *
  clear hmo hmd hml hp
  have HRp := Lib.hid (fun W => Try.strings_Repeat ⟨#[32]⟩ (21 - t.size) W (by omega) (by show 1 * (21 - t.size) ≤ 140737488355328; omega))
  have HK := Lib.hid (fun W => kindOf_any c W hc)
  have HS := Lib.hid (fun W => ramSizeOf_any ram W)
  have HW := Lib.hid (fun f W (hW : Holds W R n f) => putWord_any R p cp 60 z n f W (by decide) hz hn hW)
  have hlt := hH.lt
  have hMl := hM.lt
  obtain ⟨rep, hrep⟩ : ∃ r : ByteArray, ⟨(Lib.repeatL (⟨#[32]⟩ : ByteArray).data.toList (21 - t.size)).toArray⟩ = r := ⟨_, rfl⟩
  rw [hrep] at HRp
  have hr : t ++ rep = padT t := by rw [← hrep]; rfl
  have h22 : t.size ≤ 22 := by omega
  have hsub : IntKind.i64.wrap (21 - (t.size : Int)) = ((21 - t.size : Nat) : Int) := by rw [IntKind.wrap_i64]; omega
  have hrs : rep.size = 21 - t.size := by
    have := congrArg ByteArray.size hr
    rw [ByteArray.size_append, padT_size t ht] at this
    omega
  have hadd := fun W => run_string_add_sum (P := Try.prog) W t rep (by omega)
  have hns : (9223372036854775807 < t.size + rep.size) = False := eq_false (by omega)
  clear hrep hrs
  go_enter Try.func20, Try.ntmps20
  go_upto_region 1 with (fail)
  have hX := (Whole.fresh w 28 #[.int .u8 l, .int .u8 c, .slice ra na ca, .int .i64 ram, .string t, .int .u16 z, .bool fast, Sg]).alloc (Obj.cells #[.int .u8 l, .int .i64 p, .slice (some ⟨M, 0, none⟩) ml ml] 47)
  have hP := Whole.fresh (w.alloc (Obj.cells #[.int .u8 l, .int .u8 c, .slice ra na ca, .int .i64 ram, .string t, .int .u16 z, .bool fast, Sg] 28)) 47 #[.int .u8 l, .int .i64 p, .slice (some ⟨M, 0, none⟩) ml ml]
  have hH1 := (hH.alloc (Obj.cells #[.int .u8 l, .int .u8 c, .slice ra na ca, .int .i64 ram, .string t, .int .u16 z, .bool fast, Sg] 28)).alloc (Obj.cells #[.int .u8 l, .int .i64 p, .slice (some ⟨M, 0, none⟩) ml ml] 47)
  have hM1 := (hM.alloc (Obj.cells #[.int .u8 l, .int .u8 c, .slice ra na ca, .int .i64 ram, .string t, .int .u16 z, .bool fast, Sg] 28)).alloc (Obj.cells #[.int .u8 l, .int .i64 p, .slice (some ⟨M, 0, none⟩) ml ml] 47)
  have hG1 := Below.only (((Below.refl _ w).alloc (Nat.le_refl _) (Obj.cells #[.int .u8 l, .int .u8 c, .slice ra na ca, .int .i64 ram, .string t, .int .u16 z, .bool fast, Sg] 28)).alloc (by simp) (Obj.cells #[.int .u8 l, .int .i64 p, .slice (some ⟨M, 0, none⟩) ml ml] 47)) R
  rw [World.alloc_heap_size] at hP
  generalize ((w.alloc (Obj.cells #[.int .u8 l, .int .u8 c, .slice ra na ca, .int .i64 ram, .string t, .int .u16 z, .bool fast, Sg] 28)).alloc (Obj.cells #[.int .u8 l, .int .i64 p, .slice (some ⟨M, 0, none⟩) ml ml] 47)) = W1 at hX hP hH1 hM1 hG1 ⊢
  have hXR : w.heap.size ≠ R := by omega
  have hPR : w.heap.size + 1 ≠ R := by omega
  obtain ⟨v0, hv0⟩ : ∃ v, byteVs (List.replicate 32 0) = v := ⟨_, rfl⟩
  have hcl : ∀ ty, (Builtin.clear_ #[25] ty #[.slice (some ⟨R, p, none⟩) 32 cp]).run Try.prog W1 = .ok (.tuple #[]) (W1.setCells R p v0) := fun ty => by
    rw [← hv0]
    exact Lib.run_clear_slice W1 25 5 ty (.int .u8 0) Try.underlying25 (fun w => by kernel_rfl) rfl rfl R p 32 cp (by decide) (fun j hj => by rw [hH1.cell (p + j) (by omega)]; rfl) (fun j hj => hH1.free _)
  have hX2 := Whole.overC hXR v0 p _ hX
  have hP2 := Whole.overC hPR v0 p _ hP
  have hM2 := Whole.overC hne v0 p _ hM1
  have hH2 := hH1.overL (List.replicate 32 0) p _ _ (by intro x hx; rw [List.eq_of_mem_replicate hx]; decide)
  have hG2 := only_setCells v0 p _ hG1
  rw [hv0] at hH2
  clear hv0 hX hP hM1 hH1 hG1 hM hH
  go_upto_region 2 with (fail)
  clear hcl
  generalize W1.setCells R p v0 = W2 at *
  clear W1
  have hk2 := lay_keep (cp := cp) rfl hn ht hX2 hH2
  have x4 := hk2.1
  have hcp2 := hk2.2
  go_region_held3 (fun W => W.cell? ⟨w.heap.size, 4, none⟩ = some (.string t) ∧ ∀ ty, (Builtin.copy_ #[25, 9] ty #[.slice (some ⟨R, p, none⟩) 64 cp, .string (padT t)]).run Try.prog W = .ok (goInt 21) (W.setCells R p (byteVs (titleL t))))
    (first | (with_reducible exact hk2) | (with_reducible exact lay_keep rfl hn ht hX2.drew hH2.drew) | (with_reducible exact hk4) | (exact lay_keep rfl hn ht (Whole.overC hXR _ _ _ hX4) (hH4.overL _ _ _ _ (titleL_byte t))) | go_keep)
    (first
      | (go_at_call 33; refine (HRp.out _).mono ?_; rintro e W4 ⟨rfl, hB4⟩; have hX4 := hX2.drew.below hB4 hX2.drew.lt; have hP4 := hP2.drew.below hB4 hP2.drew.lt; have hM4 := hM2.drew.below hB4 hM2.drew.lt; have hH4 := hH2.drew.below hB4 hH2.drew.lt; have hG4 := Below.onlyT (only_drew hG2) hB4; have hk4 := lay_keep (cp := cp) rfl hn ht hX4 hH4; have x44 := hk4.1; have hcp4 := hk4.2))
  have hX5 := Whole.overC hXR (byteVs (titleL t)) p _ hX4
  have hP5 := Whole.overC hPR (byteVs (titleL t)) p _ hP4
  have hM5 := Whole.overC hne (byteVs (titleL t)) p _ hM4
  have hH5 := hH4.overL (titleL t) p _ _ (titleL_byte t)
  have hG5 := only_setCells (byteVs (titleL t)) p _ hG4
  generalize W4.setCells R p (byteVs (titleL t)) = W5 at hX5 hP5 hM5 hH5 hG5 ⊢
  clear hX2 hP2 hM2 hH2 hG2 hk2 x4 hcp2 hX4 hP4 hM4 hH4 hG4 hk4 x44 hcp4 hB4 hadd hns HRp hr hsub h22
  have hkN : kindN c < 256 := by unfold kindN; split; decide; split; decide; decide
  have y2 := hP5.cell 2
  have y6 := hX5.cell 6
  have m0 := (hM5.cell 0).trans hmd0
  have c21 := hH5.cell (p + 21) (by omega)
  have fr := hH5.free
  simp only [List.getElem?_toArray, List.getElem?_cons_zero, List.getElem?_cons_succ] at y2 y6
  have hmlI : (0 : Int) < (ml : Int) := by omega
  cases fast
  · go_upto_region 6 with (fail)
    have hX6 := hX5.away (p := ⟨R, p + 21, none⟩) hXR (.int .u8 (md : Nat))
    have hH6 := hH5.put (p + 21) md (by omega)
    have hG6 := only_set hG5 (p + 21) (.int .u8 (md : Nat))
    generalize (W5.setCell ⟨R, p + 21, none⟩ (.int .u8 (md : Nat))) = W6 at hX6 hH6 hG6 ⊢
    clear y2 y6 fr
    clear c21 m0 hX5 hP5 hM5 hH5 hG5
    have y1 := hX6.cell 1
    have fr := hH6.free
    have c22 := hH6.cell (p + 22) (by omega)
    simp only [List.getElem?_toArray, List.getElem?_cons_zero, List.getElem?_cons_succ] at y1
    go_wp2_with fail
    refine (HK.out W6).mono ?_
    rintro e W7 ⟨rfl, rfl⟩
    go_upto_region 7 with (fail)
    have hX7 := hX6.away (p := ⟨R, p + 22, none⟩) hXR (.int .u8 (kindN c : Nat))
    have hH7 := hH6.put (p + 22) (kindN c) hkN
    have hG7 := only_set hG6 (p + 22) (.int .u8 (kindN c : Nat))
    generalize (W7.setCell ⟨R, p + 22, none⟩ (.int .u8 (kindN c : Nat))) = W8 at hX7 hH7 hG7 ⊢
    clear hX6 hH6 hG6 y1 fr c22
    have y3 := hX7.cell 3
    have fr := hH7.free
    have c24 := hH7.cell (p + 24) (by omega)
    simp only [List.getElem?_toArray, List.getElem?_cons_zero, List.getElem?_cons_succ] at y3
    go_wp2_with fail
    refine (HS.out W8).mono ?_
    rintro e W9 ⟨h | ⟨_, rfl⟩, rfl⟩
    · omega
    go_upto_region 8 with (fail)
    have hX8 := hX7.away (p := ⟨R, p + 24, none⟩) hXR (.int .u8 (sizeN ram : Nat))
    have hH8 := hH7.put (p + 24) (sizeN ram) (by omega)
    have hG8 := only_set hG7 (p + 24) (.int .u8 (sizeN ram : Nat))
    generalize (W9.setCell ⟨R, p + 24, none⟩ (.int .u8 (sizeN ram : Nat))) = W10 at hX8 hH8 hG8 ⊢
    clear hX7 hH7 hG7 y3 fr c24
    have y5 := hX8.cell 5
    simp only [List.getElem?_toArray, List.getElem?_cons_zero, List.getElem?_cons_succ] at y5
    go_wp2_with fail
    refine (HW.out _ W10 hH8).mono ?_
    rintro e W11 ⟨⟨v, rfl⟩, hH11, hG11⟩
    go_wp2_with fail
    exact bodyPost_end (results_none rfl _ _ _) rfl ⟨⟨_, rfl⟩, hH11, only_trans hG8 hG11⟩
  · obtain ⟨mf, hmf⟩ : ∃ mf, md + 16 = mf := ⟨_, rfl⟩
    rw [hmf] at hor
    have hH6 := (hH5.put (p + 21) md (by omega)).put (p + 21) mf (by omega)
    have c21b := (hH5.put (p + 21) md (by omega)).cell (p + 21) (by omega)
    have frb := (hH5.put (p + 21) md (by omega)).free
    rw [upd_upd] at hH6
    simp only [upd, if_true] at c21b
    go_upto_region 6 with (fail)
    have hX6 := (hX5.away (p := ⟨R, p + 21, none⟩) hXR (.int .u8 (md : Nat))).away (p := ⟨R, p + 21, none⟩) hXR (.int .u8 (mf : Nat))
    have hG6 := only_set (only_set hG5 (p + 21) (.int .u8 (md : Nat))) (p + 21) (.int .u8 (mf : Nat))
    generalize ((W5.setCell ⟨R, p + 21, none⟩ (.int .u8 (md : Nat))).setCell ⟨R, p + 21, none⟩ (.int .u8 (mf : Nat))) = W6 at hX6 hH6 hG6 ⊢
    clear y2 y6 fr c21b frb
    replace hmf := Lib.hid hmf
    clear c21 m0 hX5 hP5 hM5 hH5 hG5
    have y1 := hX6.cell 1
    have fr := hH6.free
    have c22 := hH6.cell (p + 22) (by omega)
    simp only [List.getElem?_toArray, List.getElem?_cons_zero, List.getElem?_cons_succ] at y1
    go_wp2_with fail
    refine (HK.out W6).mono ?_
    rintro e W7 ⟨rfl, rfl⟩
    go_upto_region 7 with (fail)
    have hX7 := hX6.away (p := ⟨R, p + 22, none⟩) hXR (.int .u8 (kindN c : Nat))
    have hH7 := hH6.put (p + 22) (kindN c) hkN
    have hG7 := only_set hG6 (p + 22) (.int .u8 (kindN c : Nat))
    generalize (W7.setCell ⟨R, p + 22, none⟩ (.int .u8 (kindN c : Nat))) = W8 at hX7 hH7 hG7 ⊢
    clear hX6 hH6 hG6 y1 fr c22
    have y3 := hX7.cell 3
    have fr := hH7.free
    have c24 := hH7.cell (p + 24) (by omega)
    simp only [List.getElem?_toArray, List.getElem?_cons_zero, List.getElem?_cons_succ] at y3
    go_wp2_with fail
    refine (HS.out W8).mono ?_
    rintro e W9 ⟨h | ⟨_, rfl⟩, rfl⟩
    · omega
    go_upto_region 8 with (fail)
    have hX8 := hX7.away (p := ⟨R, p + 24, none⟩) hXR (.int .u8 (sizeN ram : Nat))
    have hH8 := hH7.put (p + 24) (sizeN ram) (by omega)
    have hG8 := only_set hG7 (p + 24) (.int .u8 (sizeN ram : Nat))
    generalize (W9.setCell ⟨R, p + 24, none⟩ (.int .u8 (sizeN ram : Nat))) = W10 at hX8 hH8 hG8 ⊢
    clear hX7 hH7 hG7 y3 fr c24
    have y5 := hX8.cell 5
    simp only [List.getElem?_toArray, List.getElem?_cons_zero, List.getElem?_cons_succ] at y5
    go_wp2_with fail
    refine (HW.out _ W10 hH8).mono ?_
    rintro e W11 ⟨⟨v, rfl⟩, hH11, hG11⟩
    go_wp2_with fail
    have hmf := hmf.out
    subst hmf
    exact bodyPost_end (results_none rfl _ _ _) rfl ⟨⟨_, rfl⟩, hH11, only_trans hG8 hG11⟩
end Go.Proofs.Ytggjaoihfhianaa
