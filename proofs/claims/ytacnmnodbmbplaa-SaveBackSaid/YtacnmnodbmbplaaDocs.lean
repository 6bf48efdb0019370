/-
  The document's writer in a box of its own, beside the writer; both Dones, in one form.
-/
import Derived.Test.YtacnmnodbmbplaaRDoes
import Derived.Test.YtacnmnodbmbplaaSmall
namespace Go.Proofs.Ytacnmnodbmbplaa
open Go.RowKit Go.Shelf
set_option maxRecDepth 100000
set_option maxHeartbeats 1000000

theorem cell_of_block {w w' : World} {b : Nat} (h : w'.heap[b]? = w.heap[b]?) (i : Nat) : w'.cell? ⟨b, i, none⟩ = w.cell? ⟨b, i, none⟩ := by simp [World.cell?, h]
theorem Row.kept {w w' : World} {a : Option Addr} {n : Nat} {f : Nat → Nat} (h : Row w a n f) (hs : w.heap.size ≤ w'.heap.size) (hb : ∀ ad, a = some ad → w'.heap[ad.block]? = w.heap[ad.block]?) : Row w' a n f :=
  ⟨h.1, h.2.imp id fun ⟨b, o, e, hl, hc⟩ => ⟨b, o, e, Nat.lt_of_lt_of_le hl hs, fun i hi => (cell_of_block (hb _ e) _).trans (hc i hi)⟩⟩
theorem IRow.kept {w w' : World} {a : Option Addr} {n : Nat} {f : Nat → Nat} (h : IRow w a n f) (hs : w.heap.size ≤ w'.heap.size) (hb : ∀ ad, a = some ad → w'.heap[ad.block]? = w.heap[ad.block]?) : IRow w' a n f :=
  h.imp id fun ⟨b, o, e, hl, hc⟩ => ⟨b, o, e, Nat.lt_of_lt_of_le hl hs, fun i hi => (cell_of_block (hb _ e) _).trans (hc i hi)⟩
/-- The row a lies apart from block b, from block D, from v's own block. -/
def Apart (w : World) (b : Nat) (v : Value) (D : Nat) (a : Option Addr) : Prop := ∀ ad, a = some ad → ad.block ≠ b ∧ v.ownBlock ≠ some ad.block ∧ ad.block ≠ D ∧ ad.block < w.heap.size
/-- The document's writer lies in box D, apart from the writer. -/
structure Doc (w : World) (b : Nat) (v : Value) (D : Nat) (a : Option Addr) (c : Nat) (ao : Option Addr) (co : Nat) (s : St) : Prop where
  box : Whole w D 29 #[.slice a s.n c, .slice ao s.op co, .int .i64 (s.e : Nat)]
  rw : RW w a c ao co s
  nb : D ≠ b
  nv : v.ownBlock ≠ some D
  fa : Apart w b v D a
  fo : Apart w b v D ao
theorem Apart.le {w w' : World} {b : Nat} {v : Value} {D : Nat} {a : Option Addr} (h : Apart w b v D a) (hs : w.heap.size ≤ w'.heap.size) : Apart w' b v D a :=
  fun ad e => ⟨(h ad e).1, (h ad e).2.1, (h ad e).2.2.1, Nat.lt_of_lt_of_le (h ad e).2.2.2 hs⟩
theorem RW.kept {w w' : World} {a ao : Option Addr} {c co : Nat} {s : St} (h : RW w a c ao co s) (hs : w.heap.size ≤ w'.heap.size) (ha : ∀ ad, a = some ad → w'.heap[ad.block]? = w.heap[ad.block]?) (ho : ∀ ad, ao = some ad → w'.heap[ad.block]? = w.heap[ad.block]?) : RW w' a c ao co s :=
  ⟨h.body.kept hs ha, h.opens.kept hs ho, h.le, h.len, h.good⟩
theorem Doc.below {w w' : World} {b : Nat} {v : Value} {D : Nat} {a ao : Option Addr} {c co : Nat} {s : St} (h : Doc w b v D a c ao co s) (hb : Below w.heap.size w w') : Doc w' b v D a c ao co s :=
  ⟨h.box.below hb h.box.lt, h.rw.below hb, h.nb, h.nv, h.fa.le hb.size, h.fo.le hb.size⟩
theorem Doc.puts {w w' : World} {b : Nat} {v v' : Value} {D : Nat} {a ao : Option Addr} {c co : Nat} {s : St} (h : Doc w b v D a c ao co s) (h2 : Only2 b v.ownBlock w w') (h3 : NewOwn v v' w) : Doc w' b v' D a c ao co s := by
  have key : ∀ x, v.ownBlock ≠ some x → x < w.heap.size → v'.ownBlock ≠ some x := fun x hx hl e => by
    rcases h3 with h3 | h3
    · exact hx (h3 ▸ e)
    · have := h3 x e; omega
  have blk : ∀ x, x < w.heap.size → x ≠ b → v.ownBlock ≠ some x → w'.heap[x]? = w.heap[x]? := fun x hl hb hv => h2.block x hl hb (fun e => hv e.symm)
  exact ⟨(blk D h.box.lt h.nb h.nv).trans h.box, h.rw.kept h2.size (fun ad e => blk _ (h.fa ad e).2.2.2 (h.fa ad e).1 (h.fa ad e).2.1) (fun ad e => blk _ (h.fo ad e).2.2.2 (h.fo ad e).1 (h.fo ad e).2.1), h.nb, key D h.nv h.box.lt,
    fun ad e => ⟨(h.fa ad e).1, key _ (h.fa ad e).2.1 (h.fa ad e).2.2.2, (h.fa ad e).2.2.1, Nat.lt_of_lt_of_le (h.fa ad e).2.2.2 h2.size⟩,
    fun ad e => ⟨(h.fo ad e).1, key _ (h.fo ad e).2.1 (h.fo ad e).2.2.2, (h.fo ad e).2.2.1, Nat.lt_of_lt_of_le (h.fo ad e).2.2.2 h2.size⟩⟩
theorem Doc.does {W W1 : World} {b : Nat} {v : Value} {D : Nat} {a ao a' ao' : Option Addr} {c co c' co' : Nat} {s s' s'' : St} (h : Doc W b v D a c ao co s) (hW : Wr W b v s'') (hR : RW W1 a' c' ao' co' s') (hB : Below W.heap.size W W1)
    (n1 : NewRow W.heap.size W1 a a') (n2 : NewRow W.heap.size W1 ao ao') :
    Doc (((W1.setCell ⟨D, 0, none⟩ (.slice a' s'.n c')).setCell ⟨D, 1, none⟩ (.slice ao' s'.op co')).setCell ⟨D, 2, none⟩ (.int .i64 (s'.e : Nat))) b v D a' c' ao' co' s' := by
  have hsz : ∀ u0 u1 u2, (((W1.setCell ⟨D, 0, none⟩ u0).setCell ⟨D, 1, none⟩ u1).setCell ⟨D, 2, none⟩ u2).heap.size = W1.heap.size := fun u0 u1 u2 => by simp [World.setCell]
  have hbl := hW.head.lt
  have hol := hW.body.lt
  have hDl := h.box.lt
  have ap : ∀ x x', Apart W b v D x → NewRow W.heap.size W1 x x' → Apart W1 b v D x' := fun x x' h1 h2 ad e => by
    rcases h2 with rfl | h2
    · exact h1.le hB.size ad e
    · obtain ⟨k1, k2⟩ := h2 ad e
      exact ⟨by omega, fun e => by have := hol _ e; omega, by omega, k2⟩
  have fa := ap _ _ h.fa n1
  have fo := ap _ _ h.fo n2
  have blk : ∀ u0 u1 u2 x, x ≠ D → (((W1.setCell ⟨D, 0, none⟩ u0).setCell ⟨D, 1, none⟩ u1).setCell ⟨D, 2, none⟩ u2).heap[x]? = W1.heap[x]? := fun u0 u1 u2 x hx =>
    ((Below.heap_setCell _ _ _ _ hx).trans (Below.heap_setCell _ _ _ _ hx)).trans (Below.heap_setCell _ _ _ _ hx)
  exact ⟨((((h.box.below hB h.box.lt).put 0 _).put 1 _).put 2 _).as rfl, hR.kept (by rw [hsz]; exact Nat.le_refl _) (fun ad e => blk _ _ _ _ (fa ad e).2.2.1) (fun ad e => blk _ _ _ _ (fo ad e).2.2.1), h.nb, h.nv, fa.le (by rw [hsz]; exact Nat.le_refl _), fo.le (by rw [hsz]; exact Nat.le_refl _)⟩
theorem Live.setD {B : Nat} {w W : World} {b : Nat} {v : Value} {s : St} (h : Live B w W b v s) {D : Nat} (h1 : D ≠ b) (h2 : v.ownBlock ≠ some D) (h3 : B ≤ D) (i : Nat) (u : Value) : Live B w (W.setCell ⟨D, i, none⟩ u) b v s :=
  ⟨h.wr.away h1 h2 i u, h.lb, h.lv, h.bel.setCell (p := ⟨D, i, none⟩) h3 u, h.le⟩
theorem cells3_away {w : World} {x q D : Nat} {v0 v1 v2 : Value} (hne : x ≠ D) (u0 u1 u2 : Value) (h : w.cell? ⟨x, q, none⟩ = some v0 ∧ w.cell? ⟨x, q + 1, none⟩ = some v1 ∧ w.cell? ⟨x, q + 2, none⟩ = some v2) :
    (((w.setCell ⟨D, 0, none⟩ u0).setCell ⟨D, 1, none⟩ u1).setCell ⟨D, 2, none⟩ u2).cell? ⟨x, q, none⟩ = some v0 ∧ (((w.setCell ⟨D, 0, none⟩ u0).setCell ⟨D, 1, none⟩ u1).setCell ⟨D, 2, none⟩ u2).cell? ⟨x, q + 1, none⟩ = some v1 ∧
      (((w.setCell ⟨D, 0, none⟩ u0).setCell ⟨D, 1, none⟩ u1).setCell ⟨D, 2, none⟩ u2).cell? ⟨x, q + 2, none⟩ = some v2 := by
  have blk : (((w.setCell ⟨D, 0, none⟩ u0).setCell ⟨D, 1, none⟩ u1).setCell ⟨D, 2, none⟩ u2).heap[x]? = w.heap[x]? :=
    ((Below.heap_setCell _ _ _ _ hne).trans (Below.heap_setCell _ _ _ _ hne)).trans (Below.heap_setCell _ _ _ _ hne)
  exact ⟨(cell_of_block blk _).trans h.1, (cell_of_block blk _).trans h.2.1, (cell_of_block blk _).trans h.2.2⟩
/-- How many bytes Done gives. -/
def St.doneN (s : St) : Nat := if s.doneE = 0 then 13 + s.n else 0
theorem rdone_all {a ao : Option Addr} {c co : Nat} {s : St} (w : World) (h : RW w a c ao co s) :
    Calls Try.prog 11 #[rwV a c ao co s] w fun e w' => ∃ a1 c1, e = .returned (.tuple #[.slice a1 s.doneN c1, .int .i64 (s.doneE : Nat)]) ∧ Row w' a1 s.doneN (headF s.n s.f) ∧ Below w.heap.size w w' := by
  unfold St.doneN
  by_cases he : s.doneE = 0
  · rw [if_pos he]
    refine (rdone_ok w h he).mono ?_
    rintro e w' ⟨v, rfl, hO, -, hB⟩
    obtain ⟨a1, c1, rfl, hR⟩ := hO.row
    exact ⟨a1, c1, by rw [he]; rfl, hR, hB⟩
  · rw [if_neg he]
    refine (rdone_no w he).mono ?_
    rintro e w' ⟨rfl, hB⟩
    exact ⟨none, 0, rfl, Row.nil _ _ _, hB⟩
/-- n bytes of a block of its own since B, or none at all. -/
def OwnRow (B : Nat) (w : World) (a : Option Addr) (n : Nat) (f : Nat → Nat) : Prop := (a = none ∧ n = 0) ∨ ∃ G, a = some ⟨G, 0, none⟩ ∧ B ≤ G ∧ Holds w G n f
theorem OwnRow.row {B : Nat} {w : World} {a : Option Addr} {n : Nat} {f : Nat → Nat} (h : OwnRow B w a n f) : Row w a n f := by
  rcases h with ⟨rfl, rfl⟩ | ⟨G, rfl, _, h⟩
  · exact Row.nil _ _ _
  · exact h.row
theorem wdone_both {b : Nat} {v : Value} {s : St} (w : World) (h : Wr w b v s) :
    Calls Try.prog 12 #[.pointer (some ⟨b, 0, none⟩)] w fun e w' => ∃ a1 c1, e = .returned (.tuple #[.slice a1 s.doneN c1, .int .i64 (s.doneE : Nat)]) ∧ OwnRow w.heap.size w' a1 s.doneN (headF s.n s.f) ∧ Below w.heap.size w w' := by
  unfold St.doneN
  by_cases he : s.doneE = 0
  · rw [if_pos he]
    refine (wdone_ok w h he).mono ?_
    rintro e w' ⟨G, rfl, hH, hG, hB⟩
    exact ⟨_, _, by rw [he]; rfl, .inr ⟨G, rfl, hG, hH⟩, hB⟩
  · rw [if_neg he]
    refine (wdone_no w h he).mono ?_
    rintro e w' ⟨rfl, hB⟩
    exact ⟨none, 0, rfl, .inl ⟨rfl, rfl⟩, hB⟩
theorem spoil_nil (cap : Nat) (w : World) :
    Calls Try.prog 14 #[.slice none 0 cap] w fun e w' => (∃ v, e = .returned v) ∧ w' = w := by
  go_enter Try.func14, Try.ntmps14
  go_wp2_with fail
  go_loopw [2] (fun si wr => si = .int .i64 0 ∧ wr = w) (fun _ _ => 0)
  case atStart => exact ⟨rfl, rfl⟩
  case round =>
    obtain ⟨rfl, rfl⟩ := hrel
    go_wp2_with fail
    go_end0
    exact ⟨⟨_, rfl⟩, rfl⟩
theorem spoil_own {B : Nat} {a : Option Addr} {n c : Nat} {f : Nat → Nat} (w : World) (hn : n ≤ 140737488355328) (hB : B ≤ w.heap.size) (h : OwnRow B w a n f) :
    Calls Try.prog 14 #[.slice a n c] w fun e w' => (∃ v, e = .returned v) ∧ Below B w w' := by
  rcases h with ⟨rfl, rfl⟩ | ⟨G, rfl, hG, h⟩
  · refine (spoil_nil c w).mono ?_
    rintro e w' ⟨h1, rfl⟩
    exact ⟨h1, Below.refl _ _⟩
  · refine (spoil_any G n c f w hn h).mono ?_
    rintro e w' ⟨h1, h2⟩
    exact ⟨h1, ⟨h2.os, h2.tape, h2.output, h2.size, fun k hk => h2.block k (by omega) (fun e => by injection e with e; omega)⟩⟩
end Go.Proofs.Ytacnmnodbmbplaa
