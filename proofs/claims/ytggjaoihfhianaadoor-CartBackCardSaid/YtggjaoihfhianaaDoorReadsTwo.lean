/-
  Read, by the code and by the document, side by side: one cartridge, or one reason.
-/
import Derived.Test.YtggjaoihfhianaaDoorRReadA
import Derived.Test.YtggjaoihfhianaaDoorReadBad
import Derived.Test.YtggjaoihfhianaaDoorReadOk
namespace Go.Proofs.YtggjaoihfhianaaDoor
open Go.RowKit Go.Shelf
set_option maxRecDepth 100000
set_option maxHeartbeats 2000000

/-- Blocks from B on are as they were. -/
def Kept (B : Nat) (w W : World) : Prop := w.heap.size ≤ W.heap.size ∧ ∀ b, B ≤ b → b < w.heap.size → W.heap[b]? = w.heap[b]?
theorem Kept.trans {B : Nat} {a w W : World} (h : Kept B a w) (k : Kept B w W) : Kept B a W := ⟨Nat.le_trans h.1 k.1, fun b hB hb => (k.2 b hB (Nat.lt_of_lt_of_le hb h.1)).trans (h.2 b hB hb)⟩
theorem Kept.of_below {B C : Nat} {w W : World} (h : Below C w W) (hC : w.heap.size ≤ C) : Kept B w W := ⟨h.size, fun b _ hb => h.block b (Nat.lt_of_lt_of_le hb hC)⟩
theorem Kept.of_only {B g : Nat} {w W : World} (h : w.grownBy W (some g)) (hg : g < B) : Kept B w W := ⟨h.size, fun b hB hb => h.block b hb (fun e => by injection e with e; omega)⟩
theorem Whole.kept {B g : Nat} {w W : World} {t : TypeId} {cs : Array Value} (h : Whole w g t cs) (k : Kept B w W) (hg : B ≤ g) : Whole W g t cs := (k.2 g hg h.lt).trans h
theorem Holds.kept {B g n : Nat} {w W : World} {f : Nat → Nat} (h : Holds w g n f) (k : Kept B w W) (hg : B ≤ g) : Holds W g n f := let ⟨cs, h, r⟩ := h; ⟨cs, h.kept k hg, r⟩
theorem below_only {B g : Nat} {w W : World} (o : w.grownBy W (some g)) (hB : B ≤ g) (hs : B ≤ w.heap.size) : Below B w W := ⟨o.os, o.tape, o.output, o.size, fun k hk => o.block k (Nat.lt_of_lt_of_le hk hs) (fun e => by injection e with e; omega)⟩

theorem readE_sig {m sl : Nat} {g : Nat → Nat} (hE : readE m g sl = 0) (hc : chipN (gotG m g 22) = 1) : sl = 8192 := by
  unfold readE at hE
  split at hE
  · cases hE
  split at hE
  · cases hE
  split at hE
  · cases hE
  split at hE
  · cases hE
  split at hE
  · cases hE
  · rename_i h
    exact Decidable.byContradiction fun hs => h ⟨hc, hs⟩

theorem reads_two (n sl : Nat) (f sg : Nat → Nat) (hn : n ≤ 8392704) :
    ∃ (l c : Nat) (ram : Int) (t : ByteArray) (z : Nat) (fast : Bool) (m k : Nat) (f' g' : Nat → Nat) (E : Int), m ≤ 140737488355328 ∧ k ≤ 140737488355328 ∧
      (∀ W b sb, Holds W b n f → Holds W sb sl sg → Calls Tryd.prog 8 #[.slice (some ⟨b, 0, none⟩) n n, .slice (some ⟨sb, 0, none⟩) sl sl] W fun e w' => ∃ ra ca sa da, e = .returned (.tuple #[cartA l c (.slice ra m ca) ram t z fast (.slice sa k da), .int .i64 E]) ∧ Below W.heap.size W w' ∧ ∀ W', Below W.heap.size W W' → Row W' ra m f' ∧ Row W' sa k g') ∧
      (∀ W b sb, Holds W b n f → Holds W sb sl sg → Calls Tryd.prog 10 #[.slice (some ⟨b, 0, none⟩) n n, .slice (some ⟨sb, 0, none⟩) sl sl] W fun e w' => ∃ ra ca sa da, e = .returned (.tuple #[cartA l c (.slice ra m ca) ram t z fast (.slice sa k da), .int .i64 E]) ∧ Below W.heap.size W w' ∧ ∀ W', Kept W.heap.size w' W' → Row W' ra m f' ∧ Row W' sa k g') := by
  by_cases hE : readE (n - headN n) (at2 f (headN n)) sl = 0
  · by_cases hch : chipN (gotG (n - headN n) (at2 f (headN n)) 22) = 1
    · have hsl := readE_sig hE hch
      refine ⟨bestN (n - headN n) (at2 f (headN n)), chipN (gotG (n - headN n) (at2 f (headN n)) 22), ramN (gotG (n - headN n) (at2 f (headN n)) 24), titleS (gotG (n - headN n) (at2 f (headN n))), gotG (n - headN n) (at2 f (headN n)) 60 + gotG (n - headN n) (at2 f (headN n)) 61 * 256, fastB (gotG (n - headN n) (at2 f (headN n)) 21), n - headN n, sl, at2 f (headN n), sg, 0, by omega, by omega, fun W b sb hb hs => ?_, fun W b sb hb hs => ?_⟩
      · refine (rreadAll_any b 0 n n sl sl (some ⟨sb, 0, none⟩) f W (Nat.le_refl _) hb.row).mono fun e w' ⟨bR, oR, ⟨cR, he⟩, hB, hR⟩ => ?_
        subst he
        refine ⟨some ⟨bR, oR, none⟩, cR, some ⟨sb, 0, none⟩, sl, ?_, hB, fun W' hW' => ⟨hR W' hW', hs.row.below hW'⟩⟩
        rw [hE, show ∀ a b, pick ((0 : Int) = 0) a b = a from fun a b => if_pos rfl, hch, show ∀ a b, pick (1 = 1) a b = a from fun a b => if_pos rfl]
        unfold readV
        rw [hch]
      · refine (readSig_any b 0 n n sl sl sb 0 f sg W hn (Nat.le_refl _) hb.row hch hsl hs.row hE).mono fun e w' ⟨G1, cap1, G2, cap2, he, hB, h1, g1, h2, g2, _⟩ => ?_
        subst he
        exact ⟨some ⟨G1, 0, none⟩, cap1, some ⟨G2, 0, none⟩, cap2, rfl, hB, fun W' hW' => ⟨(h1.kept hW' g1).row, (h2.kept hW' g2).row⟩⟩
    · refine ⟨bestN (n - headN n) (at2 f (headN n)), chipN (gotG (n - headN n) (at2 f (headN n)) 22), ramN (gotG (n - headN n) (at2 f (headN n)) 24), titleS (gotG (n - headN n) (at2 f (headN n))), gotG (n - headN n) (at2 f (headN n)) 60 + gotG (n - headN n) (at2 f (headN n)) 61 * 256, fastB (gotG (n - headN n) (at2 f (headN n)) 21), n - headN n, 0, at2 f (headN n), sg, 0, by omega, by omega, fun W b sb hb hs => ?_, fun W b sb hb hs => ?_⟩
      · refine (rreadAll_any b 0 n n sl sl (some ⟨sb, 0, none⟩) f W (Nat.le_refl _) hb.row).mono fun e w' ⟨bR, oR, ⟨cR, he⟩, hB, hR⟩ => ?_
        subst he
        refine ⟨some ⟨bR, oR, none⟩, cR, none, 0, ?_, hB, fun W' hW' => ⟨hR W' hW', Row.nil _ _ _⟩⟩
        rw [hE, show ∀ a b, pick ((0 : Int) = 0) a b = a from fun a b => if_pos rfl, show ∀ a b, pick (chipN (gotG (n - headN n) (at2 f (headN n)) 22) = 1) a b = b from fun a b => if_neg hch]
        rfl
      · refine (readNo_any b 0 n n sl sl (some ⟨sb, 0, none⟩) f W hn (Nat.le_refl _) hb.row hch hE).mono fun e w' ⟨G1, cap1, he, hB, h1, g1, _⟩ => ?_
        subst he
        exact ⟨some ⟨G1, 0, none⟩, cap1, none, 0, rfl, hB, fun W' hW' => ⟨(h1.kept hW' g1).row, Row.nil _ _ _⟩⟩
  · refine ⟨0, 0, 0, ⟨#[]⟩, 0, false, 0, 0, f, sg, readE (n - headN n) (at2 f (headN n)) sl, by decide, by decide, fun W b sb hb hs => ?_, fun W b sb hb hs => ?_⟩
    · refine (rreadAll_any b 0 n n sl sl (some ⟨sb, 0, none⟩) f W (Nat.le_refl _) hb.row).mono fun e w' ⟨bR, oR, ⟨cR, he⟩, hB, hR⟩ => ?_
      subst he
      refine ⟨none, 0, none, 0, ?_, hB, fun W' hW' => ⟨Row.nil _ _ _, Row.nil _ _ _⟩⟩
      rw [show ∀ a b, pick (readE (n - headN n) (at2 f (headN n)) sl = 0) a b = b from fun a b => if_neg hE]
      rfl
    · refine (readBad_any b 0 n n sl sl (some ⟨sb, 0, none⟩) f W hn (Nat.le_refl _) hb.row hE).mono fun e w' ⟨he, hB⟩ => ?_
      subst he
      exact ⟨none, 0, none, 0, rfl, hB, fun W' hW' => ⟨Row.nil _ _ _, Row.nil _ _ _⟩⟩
end Go.Proofs.YtggjaoihfhianaaDoor
