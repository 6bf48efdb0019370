/-
  How a statement stands behind its board's making: the board, the plan, what was there before.
-/
import Derived.Test.YthhahhmdpjchkaaMade
import Derived.Test.YthhahhmdpjchkaaPlain
namespace Go.Proofs.Ythhahhmdpjchkaa
open Go.RowKit Go.Shelf

structure Stand (w : World) (P b R M X l n cap k : Nat) (f g : Nat → Nat) (r m : Int) (y : Nat) (W : World) : Prop where
  brd : Brd W b R M X l n cap k f g
  plan : Whole W P 23 #[.int .u8 l, .int .i64 r, .int .i64 m, .int .u8 y]
  bel : Below P w W
  hPM : P ≤ M
  hPb : P ≠ M
theorem Stand.step {w W W' : World} {P b R M X l n cap k : Nat} {f g : Nat → Nat} {r m : Int} {y : Nat} (h : Stand w P b R M X l n cap k f g r m y W) (hB : Below W.heap.size W W') : Stand w P b R M X l n cap k f g r m y W' :=
  ⟨h.brd.below hB, h.plan.below hB h.plan.lt, h.bel.trans (hB.mono (Nat.le_of_lt h.plan.lt)), h.hPM, h.hPb⟩
theorem Stand.drewN {w W : World} {P b R M X l n cap k : Nat} {f g : Nat → Nat} {r m : Int} {y : Nat} (h : Stand w P b R M X l n cap k f g r m y W) (q : Nat) : Stand w P b R M X l n cap k f g r m y (W.drewN q) :=
  h.step (below_drewN (Below.refl _ _) q)
theorem Stand.cells {w W : World} {P b R M X l n cap k : Nat} {f g : Nat → Nat} {r m : Int} {y : Nat} (h : Stand w P b R M X l n cap k f g r m y W) :
    W.cell? ⟨P, 0, none⟩ = some (.int .u8 l) ∧ W.cell? ⟨P, 1, none⟩ = some (.int .i64 r) ∧ W.cell? ⟨P, 2, none⟩ = some (.int .i64 m) ∧ W.cell? ⟨P, 3, none⟩ = some (.int .u8 y) :=
  ⟨h.plan.cell 0, h.plan.cell 1, h.plan.cell 2, h.plan.cell 3⟩
theorem Stand.decode {w W : World} {P b R M X l n cap k : Nat} {f g : Nat → Nat} {r m : Int} {y : Nat} (h : Stand w P b R M X l n cap k f g r m y W) (q : Nat) (hq : q < 4294967296) :
    Calls Try.prog 13 #[.pointer (some ⟨b, 0, none⟩), .int .u32 q] W fun e w' => e = .returned (.agg #[.int .u8 ((spot l n k q).1 : Nat), .int .i64 ((spot l n k q).2 : Nat)]) ∧ Stand w P b R M X l n cap k f g r m y w' :=
  (decode_any q W h.brd hq).mono fun _ _ ⟨he, hB⟩ => ⟨he, h.step hB⟩
theorem Stand.read {w W : World} {P b R M X l n cap k : Nat} {f g : Nat → Nat} {r m : Int} {y : Nat} (h : Stand w P b R M X l n cap k f g r m y W) (q : Nat) (hq : q < 4294967296) :
    Calls Try.prog 14 #[.pointer (some ⟨b, 0, none⟩), .int .u32 q] W fun e w' => e = .returned (.tuple #[.int .u8 (readN (spot l n k q) f g : Nat), .bool (decide ((spot l n k q).1 ≠ 0))]) ∧ Stand w P b R M X l n cap k f g r m y w' ∧ Below W.heap.size W w' :=
  (read_any q W h.brd hq).mono fun _ _ ⟨he, hB⟩ => ⟨he, h.step hB, hB⟩
theorem Stand.write {w W : World} {P b R M X l n cap k : Nat} {f g : Nat → Nat} {r m : Int} {y : Nat} (h : Stand w P b R M X l n cap k f g r m y W) (q x : Nat) (hq : q < 4294967296) (hx : x < 256) :
    Calls Try.prog 15 #[.pointer (some ⟨b, 0, none⟩), .int .u32 q, .int .u8 x] W fun e w' => e = .returned (.bool (decide ((spot l n k q).1 ≠ 0))) ∧ Stand w P b R M X l n cap k f (wrote (spot l n k q) g x) r m y w' ∧ W.grownBy w' (some M) :=
  (write_any q x W h.brd hq hx).mono fun _ _ ⟨he, hb, hO⟩ => ⟨he, ⟨hb, h.plan.only hO h.hPb, below_only h.bel hO h.hPM (Nat.le_of_lt h.plan.lt), h.hPM, h.hPb⟩, hO⟩
theorem Stand.ram {w W : World} {P b R M X l n cap k : Nat} {f g : Nat → Nat} {r m : Int} {y : Nat} (h : Stand w P b R M X l n cap k f g r m y W) :
    Calls Try.prog 16 #[.pointer (some ⟨b, 0, none⟩)] W fun e w' => ∃ G c, e = .returned (.slice (some ⟨G, 0, none⟩) k c) ∧ k ≤ c ∧ Holds w' G k g ∧ W.heap.size ≤ G ∧ Stand w P b R M X l n cap k f g r m y w' ∧ Below W.heap.size W w' :=
  (ram_any W h.brd).mono fun _ _ ⟨G, c, he, h1, h2, h3, hB⟩ => ⟨G, c, he, h1, h2, h3, h.step hB, hB⟩
end Go.Proofs.Ythhahhmdpjchkaa
