/-
  Attempts that are loaded and stored whole.
-/
import Derived.Test.YtekjcgckniopdaaBNst
import Derived.Test.YtekjcgckniopdaaBDecs
import Derived.Laws.Tables
namespace Go.Proofs.Ytekjcgckniopdaa
open Go.RowKit Go.Shelf
set_option maxRecDepth 100000
set_option maxHeartbeats 2000000
set_option linter.unusedVariables false
set_option linter.unusedSimpArgs false

theorem load_at {P : Program} {t : TypeId} {ad : Addr} {w : World} {r : Value} (h : (loadVar t ad).run P w = .ok r w) : (Instr.loadAt t (.pointer (some ad))).run P w = .ok r w := by
  simp [Instr.loadAt, Instr.sureAddr, h]
theorem store_at {P : Program} {t : TypeId} {ad : Addr} {w w' : World} {v : Value} (h : (storeVar t ad v).run P w = .ok () w') : (Instr.storeAt t (.pointer (some ad)) v).run P w = .ok () w' := by
  simp [Instr.storeAt, Instr.sureAddr, h]
theorem wpList_loadVar {P : Program} {ops : Array Oper} {rest : List Oper} {o : Oper} {a : Act} {Q : Exit → Act → World → Prop} {w : World} (hgd : o.guard = none) (t : TypeId) (x : Operand) (ho : o.op = .load t x) (ad : Addr) (r : Value) (hx : a.eval x = .pointer (some ad)) (hr : (Instr.loadAt t (.pointer (some ad))).run P w = .ok r w)
    (h : wpList P ops Q rest (a.put o.dst r) w) : wpList P ops Q (o :: rest) a w :=
  wpList_plain hgd fun _ hK => by
    unfold Oper.wp
    simp [execOp, ho, hx, hr, asAddr, Result.andThen]
    exact hK _ _ h
theorem wpList_storeVar {P : Program} {ops : Array Oper} {rest : List Oper} {o : Oper} {a : Act} {Q : Exit → Act → World → Prop} {w w' : World} (hgd : o.guard = none) (t : TypeId) (x y : Operand) (ho : o.op = .store t x y) (ad : Addr) (v : Value) (hx : a.eval x = .pointer (some ad)) (hy : a.eval y = v) (hr : (Instr.storeAt t (.pointer (some ad)) v).run P w = .ok () w')
    (h : wpList P ops Q rest (a.put o.dst undef) w') : wpList P ops Q (o :: rest) a w :=
  wpList_plain hgd fun _ hK => by
    unfold Oper.wp
    simp [execOp, ho, hx, hy, hr, asAddr, Result.andThen]
    exact hK _ _ h
theorem setRow_other {W : World} {g x : Nat} {cs ds : Array Value} {t : TypeId} (h : Whole W x t ds) (hne : x ≠ g) : Whole (W.setRow g cs) x t ds := by
  have : (W.setRow g cs).heap[x]? = W.heap[x]? := by
    simp only [World.setRow, Array.getElem?_modify]
    rw [if_neg (fun e => hne e.symm)]
  exact this.trans h
theorem below_setRow {B g : Nat} {w W : World} {cs : Array Value} (h : Below B w W) (hg : B ≤ g) : Below B w (W.setRow g cs) :=
  ⟨h.os, h.tape, h.output, by simpa [World.setRow] using h.size, fun k hk => by
    have : (W.setRow g cs).heap[k]? = W.heap[k]? := by
      simp only [World.setRow, Array.getElem?_modify]
      rw [if_neg (by omega)]
    exact this.trans (h.block k hk)⟩
/-- An attempt's cells. -/
def attA (far num p q : Int) (g : Nat → Nat) : Array Value := #[.int .i64 far, .int .i64 num, .int .i64 p, .int .i64 q, .int .u8 (g 0 : Nat), .int .u8 (g 1 : Nat), .int .u8 (g 2 : Nat), .int .u8 (g 3 : Nat), .int .u8 (g 4 : Nat), .int .u8 (g 5 : Nat), .int .u8 (g 6 : Nat), .int .u8 (g 7 : Nat), .int .u8 (g 8 : Nat)]
theorem attA_one (far num p q : Int) (g : Nat → Nat) : (attA far num p q g).all (·.oneCell') = true := by kernel_rfl
theorem load_att {W : World} {b : Nat} {far num p q : Int} {g : Nat → Nat} (h : Whole W b 69 (attA far num p q g)) : (Instr.loadAt 69 (.pointer (some ⟨b, 0, none⟩))).run Try.prog W = .ok (.agg (attA far num p q g)) W :=
  load_at (run_loadVar_row _ _ 69 69 (attA far num p q g) (0, 0) _ h Try.underlying69 rfl (by kernel_rfl))
theorem store_att {W : World} {b : Nat} {ds : Array Value} (far num p q : Int) (g : Nat → Nat) (h : Whole W b 69 ds) (hs : ds.size = 13) : (Instr.storeAt 69 (.pointer (some ⟨b, 0, none⟩)) (.agg (attA far num p q g))).run Try.prog W = .ok () (W.setRow b (attA far num p q g)) ∧ Whole (W.setRow b (attA far num p q g)) b 69 (attA far num p q g) :=
  ⟨store_at (run_storeVar_row _ _ 69 69 ds (attA far num p q g) h (by kernel_rfl) (hs.trans rfl) (attA_one far num p q g)), setRow_heap _ _ _ _ _ (0, 0) h⟩
end Go.Proofs.Ytekjcgckniopdaa
