/-
  The document's writer: what it is, and its Done.
-/
import Derived.Test.YtacnmnodbmbplaaRHead
namespace Go.Proofs.Ytacnmnodbmbplaa
open Go.RowKit Go.Shelf
set_option maxRecDepth 100000
set_option maxHeartbeats 1000000

/-- Numbers that are read. -/
def IRow (w : World) (a : Option Addr) (n : Nat) (f : Nat → Nat) : Prop := n = 0 ∨ ∃ b o, a = some ⟨b, o, none⟩ ∧ b < w.heap.size ∧ ∀ i, i < n → w.cell? ⟨b, o + i, none⟩ = some (.int .i64 (f i : Nat))
theorem IRow.below {w w' : World} {a : Option Addr} {n : Nat} {f : Nat → Nat} (h : IRow w a n f) (hb : Below w.heap.size w w') : IRow w' a n f :=
  h.imp id fun ⟨b, o, h1, h2, h3⟩ => ⟨b, o, h1, Nat.lt_of_lt_of_le h2 hb.size, fun i hi => (hb.cell (p := ⟨b, o + i, none⟩) h2).trans (h3 i hi)⟩
/-- The document's writer. -/
structure RW (w : World) (a : Option Addr) (c : Nat) (ao : Option Addr) (co : Nat) (s : St) : Prop where
  body : Row w a s.n s.f
  opens : IRow w ao s.op s.ps
  le : s.op ≤ co
  len : s.n ≤ c
  good : s.Good
def rwV (a : Option Addr) (c : Nat) (ao : Option Addr) (co : Nat) (s : St) : Value := .agg #[.slice a s.n c, .slice ao s.op co, .int .i64 (s.e : Nat)]
theorem RW.below {w w' : World} {a ao : Option Addr} {c co : Nat} {s : St} (h : RW w a c ao co s) (hb : Below w.heap.size w w') : RW w' a c ao co s := ⟨h.body.below hb, h.opens.below hb, h.le, h.len, h.good⟩
theorem rdone_no {a ao : Option Addr} {c co : Nat} {s : St} (w : World) (he : s.doneE ≠ 0) :
    Calls Try.prog 11 #[rwV a c ao co s] w fun e w' => e = .returned (.tuple #[.slice none 0 0, .int .i64 (s.doneE : Nat)]) ∧ Below w.heap.size w w' := by
  have hB := (Below.refl w.heap.size w).alloc (Nat.le_refl _) (.cells #[.slice a s.n c, .slice ao s.op co, .int .i64 (s.e : Nat)] 29)
  have hX := Whole.fresh w 29 #[.slice a s.n c, .slice ao s.op co, .int .i64 (s.e : Nat)]
  unfold rwV
  by_cases h0 : s.e = 0
  · have h1 : 0 < s.op := by
      unfold St.doneE at he
      rw [if_pos h0] at he
      by_cases h1 : 0 < s.op
      · exact h1
      · rw [if_neg h1] at he; exact absurd rfl he
    have hE : s.doneE = 50 := by unfold St.doneE; rw [if_pos h0, if_pos h1]
    rw [hE]
    have t0 : ((s.e : Int) != 0) = false := by rw [bne_eq_false_iff_eq]; omega
    have t1 : (0 : Int) < (s.op : Int) := by omega
    clear he hE h0
    generalize s.op = op at *
    generalize s.e = E at *
    generalize s.n = n at *
    go_enter Try.func11, Try.ntmps11
    go_upto_region 1 with (fail)
    generalize w.alloc (.cells #[.slice a n c, .slice ao op co, .int .i64 (E : Nat)] 29) = W0 at *
    have c1 := hX.cell 1
    have c2 := hX.cell 2
    simp only [List.getElem?_toArray, List.getElem?_cons_zero, List.getElem?_cons_succ] at c1 c2
    go_wp2_with fail
    go_ret2
    exact ⟨rfl, hB⟩
  · have hE : s.doneE = s.e := by unfold St.doneE; rw [if_neg h0]
    rw [hE]
    have t0 : ((s.e : Int) != 0) = true := by rw [bne_iff_ne]; omega
    clear he hE h0
    generalize s.op = op at *
    generalize s.e = E at *
    generalize s.n = n at *
    go_enter Try.func11, Try.ntmps11
    go_upto_region 1 with (fail)
    generalize w.alloc (.cells #[.slice a n c, .slice ao op co, .int .i64 (E : Nat)] 29) = W0 at *
    have c2 := hX.cell 2
    simp only [List.getElem?_toArray, List.getElem?_cons_zero, List.getElem?_cons_succ] at c2
    go_upto_region 2 with (fail)
    go_quiet (fail)
    have hB2 := below_drewN hB nq
    generalize W0.drewN nq = W1 at *
    go_wp2_with fail
    go_ret2
    exact ⟨rfl, hB2⟩
theorem rdone_ok {a ao : Option Addr} {c co : Nat} {s : St} (w : World) (h : RW w a c ao co s) (he : s.doneE = 0) :
    Calls Try.prog 11 #[rwV a c ao co s] w fun e w' => ∃ v, e = .returned (.tuple #[v, .int .i64 0]) ∧ Owns w' v (13 + s.n) (headF s.n s.f) ∧ From w.heap.size v ∧ Below w.heap.size w w' := by
  have he0 : s.e = 0 := by
    unfold St.doneE at he
    by_cases h0 : s.e = 0
    · exact h0
    · rw [if_neg h0] at he; exact he
  have hop : s.op = 0 := by
    unfold St.doneE at he
    rw [if_pos he0] at he
    by_cases h1 : 0 < s.op
    · rw [if_pos h1] at he; cases he
    · omega
  have hB := (Below.refl w.heap.size w).alloc (Nat.le_refl _) (.cells #[.slice a s.n c, .slice ao s.op co, .int .i64 (s.e : Nat)] 29)
  have hX := Whole.fresh w 29 #[.slice a s.n c, .slice ao s.op co, .int .i64 (s.e : Nat)]
  have hR := h.body.below hB
  have HH := Lib.hid (fun W (hR : Row W a s.n s.f) => rheaded_any a s.n c s.f W hR h.good.n)
  unfold rwV
  rw [he0, hop] at hB hX hR ⊢
  clear h he he0 hop
  generalize s.n = n at *
  go_enter Try.func11, Try.ntmps11
  go_upto_region 1 with (fail)
  have e0 : ((0 : Nat) : Int) = 0 := rfl
  rw [e0] at hB hX hR
  generalize w.alloc (.cells #[.slice a n c, .slice ao 0 co, .int .i64 0] 29) = W0 at *
  have c0 := hX.cell 0
  have c1 := hX.cell 1
  have c2 := hX.cell 2
  simp only [List.getElem?_toArray, List.getElem?_cons_zero, List.getElem?_cons_succ] at c0 c1 c2
  go_wp2_with fail
  refine (HH.out _ hR).mono ?_
  rintro e W2 ⟨v, rfl, hO, hF, hB2⟩
  have hB3 := hB.trans (hB2.mono hB.size)
  have hF2 : From w.heap.size v := fun x hx => Nat.le_trans hB.size (hF x hx)
  clear HH hF hB2 hR
  go_wp2_with fail
  go_ret2
  exact ⟨v, rfl, hO, hF2, hB3⟩
end Go.Proofs.Ytacnmnodbmbplaa
