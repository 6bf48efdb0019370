/-
  The number of an operand, by the code.
-/
import Derived.Test.YtlogijjgachdjaaDoorClo
namespace Go.Proofs.YtlogijjgachdjaaDoor
open Go.RowKit
set_option maxRecDepth 100000
set_option maxHeartbeats 1000000
set_option linter.unusedVariables false

/-- Has a form the letter r? -/
def hasR (l : List Nat) : Bool := l.contains 114
theorem hasR_at (c : Nat) (hc : c < 256) : decide (0 ≤ Lib.indexByte ((fmL c).map UInt8.ofNat) 114) = hasR (fmL c) := (show ∀ c, c < 256 → decide (0 ≤ Lib.indexByte ((fmL c).map UInt8.ofNat) 114) = hasR (fmL c) by decide +kernel) c hc
theorem bsOf_toList (l : List Nat) : (bsOf l).toList = l.map UInt8.ofNat := by simp [bsOf]
theorem toList_data (S : ByteArray) : S.toList = S.data.toList := by
  have h : S = bsOf (S.data.toList.map UInt8.toNat) := bytes_of rfl
  have h2 := bsOf_toList (S.data.toList.map UInt8.toNat)
  rw [← h] at h2
  rw [h2, List.map_map]
  have : (UInt8.ofNat ∘ UInt8.toNat) = id := by funext x; simp
  rw [this, List.map_id]
theorem index_r (S : ByteArray) (w : World) : Calls Tryd.prog 68 #[.string S, .string ⟨#[114]⟩] w fun e w' => e = .returned (.int .i64 (Lib.indexByte S.data.toList 114)) ∧ w' = w := by
  have H := fun W => Tryd.stringslite_IndexByte S 114 W
  rw [show ((114 : Int).toNat.toUInt8 : UInt8) = 114 by decide] at H
  have hx : ([114] == S.toList) = true → Lib.indexByte S.data.toList 114 = 0 := by
    intro h
    have h1 : S.data.toList = [114] := by rw [← toList_data]; exact (eq_of_beq h).symm
    rw [h1]
    decide
  generalize Lib.indexByte S.data.toList 114 = x at *
  replace H := Lib.hid H
  cases hq : ([114] == S.toList) with
  | true =>
    have hx0 := hx hq
    subst hx0
    clear hx H
    go_enter Tryd.func68, Tryd.ntmps68
    go_wp2_with fail
    go_ret
    exact ⟨rfl, rfl⟩
  | false =>
    clear hx
    go_enter Tryd.func68, Tryd.ntmps68
    go_wp2_with (refine (H.out _).mono ?_; rintro e w' ⟨rfl, rfl⟩)
    go_ret
    exact ⟨rfl, rfl⟩
theorem contains_any (c : Nat) (w : World) (hc : c < 256) : Calls Tryd.prog 56 #[.string (fmF c), .string ⟨#[114]⟩] w fun e w' => e = .returned (.bool (hasR (fmL c))) ∧ w' = w := by
  have h := hasR_at c hc
  have H := fun W => index_r (fmF c) W
  rw [show (fmF c).data.toList = (fmL c).map UInt8.ofNat from bsOf_list _] at H
  rw [← h]
  generalize Lib.indexByte ((fmL c).map UInt8.ofNat) 114 = x at *
  generalize fmF c = S at *
  clear h
  have H2 : ∀ W, Calls Tryd.prog 63 #[.string S, .string ⟨#[114]⟩] W fun e w' => e = .returned (.int .i64 x) ∧ w' = W := by
    intro W
    replace H := Lib.hid H
    go_enter Tryd.func63, Tryd.ntmps63
    go_wp2_with (refine (H.out _).mono ?_; rintro e w' ⟨rfl, rfl⟩)
    go_ret
    exact ⟨rfl, rfl⟩
  clear H
  replace H2 := Lib.hid H2
  go_enter Tryd.func56, Tryd.ntmps56
  go_wp2_with (refine (H2.out _).mono ?_; rintro e w' ⟨rfl, rfl⟩)
  go_ret
  exact ⟨rfl, rfl⟩
/-- Where the bytes of an operand lie, behind the code; its number. -/
def plF (l : List Nat) (i : Nat) : Nat := 1 + byL (if hasR l = true then l.take i else l.drop (i + 1))
def nuF (l : List Nat) (i : Nat) (f : Nat → Nat) : Nat := if wdF (l.getD i 0) = 1 then f (plF l i) else if wdF (l.getD i 0) = 2 then f (plF l i) + 256 * f (plF l i + 1) else 0
theorem pl_all (c : Nat) (hc : c < 256) (i : Nat) (hi : i < (fmL c).length) : plF (fmL c) i + wdF ((fmL c).getD i 0) ≤ szF c ∧ (i = 0 ∨ i = 1) :=
  ⟨(show ∀ c, c < 256 → ∀ i, i < (fmL c).length → plF (fmL c) i + wdF ((fmL c).getD i 0) ≤ szF c by decide +kernel) c hc i hi, by have := fmL_le c hc; omega⟩
theorem or_u16 (a b : Nat) (ha : a < 256) (hb : b < 256) : bits BinOp.or IntKind.u16 (a : Int) ((b : Int) * 256) = (a : Int) + 256 * (b : Int) := by
  have e : (BitVec.ofInt 16 (a : Int) ||| BitVec.ofInt 16 ((b : Int) * 256)).toNat = a + 256 * b := by
    rw [BitVec.toNat_or, BitVec.toNat_ofInt, BitVec.toNat_ofInt]
    have a1 : ((a : Int) % ((2 ^ 16 : Nat) : Int)).toNat = a := by omega
    have a2 : (((b : Int) * 256) % ((2 ^ 16 : Nat) : Int)).toNat = b * 2 ^ 8 := by omega
    rw [a1, a2, Nat.or_comm, ← Nat.shiftLeft_eq, ← Nat.shiftLeft_add_eq_or_of_lt (by omega), Nat.shiftLeft_eq]
    omega
  show IntKind.u16.wrap ((BitVec.ofInt 16 (a : Int) ||| BitVec.ofInt 16 ((b : Int) * 256)).toNat : Nat) = _
  rw [e]
  simp only [IntKind.wrap_u16]
  omega
theorem number_core (S D T : ByteArray) (i x y bd bt g o n cap k : Nat) (r : Bool) (f : Nat → Nat) (w : World) (hS : i < S.size) (hx : (S[i]'hS).toNat = x) (hSS : S.size ≤ 2) (e1 : S.extract (i + 1) S.size = D) (e2 : S.extract 0 i = T)
    (HC : ∀ W, Calls Tryd.prog 56 #[.string S, .string ⟨#[114]⟩] W fun e w' => e = .returned (.bool r) ∧ w' = W)
    (HD : ∀ W, Calls Tryd.prog 23 #[.string D] W fun e w' => e = .returned (.int .i64 bd) ∧ Below W.heap.size W w')
    (HT : ∀ W, Calls Tryd.prog 23 #[.string T] W fun e w' => e = .returned (.int .i64 bt) ∧ Below W.heap.size W w')
    (HW : ∀ W, Calls Tryd.prog 11 #[.int .u8 x] W fun e w' => e = .returned (.int .i64 y) ∧ w' = W)
    (hy : y ≤ 2) (hk : k = 1 + if r = true then bt else bd) (hk6 : k ≤ 6) (hn : k + y ≤ n) (hcap : n ≤ cap)
    (hb : ∀ j, j < n → f j < 256 ∧ w.cell? ⟨g, o + j, none⟩ = some (.int .u8 (f j : Nat))) (hg : g < w.heap.size) :
    Calls Tryd.prog 38 #[.string S, .int .i64 i, .slice (some ⟨g, o, none⟩) n cap] w fun e w' => e = .returned (.int .u16 ((if y = 1 then f k else if y = 2 then f k + 256 * f (k + 1) else 0 : Nat) : Int)) ∧ Below w.heap.size w w' := by
  replace HC := Lib.hid HC
  replace HD := Lib.hid HD
  replace HT := Lib.hid HT
  replace HW := Lib.hid HW
  have hy3 : y = 0 ∨ y = 1 ∨ y = 2 := by omega
  cases r with
  | true =>
    obtain rfl : k = 1 + bt := hk
    generalize hk1 : 1 + bt = k at *
    have hk2 : 1 + (bt : Int) = (k : Int) := by omega
    have hk3 : (bt : Int) + 1 = (k : Int) := by omega
    have HB := HT
    clear HD HT
    replace hk1 := Lib.hid hk1
    rcases hy3 with rfl | rfl | rfl
    · go_enter Tryd.func38, Tryd.ntmps38
      go_wp2_with fail
      with_reducible refine (HC.out _).mono ?_
      rintro e w1 ⟨rfl, rfl⟩
      go_wp2_with fail
      with_reducible refine (HB.out _).mono ?_
      rintro e W2 ⟨rfl, hB⟩
      clear hb
      go_wp2_with fail
      all_goals
        refine (HW.out _).mono ?_
        rintro e w3 ⟨rfl, rfl⟩
        go_wp2_with fail
        go_ret
        exact ⟨rfl, hB⟩
    · go_enter Tryd.func38, Tryd.ntmps38
      go_wp2_with fail
      with_reducible refine (HC.out _).mono ?_
      rintro e w1 ⟨rfl, rfl⟩
      go_wp2_with fail
      with_reducible refine (HB.out _).mono ?_
      rintro e W2 ⟨rfl, hB⟩
      have c1 := (hB.cell (p := ⟨g, o + k, none⟩) hg).trans (hb k (by omega)).2
      have v1 := (hb k (by omega)).1
      clear hb
      go_wp2_with fail
      all_goals
        refine (HW.out _).mono ?_
        rintro e w3 ⟨rfl, rfl⟩
        go_wp2_with fail
        go_ret
        exact ⟨rfl, hB⟩
    · go_enter Tryd.func38, Tryd.ntmps38
      go_wp2_with fail
      with_reducible refine (HC.out _).mono ?_
      rintro e w1 ⟨rfl, rfl⟩
      go_wp2_with fail
      with_reducible refine (HB.out _).mono ?_
      rintro e W2 ⟨rfl, hB⟩
      have c1 := (hB.cell (p := ⟨g, o + k, none⟩) hg).trans (hb k (by omega)).2
      have v1 := (hb k (by omega)).1
      have c2 := (hB.cell (p := ⟨g, o + (k + 1), none⟩) hg).trans (hb (k + 1) (by omega)).2
      have v2 := (hb (k + 1) (by omega)).1
      have hor := or_u16 (f k) (f (k + 1)) v1 v2
      have c3 : W2.cell? ⟨g, o + k + 1, none⟩ = some (.int .u8 (f (k + 1) : Nat)) := by rw [Nat.add_assoc]; exact c2
      clear hb
      go_wp2_with fail
      all_goals
        refine (HW.out _).mono ?_
        rintro e w3 ⟨rfl, rfl⟩
        go_wp2_with fail
        go_quiet (fail)
        go_wp2_with fail
        go_ret
        exact ⟨rfl, below_drewN hB _⟩
  | false =>
    obtain rfl : k = 1 + bd := hk
    generalize hk1 : 1 + bd = k at *
    have hk2 : 1 + (bd : Int) = (k : Int) := by omega
    have hk3 : (bd : Int) + 1 = (k : Int) := by omega
    have HB := HD
    clear HD HT
    replace hk1 := Lib.hid hk1
    rcases hy3 with rfl | rfl | rfl
    · go_enter Tryd.func38, Tryd.ntmps38
      go_wp2_with fail
      with_reducible refine (HC.out _).mono ?_
      rintro e w1 ⟨rfl, rfl⟩
      go_wp2_with fail
      with_reducible refine (HB.out _).mono ?_
      rintro e W2 ⟨rfl, hB⟩
      clear hb
      go_wp2_with fail
      all_goals
        refine (HW.out _).mono ?_
        rintro e w3 ⟨rfl, rfl⟩
        go_wp2_with fail
        go_ret
        exact ⟨rfl, hB⟩
    · go_enter Tryd.func38, Tryd.ntmps38
      go_wp2_with fail
      with_reducible refine (HC.out _).mono ?_
      rintro e w1 ⟨rfl, rfl⟩
      go_wp2_with fail
      with_reducible refine (HB.out _).mono ?_
      rintro e W2 ⟨rfl, hB⟩
      have c1 := (hB.cell (p := ⟨g, o + k, none⟩) hg).trans (hb k (by omega)).2
      have v1 := (hb k (by omega)).1
      clear hb
      go_wp2_with fail
      all_goals
        refine (HW.out _).mono ?_
        rintro e w3 ⟨rfl, rfl⟩
        go_wp2_with fail
        go_ret
        exact ⟨rfl, hB⟩
    · go_enter Tryd.func38, Tryd.ntmps38
      go_wp2_with fail
      with_reducible refine (HC.out _).mono ?_
      rintro e w1 ⟨rfl, rfl⟩
      go_wp2_with fail
      with_reducible refine (HB.out _).mono ?_
      rintro e W2 ⟨rfl, hB⟩
      have c1 := (hB.cell (p := ⟨g, o + k, none⟩) hg).trans (hb k (by omega)).2
      have v1 := (hb k (by omega)).1
      have c2 := (hB.cell (p := ⟨g, o + (k + 1), none⟩) hg).trans (hb (k + 1) (by omega)).2
      have v2 := (hb (k + 1) (by omega)).1
      have hor := or_u16 (f k) (f (k + 1)) v1 v2
      have c3 : W2.cell? ⟨g, o + k + 1, none⟩ = some (.int .u8 (f (k + 1) : Nat)) := by rw [Nat.add_assoc]; exact c2
      clear hb
      go_wp2_with fail
      all_goals
        refine (HW.out _).mono ?_
        rintro e w3 ⟨rfl, rfl⟩
        go_wp2_with fail
        go_quiet (fail)
        go_wp2_with fail
        go_ret
        exact ⟨rfl, below_drewN hB _⟩
attribute [local irreducible] byL wdF plF
/-- The number of an operand whose code's bytes lie there. -/
theorem number_any (c i g o n cap : Nat) (f : Nat → Nat) (w : World) (hc : c < 256) (hi : i < (fmL c).length) (hn : szF c ≤ n) (hcap : n ≤ cap)
    (hb : ∀ j, j < n → f j < 256 ∧ w.cell? ⟨g, o + j, none⟩ = some (.int .u8 (f j : Nat))) (hg : g < w.heap.size) :
    Calls Tryd.prog 38 #[.string (fmF c), .int .i64 i, .slice (some ⟨g, o, none⟩) n cap] w fun e w' => e = .returned (.int .u16 (nuF (fmL c) i f : Nat)) ∧ Below w.heap.size w w' := by
  have hfl := (fm_all c hc).1
  have hle := fmL_le c hc
  have hsz := bsOf_size (fmL c)
  obtain ⟨hp, hi2⟩ := pl_all c hc i hi
  have hlt : (fmL c).getD i 0 < 128 := by rw [List.getD_eq_getElem?_getD, List.getElem?_eq_getElem hi]; exact hfl _ (List.getElem_mem _)
  have hS : i < (bsOf (fmL c)).size := by omega
  have hb1 := byL_le ((fmL c).drop (i + 1))
  have hb2 := byL_le ((fmL c).take i)
  rw [List.length_drop] at hb1
  rw [List.length_take] at hb2
  exact number_core (bsOf (fmL c)) (bsOf ((fmL c).drop (i + 1))) (bsOf ((fmL c).take i)) i ((fmL c).getD i 0) (wdF ((fmL c).getD i 0)) (byL ((fmL c).drop (i + 1))) (byL ((fmL c).take i)) g o n cap (plF (fmL c) i) (hasR (fmL c)) f w hS
    (bsOf_byte _ i hS (by omega)) (by omega) (by rw [bsOf_size, bsOf_extract, List.take_of_length_le (by rw [List.length_drop]; omega)]) (by rw [bsOf_extract, List.drop_zero, Nat.sub_zero])
    (fun W => contains_any c W hc) (fun W => bytesOf_any ((fmL c).drop (i + 1)) W (fun x hx => hfl x (List.mem_of_mem_drop hx)) (by rw [List.length_drop]; omega)) (fun W => bytesOf_any ((fmL c).take i) W (fun x hx => hfl x (List.mem_of_mem_take hx)) (by rw [List.length_take]; omega))
    (fun W => width_any ((fmL c).getD i 0) W (by omega)) (wdF_le _) (by unfold plF; cases hasR (fmL c) <;> rfl) (by unfold plF; cases hasR (fmL c) <;> simp <;> omega) (by omega) hcap hb hg
end Go.Proofs.YtlogijjgachdjaaDoor
