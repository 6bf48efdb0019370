/-
  An operand's text, by the document.
-/
import Derived.Test.YtmbpkpideepghaaDoorDig
namespace Go.Proofs.YtmbpkpideepghaaDoor
open Go.RowKit
set_option maxRecDepth 100000
set_option maxHeartbeats 1000000
set_option linter.unusedVariables false

/-- A mode's sign, as a list. -/
def sgL (m : Nat) : List Nat := partL 124 signN m
theorem signF_list (m : Nat) : signF m = bytesN (sgL m) := partF_list _ signN_byte _ _
/-- Does a letter of a sign stand for the operand's number? -/
def isNum (s : Nat) : Bool := s == 100 || s == 97 || s == 108
theorem sgL_form : ∀ m, m < 26 → 5 ≤ m → m ≠ 23 → m < 24 → formL m = (sgL m).map fun s => if isNum s then 110 else s := by decide +kernel
theorem sgL_plainB : ∀ m, m < 26 → 5 ≤ m → m ≠ 23 → m < 24 → ((sgL m).all fun s => decide (s < 128) && (isNum s || (s != 110 && s != 116 && s != 49 && s != 50))) = true := by decide +kernel
theorem sgL_plain (m : Nat) (h0 : m < 26) (h1 : 5 ≤ m) (h2 : m ≠ 23) (h3 : m < 24) : ∀ s ∈ sgL m, s < 128 ∧ (isNum s = false → s ≠ 110 ∧ s ≠ 116 ∧ s ≠ 49 ∧ s ≠ 50) := by
  intro s hs
  have h := List.all_eq_true.1 (sgL_plainB m h0 h1 h2 h3) s hs
  simp only [Bool.and_eq_true, decide_eq_true_eq, Bool.or_eq_true, bne_iff_ne, ne_eq] at h
  refine ⟨h.1, fun hn => ?_⟩
  rcases h.2 with h | h
  · rw [hn] at h; cases h
  · exact ⟨h.1.1.1, h.1.1.2, h.1.2, h.2⟩
theorem sgL_len : ∀ m, m < 26 → (sgL m).length ≤ 7 := by decide +kernel
/-- A letter of a sign, with the number's text. -/
def sgP (num : List Nat) (s : Nat) : List Nat := if isNum s then num else [s]
theorem op_sign (m k : Nat) (f : Nat → Nat) (pc : Nat) (h1 : 5 ≤ m) (h2 : m < 24) (h3 : m ≠ 23) : opL m k f pc = (sgL m).flatMap (sgP (dolL (numN f k) (2 * k) (2 * k))) := by
  unfold opL piecesL
  rw [sgL_form m (by omega) h1 h3 h2, List.flatMap_map]
  have hp := sgL_plain m (by omega) h1 h3 h2
  generalize sgL m = l at hp ⊢
  induction l with
  | nil => rfl
  | cons s l ih =>
    rw [List.flatMap_cons, List.flatMap_cons, ih (fun s hs => hp s (List.mem_cons_of_mem _ hs))]
    congr 1
    obtain ⟨_, h⟩ := hp s (List.mem_cons_self)
    unfold sgP
    cases hq : isNum s with
    | true => simp [pieceL_n]
    | false =>
      obtain ⟨a, b, c, d⟩ := h hq
      simp [pieceL_o k f _ s a b c d]
theorem flat_snoc (num : List Nat) (l : List Nat) (i : Nat) (h : i < l.length) : (l.take (i + 1)).flatMap (sgP num) = (l.take i).flatMap (sgP num) ++ sgP num l[i] := by
  rw [List.take_succ_eq_append_getElem h, List.flatMap_append]
  simp
theorem op_1 (k : Nat) (f : Nat → Nat) (pc : Nat) : opL 1 k f pc = [65] := by
  unfold opL piecesL
  rw [show formL 1 = [65] by decide +kernel, List.flatMap_cons, List.flatMap_nil, List.append_nil, pieceL_o _ _ _ _ (by decide) (by decide) (by decide) (by decide)]
theorem op_2 (k : Nat) (f : Nat → Nat) (pc : Nat) : opL 2 k f pc = 35 :: dolL (numN f k) (2 * k) (2 * k) := by
  unfold opL piecesL
  rw [show formL 2 = [35, 110] by decide +kernel, List.flatMap_cons, List.flatMap_cons, List.flatMap_nil, List.append_nil, pieceL_o _ _ _ _ (by decide) (by decide) (by decide) (by decide), pieceL_n]
  rfl
theorem op_34 (m k : Nat) (f : Nat → Nat) (pc : Nat) (h : m = 3 ∨ m = 4) : opL m k f pc = dolL (tgN m k f pc) 4 4 := by
  unfold opL piecesL
  rw [show formL m = [116] by rcases h with rfl | rfl <;> decide +kernel, List.flatMap_cons, List.flatMap_nil, List.append_nil, pieceL_t]
theorem op_23 (k : Nat) (f : Nat → Nat) (pc : Nat) : opL 23 k f pc = dolL (f 0) 2 2 ++ 44 :: dolL (f 1) 2 2 := by
  unfold opL piecesL
  rw [show formL 23 = [49, 44, 50] by decide +kernel, List.flatMap_cons, List.flatMap_cons, List.flatMap_cons, List.flatMap_nil, List.append_nil, pieceL_1, pieceL_2, pieceL_o _ _ _ _ (by decide) (by decide) (by decide) (by decide)]
  rfl
theorem op_245 (m k : Nat) (f : Nat → Nat) (pc : Nat) (h : m = 24 ∨ m = 25) : opL m k f pc = dolL (numN f k) (2 * k) (2 * k) := by
  unfold opL piecesL
  rw [show formL m = [110] by rcases h with rfl | rfl <;> decide +kernel, List.flatMap_cons, List.flatMap_nil, List.append_nil, pieceL_n]
theorem flat_len (num : List Nat) (hn : num.length ≤ 7) (l : List Nat) : (l.flatMap (sgP num)).length ≤ 7 * l.length := by
  induction l with
  | nil => simp
  | cons s l ih =>
    rw [List.flatMap_cons, List.length_append, List.length_cons]
    have : (sgP num s).length ≤ 7 := by
      unfold sgP
      cases isNum s
      · simp
      · simpa using hn
    omega
attribute [local irreducible] bytesN numN dolL tgN opL sgL lowL signF
theorem bytes_cons (s : Nat) (l : List Nat) : bytesN (s :: l) = bytesN [s] ++ bytesN l := by rw [show s :: l = [s] ++ l from rfl, bytesN_append]
theorem bytes_one36 : bytesN [36] = ⟨#[36]⟩ := by unfold bytesN; rfl
theorem bytes_one35 : bytesN [35] = ⟨#[35]⟩ := by unfold bytesN; rfl
theorem bytes_two : bytesN [44, 36] = ⟨#[44, 36]⟩ := by unfold bytesN; rfl
theorem sum_no (a b : Nat) (h : a + b ≤ 1000) : (9223372036854775807 < a + b) = False := by rw [eq_iff_iff, iff_false]; omega
/-- The branches. -/
theorem rop_34 (cd : Nat) (nm : ByteArray) (m u wd k : Nat) (f : Nat → Nat) (pc : Nat) (w : World) (hm : (m = 3 ∧ k = 1) ∨ (m = 4 ∧ k = 2)) (hf : ∀ i, i < k → f i < 256) (hpc : pc < 65536) :
    Calls Tryd.prog 38 #[codeV cd nm m u wd, .int .i64 (numN f k : Nat), .int .i64 k, .int .i64 pc] w fun e w' => e = .returned (.string (bytesN (opL m k f pc))) ∧ Below w.heap.size w w' := by
  have hX := Whole.fresh w 23 #[.int .u8 cd, .string nm, .int .u8 m, .int .u8 u, .int .u8 wd]
  have hB := (Below.refl w.heap.size w).alloc (Nat.le_refl _) (.cells #[.int .u8 cd, .string nm, .int .u8 m, .int .u8 u, .int .u8 wd] 23)
  have hx : numN f k < 65536 := by
    have := numN_lt (f := f) (n := k) hf
    rcases hm with ⟨_, rfl⟩ | ⟨_, rfl⟩ <;> simp at this <;> omega
  have htg : tgN m k f pc = ((pc : Int) + 1 + k + farI (numN f k) k + 65536).toNat % 65536 ∧ 0 ≤ (pc : Int) + 1 + k + farI (numN f k) k + 65536 := by
    unfold tgN farI
    rcases hm with ⟨rfl, rfl⟩ | ⟨rfl, rfl⟩
    · have h0 := hf 0 (by omega)
      have e : numN f 1 = f 0 := by unfold numN; simp [numN]
      rw [e, if_pos rfl]
      unfold extN
      by_cases h : f 0 < 128
      · rw [if_pos h, if_neg (by omega)]; omega
      · rw [if_neg h, if_pos ⟨rfl, by omega⟩]; omega
    · rw [if_neg (by decide), if_neg (by omega)]; omega
  have hop := op_34 m k f pc (by omega)
  rw [hop, dolL_eq]
  have HF := fun W => far_any (numN f k) k W (by omega) (by omega)
  have hfb : -65536 ≤ farI (numN f k) k ∧ farI (numN f k) k < 65536 := by unfold farI; split <;> omega
  generalize farI (numN f k) k = fi at *
  generalize numN f k = x at *
  have htl : tgN m k f pc < 65536 := by rw [htg.1]; exact Nat.mod_lt _ (by decide)
  have hti : ((pc : Int) + 1 + k + fi + 65536) % 65536 = ((tgN m k f pc : Nat) : Int) := by rw [htg.1]; omega
  generalize tgN m k f pc = t at *
  have HD := fun W => digits_any t 4 W (by omega) (by omega)
  have hlz : (bytesN (lowL t 4)).size = 4 := by rw [bytesN_size, lowL_len]
  rw [bytes_cons, bytes_one36]
  generalize bytesN (lowL t 4) = T at *
  have hlim : (9223372036854775807 < 1 + T.size) = False := sum_no _ _ (by omega)
  unfold codeV
  simp only [show ((4 : Nat) : Int) = 4 from rfl] at HD
  replace HF := Lib.hid HF
  replace HD := Lib.hid HD
  have hk : k ≤ 2 := by omega
  have t34 : ((m : Int) == 3) = decide (m = 3) := by
    by_cases h : m = 3
    · subst h; rfl
    · rw [decide_eq_false h, beq_eq_false_iff_ne]; omega
  have t4 : m ≠ 3 → ((m : Int) == 4) = true := fun h => by rw [beq_iff_eq]; omega
  have x2 := hX.cell 2
  simp only [List.getElem?_toArray, List.getElem?_cons_zero, List.getElem?_cons_succ] at x2
  clear hX htg hop hf
  have hh := hm
  clear hm
  rcases hh with ⟨rfl, rfl⟩ | ⟨rfl, rfl⟩
  all_goals
    replace hB := Lib.hid hB
    replace hti := Lib.hid hti
    clear t34 t4
    go_enter Tryd.func38, Tryd.ntmps38
    go_wp2_with fail
    refine (HF.out _).mono ?_
    rintro e W2 ⟨rfl, rfl⟩
    go_wp2_with fail
    rw [show (((pc : Int) + 1 + _ + fi) % 65536) = (t : Int) from by have := hti.out; omega]
    refine (HD.out _).mono ?_
    rintro e W2 ⟨rfl, rfl⟩
    go_wp2_with fail
    go_ret
    exact ⟨rfl, hB.out⟩
end Go.Proofs.YtmbpkpideepghaaDoor
