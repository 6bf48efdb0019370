/-
  A text of bytes says the bytes: what Bytes makes of it.
-/
import Derived.Test.YtmbpkpideepghaaDoorInv
import Derived.Test.YtmbpkpideepghaaDoorByt
namespace Go.Proofs.YtmbpkpideepghaaDoor
open Go.RowKit
set_option maxRecDepth 100000
set_option maxHeartbeats 1000000
set_option linter.unusedVariables false

theorem lowL_ascii (x : Nat) : ∀ d, ∀ y ∈ lowL x d, y < 128
  | 0, y, h => by rw [lowL] at h; cases h
  | d + 1, y, h => by
    rw [lowL, List.mem_cons] at h
    rcases h with rfl | h
    · unfold digitN; split <;> omega
    · exact lowL_ascii x d y h
theorem dolL_ascii (x d : Nat) : ∀ y ∈ dolL x d d, y < 128 := by
  intro y hy
  rw [dolL_eq, List.mem_cons] at hy
  rcases hy with rfl | hy
  · decide
  · exact lowL_ascii x d y hy
theorem opL_ascii (m k : Nat) (f : Nat → Nat) (pc : Nat) : ∀ y ∈ opL m k f pc, y < 128 := by
  intro y hy
  unfold opL piecesL at hy
  obtain ⟨s, hs, hy⟩ := List.mem_flatMap.1 hy
  have h1 := formL_ascii m s hs
  unfold pieceL at hy
  split at hy
  · exact dolL_ascii _ _ y hy
  · split at hy
    · exact dolL_ascii _ _ y hy
    · split at hy
      · exact dolL_ascii _ _ y hy
      · split at hy
        · exact dolL_ascii _ _ y hy
        · rw [List.mem_singleton] at hy; omega
theorem nameL_plain (c : Nat) (hc : c < 256) : ∀ y ∈ nameL c, 65 ≤ y ∧ y < 128 := (show ∀ c, c < 256 → ∀ y ∈ nameL c, 65 ≤ y ∧ y < 128 by decide +kernel) c hc
theorem textL_ascii (c k : Nat) (f : Nat → Nat) (pc : Nat) (hc : c < 256) : ∀ y ∈ textL c k f pc, y < 128 := by
  intro y hy
  unfold textL at hy
  rw [List.mem_append] at hy
  rcases hy with hy | hy
  · exact (nameL_plain c hc y hy).2
  · split at hy
    · cases hy
    · rw [List.mem_cons] at hy
      rcases hy with rfl | hy
      · decide
      · exact opL_ascii _ _ _ _ y hy
theorem bytesN_inj {a b : List Nat} (ha : ∀ x ∈ a, x < 256) (hb : ∀ x ∈ b, x < 256) (h : bytesN a = bytesN b) : a = b := by
  have e : ∀ l : List Nat, (∀ x ∈ l, x < 256) → (bytesN l).data.toList.map UInt8.toNat = l := by
    intro l hl
    have : (bytesN l).data.toList = l.map UInt8.ofNat := by simp [bytesN]
    rw [this, List.map_map]
    conv => rhs; rw [← List.map_id l]
    refine List.map_congr_left fun x hx => ?_
    have := hl x hx
    simp [Function.comp, Nat.mod_eq_of_lt this]
  rw [← e a ha, ← e b hb, h]
theorem numN_congr (f g : Nat → Nat) : ∀ k, (∀ i, i < k → f i = g i) → numN f k = numN g k
  | 0, _ => rfl
  | k + 1, h => by
    have ih := numN_congr f g k (fun i hi => h i (by omega))
    have := h k (by omega)
    simp only [numN] at ih ⊢
    rw [ih, this]
theorem textL_congr (c k : Nat) (f g : Nat → Nat) (pc : Nat) (hc : c < 256) (h3 : modeF c = 3 → k = 1) (h23 : modeF c = 23 → k = 2) (h : ∀ i, i < k → f i = g i) : textL c k f pc = textL c k g pc := by
  have hn := numN_congr f g k h
  have ht : tgN (modeF c) k f pc = tgN (modeF c) k g pc := by
    unfold tgN
    rw [hn]
    by_cases e : modeF c = 3
    · rw [if_pos e, if_pos e, h 0 (by have := h3 e; omega)]
    · rw [if_neg e, if_neg e]
  unfold textL opL piecesL
  rw [ht]
  congr 3
  have hm := modeF_lt c hc
  have : ∀ s ∈ formL (modeF c), pieceL k f (tgN (modeF c) k g pc) s = pieceL k g (tgN (modeF c) k g pc) s := by
    intro s hs
    unfold pieceL
    rw [hn]
    by_cases e1 : s = 49
    · subst e1
      have := h23 (formL_49 _ hm hs)
      rw [h 0 (by omega), h 1 (by omega)]
    · by_cases e2 : s = 50
      · subst e2
        have := h23 (formL_50 _ hm hs)
        rw [h 0 (by omega), h 1 (by omega)]
      · simp only [if_neg e1, if_neg e2]
  generalize tgN (modeF c) k g pc = t at *
  generalize formL (modeF c) = l at *
  clear ht hn
  induction l with
  | nil => rfl
  | cons s l ih =>
    rw [List.flatMap_cons, List.flatMap_cons, this s List.mem_cons_self, ih (fun s hs => this s (List.mem_cons_of_mem _ hs))]
/-! Where the blank stands. -/
theorem index_none (c : UInt8) : ∀ l : List UInt8, (∀ x ∈ l, x ≠ c) → Lib.indexByte l c = -1
  | [], _ => rfl
  | b :: l, h => by
    have := index_none c l (fun x hx => h x (List.mem_cons_of_mem _ hx))
    have hb := h b List.mem_cons_self
    simp [Lib.indexByte, hb, this]
theorem index_some (c : UInt8) (r : List UInt8) : ∀ l : List UInt8, (∀ x ∈ l, x ≠ c) → Lib.indexByte (l ++ c :: r) c = l.length
  | [], _ => by simp [Lib.indexByte]
  | b :: l, h => by
    have := index_some c r l (fun x hx => h x (List.mem_cons_of_mem _ hx))
    have hb := h b List.mem_cons_self
    have hne : ¬ ((l.length : Int) = -1) := by omega
    simp [Lib.indexByte, hb, this, hne]
theorem bytesN_data (l : List Nat) : (bytesN l).data.toList = l.map UInt8.ofNat := by simp [bytesN]
theorem name_no32 (c : Nat) (hc : c < 256) : ∀ x ∈ (nameL c).map UInt8.ofNat, x ≠ 32 := by
  intro x hx
  obtain ⟨y, hy, rfl⟩ := List.mem_map.1 hx
  have := nameL_plain c hc y hy
  intro e
  have e2 := congrArg UInt8.toNat e
  rw [UInt8.toNat_ofNat'] at e2
  have : (32 : UInt8).toNat = 32 := rfl
  omega
theorem cut_text0 (c : Nat) (hc : c < 256) : cutA (bytesN (nameL c)) = bytesN (nameL c) ∧ cutB (bytesN (nameL c)) = ⟨#[]⟩ := by
  have h : cutI (bytesN (nameL c)) = -1 := by
    unfold cutI
    rw [bytesN_data]
    exact index_none 32 _ (name_no32 c hc)
  unfold cutA cutB
  rw [h]
  exact ⟨rfl, rfl⟩
theorem cut_text1 (c : Nat) (o : List Nat) (hc : c < 256) : cutA (bytesN (nameL c ++ 32 :: o)) = bytesN (nameL c) ∧ cutB (bytesN (nameL c ++ 32 :: o)) = bytesN o := by
  have hl := nameL_len c hc
  have h : cutI (bytesN (nameL c ++ 32 :: o)) = 3 := by
    unfold cutI
    rw [bytesN_data, List.map_append, List.map_cons, show UInt8.ofNat 32 = 32 from rfl, index_some 32 _ _ (name_no32 c hc), List.length_map, hl]
    rfl
  unfold cutA cutB
  rw [h]
  simp only [show (0 : Int) ≤ 3 from by decide, if_true, show (3 : Int).toNat = 3 from rfl]
  rw [bytesN_extract, bytesN_extract, bytesN_size]
  constructor
  · rw [List.drop_zero, List.take_left' (by omega)]
  · congr 1
    rw [show nameL c ++ 32 :: o = (nameL c ++ [32]) ++ o by simp, List.drop_left' (by simp [hl])]
    refine List.take_of_length_le ?_
    simp [hl]
    omega
theorem digFrom_list (l : List Nat) (hl : ∀ x ∈ l, x < 128) : ∀ fuel pos n, l.length ≤ pos + fuel → digFrom (bytesN l) fuel pos n = (l.drop pos).foldl stepD n
  | 0, pos, n, h => by
    rw [List.drop_of_length_le (by omega)]
    rfl
  | fuel + 1, pos, n, h => by
    rw [digFrom, bytesN_size]
    by_cases hp : pos < l.length
    · have hs : pos < (bytesN l).size := by rw [bytesN_size]; exact hp
      have hg := bytesN_get l (fun x hx => by have := hl x hx; omega) pos hs hp
      have hx := hl l[pos] (List.getElem_mem hp)
      rw [if_pos hp, decode_ascii (bytesN l) pos hs (by omega), hg]
      rw [digFrom_list l hl fuel (pos + 1) _ (by omega), List.drop_eq_getElem_cons hp, List.foldl_cons]
    · rw [if_neg hp, List.drop_of_length_le (by omega)]
      rfl
theorem digF_list (l : List Nat) (hl : ∀ x ∈ l, x < 128) : digF (bytesN l) = l.foldl stepD 0 := by
  unfold digF
  rw [digFrom_list l hl _ 0 0 (by rw [bytesN_size]; omega), List.drop_zero]
theorem opF_01 (m wd p : Nat) (h : m = 0 ∨ m = 1) : opF m wd p = 0 := by unfold opF; rw [if_pos h]
/-- What is found among names. -/
theorem goR_found (s op : ByteArray) (n pc p c : Nat) : ∀ L, c ∈ L → (∀ a ∈ L, a ≠ c → hitB a n pc p s = false ∧ farB a n op = false) → hitB c n pc p s = true → goR s op n pc p L = (withL c (operN c p) n pc (operN c p), 0)
  | [], h, _, _ => by cases h
  | a :: r, h, ho, hh => by
    rw [goR_cons]
    by_cases e : a = c
    · subst e
      rw [if_pos hh]
    · obtain ⟨h1, h2⟩ := ho a List.mem_cons_self e
      rw [h1, h2, if_neg (by decide), if_neg (by decide)]
      exact goR_found s op n pc p c r ((List.mem_cons.1 h).resolve_left (fun x => e x.symm)) (fun a ha => ho a (List.mem_cons_of_mem _ ha)) hh
theorem listF_get (g : Nat → Nat) : ∀ k i, i < k → (listF g k).getD i 0 = g i
  | 0, i, h => by omega
  | k + 1, i, h => by
    have hl : ∀ k, (listF g k).length = k := fun k => by
      induction k with
      | zero => rfl
      | succ k ih => simp [listF, ih]
    rw [listF, List.getD_eq_getElem?_getD]
    by_cases e : i = k
    · subst e
      rw [List.getElem?_append_right (by rw [hl]; omega), hl]
      simp
    · rw [List.getElem?_append_left (by rw [hl]; omega), ← List.getD_eq_getElem?_getD]
      exact listF_get g k i (by omega)
theorem text_back (c pc p : Nat) (g : Nat → Nat) (hc : c < 256) (hpc : pc < 65536) (hg : ∀ i, i < operN c p → g i < 256) :
    bytesR (bytesN (textL c (operN c p) g pc)) pc p = (c :: listF g (operN c p), 0) := by
  have hk := operN_le c p
  have hm := modeF_lt c hc
  have h01 : modeF c = 0 ∨ modeF c = 1 → operN c p = 0 := fun h => by unfold operN; exact opF_01 _ _ _ h
  have h23 : modeF c = 23 → operN c p = 2 := fun h => by unfold operN; rw [h]; exact opF_23 _ _
  have h3 : modeF c = 3 → operN c p = 1 := fun h => by unfold operN; rw [h]; exact opF_3 _ _
  have h4 : modeF c = 4 → operN c p = 2 := fun h => by unfold operN; rw [h]; exact opF_4 _ _
  obtain ⟨s, hs⟩ : ∃ s, bytesN (textL c (operN c p) g pc) = s := ⟨_, rfl⟩
  have hA : cutA s = nameF c := by
    rw [← hs, nameF_L]
    unfold textL
    split
    · rw [List.append_nil]; exact (cut_text0 c hc).1
    · exact (cut_text1 c _ hc).1
  have hn : digF (cutB s) = saysN (modeF c) (operN c p) g pc := by
    rw [← hs]
    unfold textL
    split
    · rename_i h0
      rw [List.append_nil, (cut_text0 c hc).2]
      have : digF ⟨#[]⟩ = 0 := rfl
      rw [this]
      unfold saysN
      rw [h0]
      rfl
    · rename_i h0
      rw [(cut_text1 c _ hc).2, digF_list _ (opL_ascii _ _ _ _)]
      exact says_op _ _ _ _ hm h0 hk hg h23
  have hw : withL c (operN c p) (saysN (modeF c) (operN c p) g pc) pc (operN c p) = c :: listF g (operN c p) :=
    withL_same c _ _ pc g _ (with_says (modeF c) (operN c p) g pc hk hg h01 h3 h4 h23 hpc)
  have hin : c ∈ namesOf s := by
    unfold namesOf namedOf
    rw [hA]
    exact List.mem_filter.2 ⟨List.mem_range.2 hc, by simp⟩
  have htry : tryL c (saysN (modeF c) (operN c p) g pc) pc p = textL c (operN c p) g pc := by
    unfold tryL
    rw [hw]
    refine textL_congr c _ _ _ pc hc h3 h23 fun i hi => ?_
    rw [List.getD_cons_succ]
    exact listF_get g _ i hi
  have hne : namesOf s ≠ [] := fun h => by rw [h] at hin; cases hin
  have hlow : ∀ (a : Nat) (f : Nat → Nat), a < 256 → ∀ x ∈ textL a (operN a p) f pc, x < 256 := fun a f ha x hx => by
    have := textL_ascii a _ f pc ha x hx
    omega
  unfold bytesR
  rw [hs, if_neg hne, hn]
  rw [goR_found s (cutB s) _ pc p c (namesOf s) hin ?_ ?_, hw]
  · intro a ha hac
    have ha256 := namesOf_lt s a ha
    constructor
    · refine Bool.eq_false_iff.2 fun hh => hac ?_
      have he : bytesN (tryL a (saysN (modeF c) (operN c p) g pc) pc p) = s := toList_inj (by simpa [hitB] using hh)
      rw [← hs] at he
      unfold tryL at he
      exact text_inj a c p _ _ pc pc ha256 hc (bytesN_inj (hlow a _ ha256) (hlow c _ hc) he)
    · refine Bool.eq_false_iff.2 fun hh => hac ?_
      have hm3 : modeF a = 3 := by
        unfold farB at hh
        simp only [Bool.and_eq_true, beq_iff_eq] at hh
        exact hh.1
      have hnm : nameF a = nameF c := by
        unfold namesOf namedOf at ha
        have := (List.mem_filter.1 ha).2
        rw [hA] at this
        exact toList_inj (by simpa using this)
      have : nameL a = nameL c := by
        rw [nameF_L, nameF_L] at hnm
        exact bytesN_inj (fun x hx => by have := nameL_plain a ha256 x hx; omega) (fun x hx => by have := nameL_plain c hc x hx; omega) hnm
      exact (rel_alone a ha256 hm3 c hc this.symm).symm
  · unfold hitB
    rw [htry, hs]
    simp
end Go.Proofs.YtmbpkpideepghaaDoor
