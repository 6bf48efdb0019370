/-
  What is too far, by both; what Bytes comes to, by the document.
-/
import Derived.Test.YtmbpkpideepghaaDoorRInv
namespace Go.Proofs.YtmbpkpideepghaaDoor
open Go.RowKit
set_option maxRecDepth 100000
set_option maxHeartbeats 1000000
set_option linter.unusedVariables false

theorem index_get (c : UInt8) : ∀ l : List UInt8, 0 ≤ Lib.indexByte l c → l[(Lib.indexByte l c).toNat]? = some c
  | [], h => by simp [Lib.indexByte] at h
  | b :: l, h => by
    have ih := index_get c l
    unfold Lib.indexByte at h ⊢
    by_cases hb : (b == c) = true
    · rw [if_pos hb]
      rw [beq_iff_eq] at hb
      subst hb
      rfl
    · rw [if_neg hb] at h ⊢
      by_cases hn : (Lib.indexByte l c == -1) = true
      · rw [if_pos hn] at h
        omega
      · rw [if_neg hn] at h ⊢
        have hge := Lib.indexByte_ge l c
        rw [beq_iff_eq] at hn
        have h0 : 0 ≤ Lib.indexByte l c := by omega
        have e : (Lib.indexByte l c + 1).toNat = (Lib.indexByte l c).toNat + 1 := by omega
        rw [e, List.getElem?_cons_succ]
        exact ih h0
theorem as_list (s : ByteArray) : ∃ L : List Nat, (∀ x ∈ L, x < 256) ∧ s = bytesN L :=
  ⟨s.data.toList.map UInt8.toNat, fun x hx => by obtain ⟨y, _, rfl⟩ := List.mem_map.1 hx; exact y.toNat_lt, (bytesN_toNat s).symm⟩
theorem dig_of (a : Nat) (h : isDig a = true) : ∃ A, A < 16 ∧ a = digitN A := by
  unfold isDig at h
  simp only [Bool.or_eq_true, Bool.and_eq_true, decide_eq_true_eq] at h
  rcases h with h | h
  · exact ⟨a - 48, by omega, by unfold digitN; rw [if_pos (by omega)]; omega⟩
  · exact ⟨a - 87, by omega, by unfold digitN; rw [if_neg (by omega)]; omega⟩
theorem names_of {s : ByteArray} {c : Nat} (h : c ∈ namesOf s) : cutA s = bytesN (nameL c) := by
  unfold namesOf namedOf at h
  have := (List.mem_filter.1 h).2
  rw [← nameF_L]
  exact (toList_inj (by simpa using this)).symm
/-- Where the name is cut off. -/
theorem cut_three (L : List Nat) (c : Nat) (hc : c < 256) (hL : ∀ x ∈ L, x < 256) (hA : cutA (bytesN L) = bytesN (nameL c)) (h0 : 0 ≤ cutI (bytesN L)) :
    L.take 3 = nameL c ∧ L[3]? = some 32 ∧ cutB (bytesN L) = bytesN (L.drop 4) := by
  have hlt : cutI (bytesN L) < ((bytesN L).size : Int) := index_lt _ _
  rw [bytesN_size] at hlt
  have hl := nameL_len c hc
  have hg := index_get 32 (bytesN L).data.toList h0
  have hcA := hA
  unfold cutA at hcA
  rw [if_pos h0, bytesN_extract, List.drop_zero, Nat.sub_zero] at hcA
  have htk := bytesN_inj (fun x hx => hL x (List.mem_of_mem_take hx)) (fun x hx => by have := nameL_plain c hc x hx; omega) hcA
  have hi : (cutI (bytesN L)).toNat = 3 := by
    have := congrArg List.length htk
    rw [List.length_take, hl] at this
    omega
  rw [hi] at htk
  refine ⟨htk, ?_, ?_⟩
  · rw [show Lib.indexByte (bytesN L).data.toList 32 = cutI (bytesN L) from rfl, hi, bytesN_data, List.getElem?_map] at hg
    have h3 : 3 < L.length := by omega
    rw [List.getElem?_eq_getElem h3] at hg ⊢
    simp only [Option.map_some, Option.some.injEq] at hg
    have h256 := hL L[3] (List.getElem_mem h3)
    have e := congrArg UInt8.toNat hg
    rw [UInt8.toNat_ofNat'] at e
    have e32 : (32 : UInt8).toNat = 32 := rfl
    rw [e32] at e
    rw [Option.some.injEq]
    omega
  · unfold cutB
    rw [if_pos h0, hi, bytesN_extract, bytesN_size]
    congr 1
    refine List.take_of_length_le ?_
    rw [List.length_drop]
    omega
theorem low4 (n : Nat) : lowL n 4 = [digitN (n / 4096 % 16), digitN (n / 256 % 16), digitN (n / 16 % 16), digitN (n % 16)] := by
  simp [lowL]
theorem far_target (s : ByteArray) (c : Nat) (hc : c < 256) (hin : c ∈ namesOf s) (hm : modeF c = 3) : farB c (digF (cutB s)) (cutB s) = targetF s := by
  have hA := names_of hin
  clear hin
  obtain ⟨L, hL, rfl⟩ := as_list s
  have hl := nameL_len c hc
  have hnp := nameL_plain c hc
  have hva := fun i => val_digit i
  by_cases ht : TargetP (bytesN L)
  · rw [target_yes ht]
    obtain ⟨h9, h3, h4, h5⟩ := ht
    rw [bytesN_size] at h9
    have h0 : 0 ≤ cutI (bytesN L) := by
      by_cases h : 0 ≤ cutI (bytesN L)
      · exact h
      · exfalso
        unfold cutA at hA
        rw [if_neg h] at hA
        have := congrArg ByteArray.size hA
        rw [bytesN_size, bytesN_size] at this
        omega
    obtain ⟨htk, h32, hB⟩ := cut_three L c hc hL hA h0
    rw [hB]
    rw [bt_list L hL] at h4
    have hd : ∀ j, j < 9 → 5 ≤ j → isDig (L.getD j 0) = true := fun j h1 h2 => by
      have := h5 j h1 h2
      rw [bt_list L hL] at this
      exact (val_dig _).1 this
    have hdr : L.drop 4 = [L.getD 4 0, L.getD 5 0, L.getD 6 0, L.getD 7 0, L.getD 8 0] := by
      clear htk h32 hB h5 hd hA h0 h3 h4 hL
      match L, h9 with
      | [_, _, _, _, _, _, _, _, _], _ => rfl
    obtain ⟨A, hA1, eA⟩ := dig_of _ (hd 5 (by omega) (by omega))
    obtain ⟨B, hB1, eB⟩ := dig_of _ (hd 6 (by omega) (by omega))
    obtain ⟨C, hC1, eC⟩ := dig_of _ (hd 7 (by omega) (by omega))
    obtain ⟨D, hD1, eD⟩ := dig_of _ (hd 8 (by omega) (by omega))
    rw [hdr, h4, eA, eB, eC, eD]
    have hasc : ∀ x ∈ [36, digitN A, digitN B, digitN C, digitN D], x < 128 := by
      have hd : ∀ y, y < 16 → digitN y < 128 := fun y hy => by unfold digitN; split <;> omega
      intro x hx
      simp only [List.mem_cons, List.not_mem_nil, or_false] at hx
      rcases hx with rfl | rfl | rfl | rfl | rfl
      · decide
      · exact hd _ hA1
      · exact hd _ hB1
      · exact hd _ hC1
      · exact hd _ hD1
    have hn : digF (bytesN [36, digitN A, digitN B, digitN C, digitN D]) = ((A * 16 + B) * 16 + C) * 16 + D := by
      rw [digF_list _ hasc, List.foldl_cons, show stepD 0 36 = 0 from rfl, List.foldl_cons, stepD_dig 0 A hA1 (by omega), List.foldl_cons, stepD_dig _ B hB1 (by omega), List.foldl_cons, stepD_dig _ C hC1 (by omega), List.foldl_cons, stepD_dig _ D hD1 (by omega), List.foldl_nil]
      omega
    rw [hn]
    unfold farB
    rw [hm, dolL_eq, low4]
    have e1 : (((A * 16 + B) * 16 + C) * 16 + D) / 4096 % 16 = A := by omega
    have e2 : (((A * 16 + B) * 16 + C) * 16 + D) / 256 % 16 = B := by omega
    have e3 : (((A * 16 + B) * 16 + C) * 16 + D) / 16 % 16 = C := by omega
    have e4 : (((A * 16 + B) * 16 + C) * 16 + D) % 16 = D := by omega
    rw [e1, e2, e3, e4]
    simp
  · rw [target_no ht]
    refine Bool.eq_false_iff.2 fun hf => ht ?_
    unfold farB at hf
    rw [Bool.and_eq_true] at hf
    have hop : cutB (bytesN L) = bytesN (dolL (digF (cutB (bytesN L))) 4 4) := toList_inj (by simpa using hf.2)
    generalize digF (cutB (bytesN L)) = n at *
    have h0 : 0 ≤ cutI (bytesN L) := by
      by_cases h : 0 ≤ cutI (bytesN L)
      · exact h
      · exfalso
        unfold cutB at hop
        rw [if_neg h] at hop
        have := congrArg ByteArray.size hop
        rw [bytesN_size, dolL_len] at this
        have hz : (⟨#[]⟩ : ByteArray).size = 0 := rfl
        omega
    obtain ⟨htk, h32, hB⟩ := cut_three L c hc hL hA h0
    rw [hB] at hop
    have hdr := bytesN_inj (fun x hx => hL x (List.mem_of_mem_drop hx)) (fun x hx => by have := dolL_ascii n 4 x hx; omega) hop
    rw [dolL_eq, low4] at hdr
    have h3 : 3 < L.length := by
      rcases Nat.lt_or_ge 3 L.length with h | h
      · exact h
      · rw [List.getElem?_eq_none (by omega)] at h32; cases h32
    have hfull : L = nameL c ++ 32 :: [36, digitN (n / 4096 % 16), digitN (n / 256 % 16), digitN (n / 16 % 16), digitN (n % 16)] := by
      rw [← List.take_append_drop 3 L, htk, List.drop_eq_getElem_cons h3, hdr]
      congr 2
      rw [List.getElem?_eq_getElem h3] at h32
      exact Option.some.inj h32
    unfold TargetP
    have hbt := fun i => bt_list L hL i
    simp only [hbt, bytesN_size]
    obtain ⟨x, y, z, hxyz⟩ : ∃ x y z, nameL c = [x, y, z] := by
      match nameL c, hl with
      | [x, y, z], _ => exact ⟨x, y, z, rfl⟩
    rw [hfull, hxyz]
    refine ⟨rfl, rfl, rfl, fun j h1 h2 => ?_⟩
    have hv : ∀ y, 0 ≤ valN (digitN (y % 16)) := fun y => by rw [val_digit _ (Nat.mod_lt _ (by decide))]; omega
    rcases (show j = 5 ∨ j = 6 ∨ j = 7 ∨ j = 8 by omega) with rfl | rfl | rfl | rfl
    · exact hv _
    · exact hv _
    · exact hv _
    · exact hv _
/-- What Bytes comes to by the document, over some codes. -/
def docT (s : ByteArray) (n pc p : Nat) (t : Bool) : Nat → List Nat → List Nat × Nat
  | e, [] => ([], e)
  | e, c :: r => if hitB c n pc p s = true then (withL c (operN c p) n pc (operN c p), 0) else docT s n pc p t (if (modeF c == 3 && t) = true then 62 else e) r
theorem docT_none (s op : ByteArray) (n pc p : Nat) (t : Bool) (e : Nat) : ∀ L : List Nat, (∀ c ∈ L, modeF c ≠ 3) → docT s n pc p t 61 L = goR s op n pc p L
  | [], _ => by rw [docT, goR_nil]
  | c :: r, h => by
    have hc : (modeF c == 3) = false := beq_eq_false_iff_ne.2 (h c List.mem_cons_self)
    rw [docT, goR_cons, hc]
    unfold farB
    rw [hc, Bool.false_and, Bool.false_and, if_neg (show ¬ false = true by decide), if_neg (show ¬ false = true by decide), docT_none s op n pc p t e r (fun x hx => h x (List.mem_cons_of_mem _ hx))]
theorem docT_one (s op : ByteArray) (n pc p a : Nat) (t : Bool) (ha : modeF a = 3) (hf : farB a n op = t) : ∀ (L : List Nat) (e : Nat), (∀ c ∈ L, c = a) → (t = true → e = 62 ∨ e = 61 ∧ L ≠ []) → (t = false → e = 61) → hitB a n pc p s = false → docT s n pc p t e L = ([], if t = true then 62 else 61)
  | [], e, _, h1, h2, _ => by
    rw [docT]
    cases t with
    | true => rcases h1 rfl with h | ⟨_, h⟩; rw [h]; rfl; exact absurd rfl h
    | false => rw [h2 rfl]; rfl
  | c :: r, e, h, h1, h2, hh => by
    obtain rfl := h c List.mem_cons_self
    rw [docT, hh, if_neg (by decide), ha]
    refine docT_one s op n pc p c t ha hf r _ (fun x hx => h x (List.mem_cons_of_mem _ hx)) ?_ ?_ hh
    · intro ht; rw [ht]; exact .inl rfl
    · intro ht; rw [ht]; exact h2 ht
theorem goR_one (s op : ByteArray) (n pc p a : Nat) (t : Bool) (hf : farB a n op = t) : ∀ (L : List Nat), (∀ c ∈ L, c = a) → (t = true → L ≠ []) → hitB a n pc p s = false → goR s op n pc p L = ([], if t = true then 62 else 61)
  | [], _, h1, _ => by
    rw [goR_nil]
    cases t with
    | true => exact absurd rfl (h1 rfl)
    | false => rfl
  | c :: r, h, h1, hh => by
    obtain rfl := h c List.mem_cons_self
    rw [goR_cons, hh, if_neg (by decide), hf]
    cases t with
    | true => rfl
    | false =>
      rw [if_neg (by decide)]
      exact goR_one s op n pc p c false hf r (fun x hx => h x (List.mem_cons_of_mem _ hx)) (fun h => by cases h) hh
theorem docT_same (s : ByteArray) (pc p : Nat) : docT s (digF (cutB s)) pc p (targetF s) 61 (namesOf s) = goR s (cutB s) (digF (cutB s)) pc p (namesOf s) := by
  by_cases h : ∃ a, a ∈ namesOf s ∧ modeF a = 3
  · obtain ⟨a, ha, hm⟩ := h
    have ha256 := namesOf_lt s a ha
    have hf := far_target s a ha256 ha hm
    have hall : ∀ c ∈ namesOf s, c = a := fun c hc => by
      have h1 := names_of hc
      rw [names_of ha] at h1
      have hc256 := namesOf_lt s c hc
      exact rel_alone a ha256 hm c hc256 (bytesN_inj (fun x hx => by have := nameL_plain a ha256 x hx; omega) (fun x hx => by have := nameL_plain c hc256 x hx; omega) h1).symm
    have hne : namesOf s ≠ [] := fun e => by rw [e] at ha; cases ha
    cases hh : hitB a (digF (cutB s)) pc p s with
    | false => rw [docT_one s (cutB s) _ pc p a _ hm hf _ 61 hall (fun _ => .inr ⟨rfl, hne⟩) (fun _ => rfl) hh, goR_one s (cutB s) _ pc p a _ hf _ hall (fun _ => hne) hh]
    | true =>
      generalize namesOf s = L at *
      cases L with
      | nil => cases ha
      | cons c r =>
        obtain rfl := hall c List.mem_cons_self
        rw [docT, goR_cons, hh, if_pos rfl, if_pos rfl]
  · exact docT_none s (cutB s) _ pc p _ 61 _ (fun c hc hm => h ⟨c, hc, hm⟩)
end Go.Proofs.YtmbpkpideepghaaDoor
