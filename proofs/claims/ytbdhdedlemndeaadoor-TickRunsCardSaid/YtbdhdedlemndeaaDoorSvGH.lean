/-
  What a head says of changed bytes.
-/
import Derived.Test.YtbdhdedlemndeaaDoorSvGE
namespace Go.Proofs.YtbdhdedlemndeaaDoor
open Go.RowKit Go.Shelf
set_option maxRecDepth 100000
set_option maxHeartbeats 1000000

theorem numN_byteAt (v k : Nat) : numN (byteAt v) k = v % 2 ^ (8 * k) := by
  induction k with
  | zero => simp [numN, Nat.mod_one]
  | succ k ih =>
    rw [numN, ih, byteAt, show 8 * (k + 1) = 8 * k + 8 by omega, Nat.pow_add, Nat.mod_mul, Nat.mul_comm (v / 2 ^ (8 * k) % 256)]
theorem numN_inj {f g : Nat → Nat} {k : Nat} (hf : ∀ i, i < k → f i < 256) (hg : ∀ i, i < k → g i < 256) (h : numN f k = numN g k) : ∀ i, i < k → f i = g i := by
  induction k with
  | zero => intro i hi; omega
  | succ k ih =>
    have h1 := numN_lt (n := k) (fun i hi => hf i (by omega))
    have h2 := numN_lt (n := k) (fun i hi => hg i (by omega))
    rw [numN, numN] at h
    have hp : 0 < 2 ^ (8 * k) := Nat.pow_pos (by decide)
    have e1 : f k = g k := by
      have a1 : (numN f k + f k * 2 ^ (8 * k)) / 2 ^ (8 * k) = f k := by rw [Nat.add_mul_div_right _ _ hp, Nat.div_eq_of_lt h1, Nat.zero_add]
      have a2 : (numN g k + g k * 2 ^ (8 * k)) / 2 ^ (8 * k) = g k := by rw [Nat.add_mul_div_right _ _ hp, Nat.div_eq_of_lt h2, Nat.zero_add]
      rw [← a1, ← a2, h]
    have e2 : numN f k = numN g k := by rw [e1] at h; omega
    intro i hi
    by_cases hik : i = k
    · rw [hik]; exact e1
    · exact ih (fun i hi => hf i (by omega)) (fun i hi => hg i (by omega)) e2 i (by omega)
theorem numN_congr {f g : Nat → Nat} {k : Nat} (h : ∀ i, i < k → f i = g i) : numN f k = numN g k := by
  induction k with
  | zero => rfl
  | succ k ih => rw [numN, numN, ih (fun i hi => h i (by omega)), h k (by omega)]
theorem sumN_differs {f g : Nat → Nat} {n j : Nat} (hj : j < n) (hf : f j < 256) (hg : g j < 256) (hne : f j ≠ g j) (he : ∀ i, i ≠ j → f i = g i) : sumN f n ≠ sumN g n := by
  induction n with
  | zero => omega
  | succ n ih =>
    have h1 := sumN_lt f n
    have h2 := sumN_lt g n
    rw [sumN, sumN]
    by_cases hjn : j = n
    · subst hjn
      have e := sumN_congr (f := f) (g := g) (n := j) (fun i hi => he i (by omega))
      rw [e]
      omega
    · have h3 := ih (by omega)
      rw [he n (fun e => hjn e.symm)]
      omega
theorem head_bytes {m : Nat} {f : Nat → Nat} (hf : ∀ i, i < m → f i < 256) (i : Nat) (hi : i < 13 + m) : headF m f i < 256 := by
  unfold headF
  repeat' split
  all_goals first | decide | exact byteAt_lt _ _ | exact hf _ (by omega)
theorem head_n {m : Nat} (f : Nat → Nat) (hm : m ≤ 16777216) : numN (shiftF 5 (headF m f)) 4 = m := by
  have e : numN (shiftF 5 (headF m f)) 4 = numN (byteAt m) 4 := numN_congr (fun i hi => by
    unfold shiftF headF
    rw [if_neg (by omega), if_neg (by omega), if_neg (by omega), if_neg (by omega), if_neg (by omega), if_pos (by omega)]
    congr 1
    omega)
  rw [e, numN_byteAt]
  exact Nat.mod_eq_of_lt (by omega)
theorem head_s {m : Nat} (f : Nat → Nat) : numN (shiftF 9 (headF m f)) 4 = sumN f m := by
  have e : numN (shiftF 9 (headF m f)) 4 = numN (byteAt (sumN f m)) 4 := numN_congr (fun i hi => by
    unfold shiftF headF
    rw [if_neg (by omega), if_neg (by omega), if_neg (by omega), if_neg (by omega), if_neg (by omega), if_neg (by omega), if_pos (by omega)]
    congr 1
    omega)
  rw [e, numN_byteAt]
  exact Nat.mod_eq_of_lt (sumN_lt f m)
theorem head_b {m : Nat} (f : Nat → Nat) (n : Nat) : sumN (shiftF 13 (headF m f)) n = sumN f n := sumN_congr (fun i hi => by
  unfold shiftF headF
  rw [if_neg (by omega), if_neg (by omega), if_neg (by omega), if_neg (by omega), if_neg (by omega), if_neg (by omega), if_neg (by omega)]
  congr 1
  omega)
theorem head_ok {m : Nat} (f : Nat → Nat) (hm : m ≤ 16777216) : openE (13 + m) (headF m f) = 0 := by
  unfold openE
  rw [if_neg (by omega), if_neg (by intro h; exact h ⟨rfl, rfl, rfl, rfl⟩), if_neg (by intro h; exact h rfl), head_n f hm, if_neg (by omega), if_neg (by omega), head_s, show 13 + m - 13 = m by omega, head_b, if_neg (by intro h; exact h rfl)]
/-- Other lengths: the head is that of m bytes. -/
theorem head_len {m n : Nat} {f F : Nat → Nat} (hm : m ≤ 16777216) (hF : ∀ i, i < 13 → i < n → F i = headF m f i) (hn : n ≠ 13 + m) : openE n F ≠ 0 := by
  unfold openE
  by_cases h1 : n < 13
  · rw [if_pos h1]; decide
  rw [if_neg h1]
  have h0 := hF 0 (by omega) (by omega)
  have hh1 := hF 1 (by omega) (by omega)
  have h2 := hF 2 (by omega) (by omega)
  have h3 := hF 3 (by omega) (by omega)
  have h4 := hF 4 (by omega) (by omega)
  rw [h0, hh1, h2, h3, h4, if_neg (by intro h; exact h ⟨rfl, rfl, rfl, rfl⟩), if_neg (by intro h; exact h rfl)]
  have e : numN (shiftF 5 F) 4 = numN (shiftF 5 (headF m f)) 4 := numN_congr (fun i hi => hF (5 + i) (by omega) (by omega))
  rw [e, head_n f hm, if_pos (by omega)]
  decide
theorem openE_zero {n : Nat} {f : Nat → Nat} (h : openE n f = 0) : (f 0 = 76 ∧ f 1 = 65 ∧ f 2 = 78 ∧ f 3 = 84) ∧ f 4 = 1 ∧ numN (shiftF 5 f) 4 = n - 13 ∧ numN (shiftF 9 f) 4 = sumN (shiftF 13 f) (n - 13) := by
  unfold openE at h
  by_cases h1 : n < 13
  · rw [if_pos h1] at h; cases h
  rw [if_neg h1] at h
  by_cases h2 : f 0 = 76 ∧ f 1 = 65 ∧ f 2 = 78 ∧ f 3 = 84
  case neg => rw [if_pos h2] at h; cases h
  rw [if_neg (by intro hh; exact hh h2)] at h
  by_cases h3 : f 4 = 1
  case neg => rw [if_pos h3] at h; cases h
  rw [if_neg (by intro hh; exact hh h3)] at h
  by_cases h4 : numN (shiftF 5 f) 4 = n - 13
  case neg => rw [if_pos h4] at h; cases h
  rw [if_neg (by intro hh; exact hh h4)] at h
  by_cases h5 : 16777216 < n - 13
  · rw [if_pos h5] at h; cases h
  rw [if_neg h5] at h
  by_cases h6 : numN (shiftF 9 f) 4 = sumN (shiftF 13 f) (n - 13)
  · exact ⟨h2, h3, h4, h6⟩
  · rw [if_pos h6] at h; cases h
/-- One byte is another. -/
theorem head_upd {m k x : Nat} {f : Nat → Nat} (hf : ∀ i, i < m → f i < 256) (hm : m ≤ 16777216) (hk : k < 13 + m) (hx : x < 256) (hne : x ≠ headF m f k) : openE (13 + m) (upd (headF m f) k x) ≠ 0 := by
  intro h
  obtain ⟨⟨h0, h1, h2, h3⟩, h4, h5, h6⟩ := openE_zero h
  have hH := head_bytes hf
  have at_ : ∀ i, i ≠ k → upd (headF m f) k x i = headF m f i := fun i hi => if_neg hi
  have at_k : upd (headF m f) k x k = x := if_pos rfl
  have hby : ∀ i, i < 13 + m → upd (headF m f) k x i < 256 := fun i hi => by
    unfold upd; split
    · exact hx
    · exact hH i hi
  rw [show 13 + m - 13 = m by omega] at h5 h6
  rcases (show k = 0 ∨ k = 1 ∨ k = 2 ∨ k = 3 ∨ k = 4 ∨ (5 ≤ k ∧ k < 9) ∨ (9 ≤ k ∧ k < 13) ∨ 13 ≤ k by omega) with rfl | rfl | rfl | rfl | rfl | hk2 | hk2 | hk2
  · exact hne (at_k.symm.trans h0)
  · exact hne (at_k.symm.trans h1)
  · exact hne (at_k.symm.trans h2)
  · exact hne (at_k.symm.trans h3)
  · exact hne (at_k.symm.trans h4)
  · have e := numN_inj (f := shiftF 5 (upd (headF m f) k x)) (g := shiftF 5 (headF m f)) (k := 4) (fun i hi => hby _ (by omega)) (fun i hi => hH _ (by omega)) (h5.trans (head_n f hm).symm) (k - 5) (by omega)
    unfold shiftF at e
    rw [show 5 + (k - 5) = k by omega, at_k] at e
    exact hne e
  · have eb : sumN (shiftF 13 (upd (headF m f) k x)) m = sumN f m := (sumN_congr (fun i hi => at_ (13 + i) (by omega))).trans (head_b f m)
    have e := numN_inj (f := shiftF 9 (upd (headF m f) k x)) (g := shiftF 9 (headF m f)) (k := 4) (fun i hi => hby _ (by omega)) (fun i hi => hH _ (by omega)) ((h6.trans eb).trans (head_s f).symm) (k - 9) (by omega)
    unfold shiftF at e
    rw [show 9 + (k - 9) = k by omega, at_k] at e
    exact hne e
  · have es : numN (shiftF 9 (upd (headF m f) k x)) 4 = sumN f m := (numN_congr (fun i hi => at_ (9 + i) (by omega))).trans (head_s f)
    have eb := head_b (m := m) f m
    have hd := sumN_differs (f := shiftF 13 (upd (headF m f) k x)) (g := shiftF 13 (headF m f)) (n := m) (j := k - 13) (by omega) (hby _ (by omega)) (hH _ (by omega)) (by
      unfold shiftF
      rw [show 13 + (k - 13) = k by omega, at_k]
      exact hne) (fun i hi => at_ (13 + i) (by omega))
    exact hd ((h6.symm.trans es).trans eb.symm)
end Go.Proofs.YtbdhdedlemndeaaDoor
namespace Go.Proofs.YtbdhdedlemndeaaDoor
open Go.RowKit Go.Shelf
set_option maxRecDepth 100000
set_option maxHeartbeats 1000000

theorem rsum_any (a : Option Addr) (n c : Nat) (f : Nat → Nat) (w : World) (h : Row w a n f) (hn : n ≤ 140737488355328) :
    Calls Tryd.prog 55 #[.slice a n c] w fun e w' => e = .returned (.int .u32 (sumN f n : Nat)) ∧ w' = w := by
  replace hn := Lib.hid hn
  go_enter Tryd.func55, Tryd.ntmps55
  go_wp2_with fail
  go_loopw [3, 4] (fun s3 s4 wr => ∃ i : Nat, i ≤ n ∧ s4 = .int .i64 i ∧ s3 = .int .u64 (sumN f i : Nat) ∧ wr = w) (fun _ s4 _ => n - (intOf s4).toNat)
  case atStart => exact ⟨0, Nat.zero_le _, rfl, rfl, rfl⟩
  case round =>
    obtain ⟨i, hi, rfl, rfl, rfl⟩ := hrel
    by_cases hlt : i < n
    · rcases h with ⟨hb, h0 | ⟨b, o, rfl, hbl, hc⟩⟩
      · omega
      have hci := hc i hlt
      have hbi := hb i hlt
      have hs := sumN_lt f i
      have hin : (i : Int) < (n : Int) := by omega
      have hin2 : (i : Int) + 1 ≤ 140737488355329 := by have := hn.out; omega
      have e1 : sumN f (i + 1) = (sumN f i * 31 + f i + 7) % 4294967296 := rfl
      generalize hS : sumN f i = S at *
      generalize f i = F at *
      clear hc hb
      have w1 : IntKind.u64.wrap ((S : Int) * 31) = (S : Int) * 31 := by simp only [IntKind.wrap_u64]; omega
      have w2 : IntKind.u64.wrap ((S : Int) * 31 + (F : Int)) = (S : Int) * 31 + (F : Int) := by simp only [IntKind.wrap_u64]; omega
      have w3 : IntKind.u64.wrap ((S : Int) * 31 + (F : Int) + 7) = (S : Int) * 31 + (F : Int) + 7 := by simp only [IntKind.wrap_u64]; omega
      have w4 : IntKind.u64.wrap (F : Int) = (F : Int) := by simp only [IntKind.wrap_u64]; omega
      have ha := Lib.hid hs
      have hb := Lib.hid hbi
      have r1 : ((S : Int) * 31 + (F : Int) + 7).tmod 4294967296 = ((S * 31 + F + 7) % 4294967296 : Nat) := by
        rw [Int.tmod_eq_emod_of_nonneg (by omega)]; omega
      clear hs hbi
      go_wp2_with fail
      go_roundw
      case rel => exact ⟨i + 1, by omega, by go_num, by rw [e1]; congr 1, trivial⟩
      case measure => simp [intOf]; omega
    · obtain rfl : i = n := by omega
      clear h
      have hs := sumN_lt f i
      have w1 : IntKind.u32.wrap (sumN f i : Int) = (sumN f i : Int) := by simp only [IntKind.wrap_u32]; omega
      replace hs := Lib.hid hs
      go_wp2_with fail
      go_ret
      exact ⟨rfl, rfl⟩
theorem byteAt_next (v i : Nat) : v / 2 ^ (8 * i) / 256 = v / 2 ^ (8 * (i + 1)) := by
  rw [Nat.div_div_eq_div_mul, show 8 * (i + 1) = 8 * i + 8 by omega, Nat.pow_add]
theorem rlaid_any (v n : Nat) (w : World) (hv : v < 18446744073709551616) (hn : n ≤ 8) :
    Calls Tryd.prog 38 #[.int .u64 v, .int .i64 n] w fun e w' => ∃ G, e = .returned (.slice (some ⟨G, 0, none⟩) n n) ∧ Holds w' G n (byteAt v) ∧ w.heap.size ≤ G ∧ Below w.heap.size w w' := by
  have hmk := fun W => run_make_row' (P := Tryd.prog) 46 5 (.int .u8 0) 1 Tryd.underlying46 (by kernel_rfl) rfl .i64 .i64 n (by omega) (by omega) W
  have hB0 : Below w.heap.size w (w.alloc (Obj.cells (madeCells #[Value.int .u8 0] n) 5)) := (Below.refl _ w).alloc (Nat.le_refl _) _
  have hH0 := holds_of_made (Whole.fresh w 5 (madeCells #[Value.int .u8 0] n))
  replace hv := Lib.hid hv
  go_enter Tryd.func38, Tryd.ntmps38
  go_wp2_with fail
  generalize (w.alloc (Obj.cells (madeCells #[Value.int .u8 0] n) 5)) = W0 at hB0 hH0 ⊢
  clear hmk
  obtain ⟨G, hG⟩ : ∃ G, w.heap.size = G := ⟨_, rfl⟩
  have hle : w.heap.size ≤ G := by omega
  rw [hG] at hH0 hB0 ⊢
  go_loopw [0, 6] (fun s0 s6 wr => ∃ i : Nat, i ≤ n ∧ s6 = .int .i64 i ∧ s0 = .int .u64 (v / 2 ^ (8 * i) : Nat) ∧ Holds wr G n (fun j => if j < i then byteAt v j else 0) ∧ Below G w wr) (fun _ s6 _ => n - (intOf s6).toNat)
  case atStart => exact ⟨0, Nat.zero_le _, rfl, by simp, hH0.congr (fun i _ => by simp), hB0⟩
  case round =>
    obtain ⟨i, hi, rfl, rfl, hH, hB⟩ := hrel
    by_cases hlt : i < n
    · have ci := hH.cell i hlt
      have fi := hH.free i
      have hP := (hH.put i (byteAt v i) (byteAt_lt v i)).congr (f' := fun j => if j < i + 1 then byteAt v j else 0) (fun j hj => by
        unfold upd
        by_cases e : j = i
        · subst e; rw [if_pos rfl, if_pos (by omega)]
        · rw [if_neg e]
          show (if j < i then byteAt v j else 0) = _
          by_cases e2 : j < i
          · rw [if_pos e2, if_pos (by omega)]
          · rw [if_neg e2, if_neg (by omega)])
      have hB2 := hB.setCell (p := ⟨G, i, none⟩) (Nat.le_refl _) (.int .u8 (byteAt v i : Nat))
      have hq := byteAt_next v i
      have hb : byteAt v i = v / 2 ^ (8 * i) % 256 := rfl
      have hvl : v / 2 ^ (8 * i) < 18446744073709551616 := Nat.lt_of_le_of_lt (Nat.div_le_self _ _) hv.out
      have hin : (i : Int) < (n : Int) := by omega
      have hin2 : (i : Int) + 1 ≤ 9 := by omega
      generalize byteAt v i = x at *
      generalize v / 2 ^ (8 * i) = q at *
      have r1 : (q : Int).tmod 256 = (x : Int) := by rw [Int.tmod_eq_emod_of_nonneg (by omega), hb]; omega
      have r2 : (q : Int).tdiv 256 = ((q / 256 : Nat) : Int) := by rw [Int.tdiv_eq_ediv_of_nonneg (by omega)]; omega
      have w1 : IntKind.u8.wrap (x : Int) = (x : Int) := by simp only [IntKind.wrap_u8]; omega
      have r3 : (q : Int) % 256 = (x : Int) := by rw [hb]; omega
      have w2 : IntKind.u64.wrap ((q : Int) / 256) = ((q / 256 : Nat) : Int) := by simp only [IntKind.wrap_u64]; omega
      replace hvl := Lib.hid hvl
      replace hP := Lib.hid hP
      replace hB2 := Lib.hid hB2
      replace hb := Lib.hid hb
      replace hq := Lib.hid hq
      clear hH
      go_wp2_with fail
      go_roundw
      case rel => exact ⟨i + 1, by omega, by go_num, by rw [← hq.out, Int.natCast_ediv]; rfl, hP.out, hB2.out⟩
      case measure => simp [intOf]; omega
    · obtain rfl : i = n := by omega
      have hfin := hH.congr (f' := byteAt v) (fun j hj => if_pos hj)
      go_wp2_with fail
      go_ret
      exact ⟨G, rfl, hfin, hle, by rw [hG]; exact hB⟩
theorem num_front (g : Nat → Nat) (k : Nat) : numN g (k + 1) = g 0 + 256 * numN (shiftF 1 g) k := by
  induction k with
  | zero => simp [numN]
  | succ k ih =>
    rw [numN, ih, numN]
    show _ + g (k + 1) * _ = g 0 + 256 * (_ + g (1 + k) * _)
    rw [Nat.add_comm 1 k, show 8 * (k + 1) = 8 * k + 8 by omega, Nat.pow_add, Nat.mul_add, ← Nat.add_assoc, Nat.mul_comm (2 ^ (8 * k)) (2 ^ 8), ← Nat.mul_assoc, ← Nat.mul_assoc, Nat.mul_comm (g (k + 1)) (2 ^ 8)]
theorem shift_shift (f : Nat → Nat) (a b : Nat) : shiftF a (shiftF b f) = shiftF (b + a) f := by
  funext i
  unfold shiftF
  rw [Nat.add_assoc]
end Go.Proofs.YtbdhdedlemndeaaDoor
namespace Go.Proofs.YtbdhdedlemndeaaDoor
open Go.RowKit Go.Shelf
set_option maxRecDepth 100000
set_option maxHeartbeats 1000000

/-- v's block is a new one, since B. -/
def From (B : Nat) (v : Value) : Prop := ∀ x, v.ownBlock = some x → B ≤ x
theorem Owns.ownsRow {w : World} {v : Value} {n B : Nat} {f : Nat → Nat} (h : Owns w v n f) (hB : From B v) : w.ownsRow B 5 1 v n ((List.range n).map fun i => Value.int .u8 (f i : Nat)) := by
  refine ⟨by simp, ?_⟩
  rcases h.2 with h | ⟨g, cap, cs, rfl, hw, h1, h2, h3, h4⟩
  · exact .inl h
  · refine .inr ⟨g, cap, cs, rfl, hB g rfl, hw, h1, h2, by omega, ?_⟩
    apply List.ext_getElem?
    intro j
    rw [Nat.mul_one, List.getElem?_take, List.getElem?_map]
    by_cases hj : j < n
    · rw [if_pos hj, List.getElem?_range hj, Array.getElem?_toList, h4 j hj]
      rfl
    · rw [if_neg hj, List.getElem?_eq_none (by simpa using hj)]
      rfl
theorem Owns.of_ownsRow {w : World} {v : Value} {n B : Nat} {f : Nat → Nat} (h : w.ownsRow B 5 1 v n ((List.range n).map fun i => Value.int .u8 (f i : Nat))) (hf : ∀ i, i < n → f i < 256) : Owns w v n f ∧ From B v := by
  rcases h.2 with ⟨rfl, rfl⟩ | ⟨g, cap, cs, rfl, hb, hw, h1, h2, h3, h4⟩
  · exact ⟨Owns.none w f, fun x hx => by cases hx⟩
  · refine ⟨⟨hf, .inr ⟨g, cap, cs, rfl, hw, h1, h2, by omega, fun i hi => ?_⟩⟩, fun x hx => by (have hx : some g = some x := hx); cases hx; exact hb⟩
    have := congrArg (fun l : List Value => l[i]?) h4
    simp only [Nat.mul_one, List.getElem?_take, if_pos hi, List.getElem?_map, List.getElem?_range hi, Array.getElem?_toList] at this
    exact this
theorem run_append_nil (w : World) (ty : TypeId) (v : Value) (n c : Nat) (f : Nat → Nat) (h : Owns w v n f) (a : Option Addr) : (Builtin.append_ #[46, 46] ty #[v, .slice a 0 c]).run Tryd.prog w = .ok v w := by
  obtain ⟨i, hi, hs, hb, hz⟩ := info5
  have ht := Tryd.underlying46
  have key : ∀ ao len cap, len ≤ cap → (Builtin.append_ #[46, 46] ty #[.slice ao len cap, .slice a 0 c]).run Tryd.prog w = .ok (.slice ao len cap) w := fun ao len cap hle => by
    cases a with
    | none => cases ao <;> simp [Builtin.append_, run_underlying ht, sizeOf, typeInfo, hi, Builtin.lenOf, run_firstCells_none, storeCells, hle]
    | some p =>
      have hfc := run_firstCells_some (P := Tryd.prog) w i.size 0 p 0 c [] (by simp) (fun j u hu => by simp at hu)
      cases ao <;> simp [Builtin.append_, run_underlying ht, sizeOf, typeInfo, hi, Builtin.lenOf, hfc, storeCells, hle]
  rcases h.2 with ⟨rfl, _⟩ | ⟨g, cap, cs, rfl, hw, h1, _⟩
  · exact key none 0 0 (Nat.le_refl _)
  · exact key _ n cap h1
theorem run_append_more (w : World) (ty : TypeId) (B : Nat) (v : Value) (n m c : Nat) (a : Option Addr) (f h : Nat → Nat) (hO : Owns w v n f) (hv : From B v) (hR : Row w a m h) (hm : n + m ≤ 140737488355328) (hB : B ≤ w.heap.size) :
    ∃ v' w', (Builtin.append_ #[46, 46] ty #[v, .slice a m c]).run Tryd.prog w = .ok v' w' ∧ Owns w' v' (n + m) (bothSv f n h) ∧ From B v' ∧ w.grownBy w' v.ownBlock := by
  obtain ⟨i, hi, hs, hb, hz⟩ := info5
  by_cases h0 : m = 0
  · subst h0
    exact ⟨v, w, run_append_nil w ty v n c f hO a, hO.congr (fun i hi => if_pos hi), hv, ⟨rfl, rfl, rfl, Nat.le_refl _, fun _ _ _ => rfl⟩⟩
  obtain ⟨p, rfl⟩ : ∃ p, a = some p := by
    rcases hR.2 with h1 | ⟨x, p, e, _⟩
    · omega
    · exact ⟨_, e⟩
  obtain ⟨v', w', hr, ho, hg, _⟩ := run_append_own (P := Tryd.prog) w B 46 ty 5 i (.int .u8 0) 1 1 Tryd.underlying46 hi hz hs hb rfl (by decide) v n _ (hO.ownsRow hv) p m c ((List.range m).map fun i => Value.int .u8 (h i : Nat)) (by simp) (rowCells hR)
    (fun u hu => by obtain ⟨i, _, rfl⟩ := List.mem_map.1 hu; rfl) (by unfold maxLen; omega) (by omega) hB
  have hcat : ((List.range n).map fun i => Value.int .u8 (f i : Nat)) ++ ((List.range m).map fun i => Value.int .u8 (h i : Nat)) = (List.range (n + m)).map fun i => Value.int .u8 (bothSv f n h i : Nat) := by
    rw [List.range_add, List.map_append, List.map_map]
    congr 1
    · apply List.map_congr_left
      intro j hj
      unfold bothSv
      rw [if_pos (by simpa using hj)]
    · apply List.map_congr_left
      intro j hj
      show _ = Value.int .u8 (bothSv f n h (n + j) : Nat)
      unfold bothSv
      rw [if_neg (by omega), Nat.add_sub_cancel_left]
  rw [hcat] at ho
  obtain ⟨h1, h2⟩ := Owns.of_ownsRow ho (fun i hi => by
    unfold bothSv
    split
    · exact hO.1 i (by assumption)
    · exact hR.1 _ (by omega))
  exact ⟨v', w', hr, h1, h2, hg⟩
theorem From.below {B : Nat} {v : Value} {w w' : World} (h : From B v) (hg : w.grownBy w' v.ownBlock) (hB : B ≤ w.heap.size) : Below B w w' :=
  ⟨hg.os, hg.tape, hg.output, hg.size, fun k hk => hg.block k (by omega) (fun e => by have := h k e.symm; omega)⟩
theorem rheaded_any (a : Option Addr) (n c : Nat) (f : Nat → Nat) (w : World) (h : Row w a n f) (hn : n ≤ 140737488355310) :
    Calls Tryd.prog 39 #[.slice a n c] w fun e w' => ∃ v, e = .returned v ∧ Owns w' v (13 + n) (headF n f) ∧ From w.heap.size v ∧ Below w.heap.size w w' := by
  have hni : (n : Int) ≤ 140737488355310 := by omega
  have hn2 := Lib.hid hn
  have hB0 : Below w.heap.size w (w.alloc (.cells #[.int .u8 76, .int .u8 65, .int .u8 78, .int .u8 84, .int .u8 1] 5)) := (Below.refl _ w).alloc (Nat.le_refl _) _
  have hW0 := Whole.fresh w 5 #[.int .u8 76, .int .u8 65, .int .u8 78, .int .u8 84, .int .u8 1]
  obtain ⟨B, hBe⟩ : ∃ B, w.heap.size = B := ⟨_, rfl⟩
  have hR := Lib.hid h
  rw [hBe] at hB0 hW0 ⊢
  clear hn h
  go_enter Tryd.func39, Tryd.ntmps39
  go_upto_region 2 with (fail)
  generalize w.alloc (.cells #[.int .u8 76, .int .u8 65, .int .u8 78, .int .u8 84, .int .u8 1] 5) = W0 at *
  have hBl : B ≤ w.heap.size := by omega
  have hO0 : Owns W0 (.slice (some ⟨B, 0, none⟩) 5 5) 5 (headF 0 (fun _ => 0)) := ⟨by decide, .inr ⟨B, 5, _, rfl, hW0, Nat.le_refl _, by unfold maxLen; omega, rfl, fun i hi => by
    rcases (show i = 0 ∨ i = 1 ∨ i = 2 ∨ i = 3 ∨ i = 4 by omega) with rfl | rfl | rfl | rfl | rfl <;> rfl⟩⟩
  have hF0 : From B (.slice (some ⟨B, 0, none⟩) 5 5) := fun x hx => by (have hx : some B = some x := hx); cases hx; exact Nat.le_refl _
  have HL1 := Lib.hid (rlaid_any n 4 W0 (by have := hn2.out; omega) (by decide))
  clear hW0
  go_wp2_with fail
  refine HL1.out.mono ?_
  rintro e W1 ⟨G1, rfl, hH1, _, hB1⟩
  have hO1 := hO0.below hB1
  have hB2 := hB0.trans (hB1.mono (Nat.le_trans hBl hB0.size))
  obtain ⟨v2, W2, hr, hO2, hF2, hg⟩ := run_append_more W1 46 B _ 5 4 4 _ _ _ hO1 hF0 hH1.row (by decide) (Nat.le_trans hBl hB2.size)
  have hB3 := hB2.trans (hF0.below hg (Nat.le_trans hBl hB2.size))
  have hR2 := hR.out.below (hBe.symm ▸ hB3)
  clear HL1 hH1 hB1 hO1 hO0 hB0 hB2 hg
  go_wp2_with (at_builtin; refine wpList_append_ran2 rfl _ _ 46 46 rfl _ _ _ W2 rfl rfl hr ?_)
  clear hr hF0
  have HS := Lib.hid (rsum_any a n c f W2 hR2 (by have := hn2.out; omega))
  have hs := sumN_lt f n
  have w1 : IntKind.u64.wrap (sumN f n : Int) = (sumN f n : Int) := by simp only [IntKind.wrap_u64]; omega
  have HL2 := Lib.hid (fun W => rlaid_any (sumN f n) 4 W (by omega) (by decide))
  generalize hS : sumN f n = S at *
  replace hs := Lib.hid hs
  replace hS := Lib.hid hS
  clear hR2
  go_upto_region 3 with (fail)
  go_wp2_with fail
  refine HS.out.mono ?_
  rintro e W' ⟨rfl, hw⟩
  subst hw
  go_wp2_with fail
  refine (HL2.out _).mono ?_
  rintro e W3 ⟨G3, rfl, hH3, _, hB4⟩
  have hO3 := hO2.below hB4
  have hB5 := hB3.trans (hB4.mono (Nat.le_trans hBl hB3.size))
  obtain ⟨v4, W4, hr, hO4, hF4, hg⟩ := run_append_more W3 46 B _ 9 4 4 _ _ _ hO3 hF2 hH3.row (by decide) (Nat.le_trans hBl hB5.size)
  have hB6 := hB5.trans (hF2.below hg (Nat.le_trans hBl hB5.size))
  have hR4 := hR.out.below (hBe.symm ▸ hB6)
  clear HL2 hH3 hB4 hO3 hO2 hB3 hB5 hg HS
  go_upto_region 4 with (at_builtin; refine wpList_append_ran2 rfl _ _ 46 46 rfl _ _ _ W4 rfl rfl hr ?_)
  clear hr hF2
  obtain ⟨v5, W5, hr, hO5, hF5, hg⟩ := run_append_more W4 46 B _ 13 n c _ _ _ hO4 hF4 hR4 (by have := hn2.out; omega) (Nat.le_trans hBl hB6.size)
  have hB7 := hB6.trans (hF4.below hg (Nat.le_trans hBl hB6.size))
  have hfin := Lib.hid (hO5.congr (f' := headF n f) (fun i hi => by
    rw [headF, hS.out]
    unfold bothSv headF
    repeat' split
    all_goals first | rfl | (exfalso; omega)))
  clear hO4 hB6 hR4 hg hO5 hF4
  go_wp2_with (at_builtin; refine wpList_append_ran2 rfl _ _ 46 46 rfl _ _ _ W5 rfl rfl hr ?_)
  go_ret
  exact ⟨_, rfl, hfin.out, hF5, hB7⟩
end Go.Proofs.YtbdhdedlemndeaaDoor
