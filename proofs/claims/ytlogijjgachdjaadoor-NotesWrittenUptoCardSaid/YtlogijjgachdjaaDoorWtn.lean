/-
  An instruction as it is written, by the code.
-/
import Derived.Test.YtlogijjgachdjaaDoorWrt
import Derived.Test.YtlogijjgachdjaaDoorNum
import Derived.Test.YtlogijjgachdjaaDoorStr
import Derived.Deep.RegionHeld3
namespace Go.Proofs.YtlogijjgachdjaaDoor
open Go.RowKit Go.Maps
set_option maxRecDepth 100000
set_option maxHeartbeats 4000000
set_option linter.unusedVariables false

/-- The operands of a form, the first k of them, with what stands ahead of each. -/
def pcL (l : List Nat) (c : Nat) (f : Nat → Nat) (b : Nat) : Nat → List Nat
  | 0 => []
  | k + 1 => pcL l c f b k ++ ((if k = 0 then 32 else 44) :: opL (l.getD k 0) c (nuF l k f) b)
/-- An instruction as it is written. -/
def txL (c at_ : Nat) (f : Nat → Nat) : List Nat := nmL c ++ pcL (fmL c) c f ((at_ + szF c) % 65536) (fmL c).length
theorem opL_lt (l c n b : Nat) (hc : c < 256) (hn : n < 65536) : (∀ x ∈ opL l c n b, x < 256) ∧ (opL l c n b).length ≤ 20 := by
  have h1 : ∀ x ∈ hxL n 2, x < 256 := fun x h => Nat.lt_trans (hxL_lt _ _ x h) (by decide)
  have h2 : ∀ x ∈ hxL n 4, x < 256 := fun x h => Nat.lt_trans (hxL_lt _ _ x h) (by decide)
  have h3 : ∀ x ∈ hxL (n % 8192) 4, x < 256 := fun x h => Nat.lt_trans (hxL_lt _ _ x h) (by decide)
  have h4 : ∀ x ∈ hxL (brF n b) 4, x < 256 := fun x h => Nat.lt_trans (hxL_lt _ _ x h) (by decide)
  have h5 : ∀ k, k < 16 → (∀ x ∈ tnL k, x < 256) ∧ (tnL k).length ≤ 2 := (show ∀ k, k < 16 → (∀ x ∈ tnL k, x < 256) ∧ (tnL k).length ≤ 2 by decide +kernel)
  have h6 := h5 (n / 8192) (by omega)
  have h7 := h5 (c / 32) (by omega)
  have h8 := h5 (c / 16) (by omega)
  have app : ∀ a b : List Nat, (∀ x ∈ a, x < 256) → (∀ x ∈ b, x < 256) → ∀ x ∈ a ++ b, x < 256 := fun a b ha hb x hx => (List.mem_append.1 hx).elim (ha x) (hb x)
  unfold opL
  split
  all_goals (refine ⟨?_, ?_⟩)
  all_goals (first
    | (simp only [List.length_append, List.length_cons, List.length_nil, hxL_len]; have := h6.2; have := h7.2; have := h8.2; omega)
    | (have := h6.2; have := h7.2; have := h8.2; omega)
    | (repeat' (first | exact h1 | exact h2 | exact h3 | exact h4 | exact h6.1 | exact h7.1 | exact h8.1 | decide | (refine app _ _ ?_ ?_))))
/-- The texts of a form. -/
theorem pcL_lt (l : List Nat) (c : Nat) (f : Nat → Nat) (b L : Nat) (hc : c < 256) (hn : ∀ i, i < L → nuF l i f < 65536) : ∀ k, k ≤ L → (∀ x ∈ pcL l c f b k, x < 256) ∧ (pcL l c f b k).length ≤ 21 * k
  | 0, _ => by
    rw [pcL]
    exact ⟨fun x hx => (by cases hx), Nat.le_refl _⟩
  | k + 1, hk => by
    obtain ⟨h1, h2⟩ := pcL_lt l c f b L hc hn k (by omega)
    obtain ⟨h3, h4⟩ := opL_lt (l.getD k 0) c (nuF l k f) b hc (hn k (by omega))
    refine ⟨fun x hx => ?_, ?_⟩
    · rw [pcL, List.mem_append, List.mem_cons] at hx
      rcases hx with hx | rfl | hx
      · exact h1 x hx
      · split <;> decide
      · exact h3 x hx
    · rw [pcL, List.length_append, List.length_cons]
      omega
theorem fmF_len (c : Nat) : (fmF c).size = (fmL c).length := bsOf_size _
theorem fmF_byte (c k : Nat) (hc : c < 256) (h : k < (fmF c).size) : (fmF c)[k].toNat = (fmL c).getD k 0 ∧ (fmL c).getD k 0 < 128 := by
  have hl := fmF_len c
  have h2 : (fmL c).getD k 0 < 128 := by rw [List.getD_eq_getElem?_getD, List.getElem?_eq_getElem (by omega)]; exact (fm_all c hc).1 _ (List.getElem_mem _)
  exact ⟨bsOf_byte (fmL c) k h (by omega), h2⟩
def lettersN : List Nat := [114, 116, 98, 47, 110, 42, 113, 112, 97, 117, 109, 108, 121, 120, 68, 100, 35, 43, 106, 105, 80, 83, 67, 87, 89, 88, 65]
theorem fm_letters (c : Nat) (hc : c < 256) : ∀ k, k < (fmL c).length → (fmL c).getD k 0 ∈ lettersN :=
  (show ∀ c, c < 256 → ∀ k, k < (fmL c).length → (fmL c).getD k 0 ∈ lettersN by decide +kernel) c hc
theorem zero72 (w : World) : (zeroValue 72).run Tryd.prog w = .ok .nilFunc w := by kernel_rfl
/-- What the map has at a letter. -/
theorem wrs_at {w : World} {mb : Nat} (h : Wrs w mb) (hmb : mb < w.heap.size) (x : Nat) (hx : x ∈ lettersN) : ∃ v, Does mb w x v ∧ ∀ W, Below w.heap.size w W → (Instr.lookup 57 (.map (some mb)) (.int .i32 ((x : Nat) : Int)) false).run Tryd.prog W = .ok v W := by
  obtain ⟨D, hown, hgood⟩ := h.at_
  obtain ⟨v, h1, h2⟩ := hgood.2 x hx
  refine ⟨v, h2, fun W hW => ?_⟩
  have hown2 := hown.kept (grown_of_below hW none) (by simp)
  have hwf : (Lit.int .i32 ((x : Nat) : Int)).wf = true := (show ∀ x ∈ lettersN, (Lit.int .i32 ((x : Nat) : Int)).wf = true by decide +kernel) x hx
  obtain ⟨u, ps, hrun, hR⟩ := hown2.lookup key_law Tryd.underlying57 (zero72 W) (show rdV .nilFunc = some (.held .nilFunc, []) from rfl) (key_at ((x : Nat) : Int) hwf)
  rw [h1] at hR
  have : u = v := by
    simp only [rdV, Option.some.injEq, Prod.mk.injEq] at hR
    injection hR.1
  rw [← this]
  exact hrun
theorem nuF_lt (c : Nat) (hc : c < 256) (f : Nat → Nat) (n : Nat) (hn : szF c ≤ n) (hb : ∀ j, j < n → f j < 256) (k : Nat) (hk : k < (fmL c).length) : nuF (fmL c) k f < 65536 ∧ ((fmL c).getD k 0 = 114 → nuF (fmL c) k f < 256) := by
  obtain ⟨hp, _⟩ := pl_all c hc k hk
  unfold nuF
  constructor
  · by_cases h1 : wdF ((fmL c).getD k 0) = 1
    · rw [if_pos h1]
      have := hb (plF (fmL c) k) (by omega)
      omega
    · rw [if_neg h1]
      by_cases h2 : wdF ((fmL c).getD k 0) = 2
      · rw [if_pos h2]
        have := hb (plF (fmL c) k) (by omega)
        have := hb (plF (fmL c) k + 1) (by omega)
        omega
      · rw [if_neg h2]; decide
  · intro h
    have h1 : wdF ((fmL c).getD k 0) = 1 := by rw [h]; decide
    rw [if_pos h1]
    exact hb (plF (fmL c) k) (by omega)
def sepB (k : Nat) : ByteArray := bsOf [if k = 0 then 32 else 44]
theorem iter_kept {W W' : World} {b I k : Nat} {S : ByteArray} (h : Lib.OthersKept 5 (some b) W W') (hk : W.heap[I]? = some (.stringIter S k)) (hne : I ≠ b) : W'.heap[I]? = some (.stringIter S k) := h.iter hk hne
attribute [local irreducible] fmF nmF szF cyF wdF byL nuF opL pcL
theorem written_any (c at_ g o n cap mb : Nat) (f : Nat → Nat) (w : World) (hc : c < 256) (hat : at_ < 65536) (hn : szF c ≤ n) (hcap : n ≤ cap)
    (hb : ∀ j, j < n → f j < 256 ∧ w.cell? ⟨g, o + j, none⟩ = some (.int .u8 (f j : Nat))) (hg : g < w.heap.size) (hW : Wrs w mb) (hmb : mb < w.heap.size) :
    Calls Tryd.prog 30 #[ntV c, .slice (some ⟨g, o, none⟩) n cap, .int .u16 at_, .map (some mb)] w fun e w' => e = .returned (.string (bsOf (txL c at_ f))) ∧ Below w.heap.size w w' := by
  have hL2 := fmL_le c hc
  have hfl := (fm_all c hc).1
  have hszc := (fm_all c hc).2.2.2.2.1
  have hnm : ∀ x ∈ nmL c, x < 256 := fun x hx => Nat.lt_trans ((fm_all c hc).2.2.2.2.2.2 x hx) (by decide)
  have hnl := nmL_le c hc
  have hSz := fmF_len c
  have hSb := fun k h => fmF_byte c k hc h
  obtain ⟨bh, hbh⟩ : ∃ bh, (at_ + szF c) % 65536 = bh := ⟨_, rfl⟩
  have hbh2 : bh < 65536 := by omega
  have hnu := nuF_lt c hc f n hn (fun j hj => (hb j hj).1)
  have HN : ∀ k, k < (fmL c).length → ∀ W, Below w.heap.size w W → Calls Tryd.prog 38 #[.string (fmF c), .int .i64 k, .slice (some ⟨g, o, none⟩) n cap] W fun e w' => e = .returned (.int .u16 (nuF (fmL c) k f : Nat)) ∧ Below W.heap.size W w' :=
    fun k hk W hB => number_any c k g o n cap f W hc hk hn hcap (fun j hj => ⟨(hb j hj).1, (hB.cell (p := ⟨g, o + j, none⟩) hg).trans (hb j hj).2⟩) (Nat.lt_of_lt_of_le hg hB.size)
  have HL := fun k (hk : k < (fmL c).length) => wrs_at hW hmb _ (fm_letters c hc k hk)
  have HT : txL c at_ f = nmL c ++ pcL (fmL c) c f bh (fmL c).length := by unfold txL; rw [hbh]
  have HP0 : pcL (fmL c) c f bh 0 = [] := by unfold pcL; rfl
  have HPs : ∀ k, pcL (fmL c) c f bh (k + 1) = pcL (fmL c) c f bh k ++ ((if k = 0 then 32 else 44) :: opL ((fmL c).getD k 0) c (nuF (fmL c) k f) bh) := fun k => by rw [pcL]
  have HPl := pcL_lt (fmL c) c f bh (fmL c).length hc (fun i hi => (hnu i hi).1)
  have HO : ∀ k, k < (fmL c).length → (∀ x ∈ opL ((fmL c).getD k 0) c (nuF (fmL c) k f) bh, x < 256) ∧ (opL ((fmL c).getD k 0) c (nuF (fmL c) k f) bh).length ≤ 20 := fun k hk => opL_lt _ c _ bh hc (hnu k hk).1
  have HD : ∀ k, k < (fmL c).length → ∃ fn caps, (∀ args w, (callFunc fn args).run Tryd.prog w = .ok (.enter fn args) w) ∧
      (∀ W, Below w.heap.size w W → Calls Tryd.prog fn (#[opV c (nuF (fmL c) k f) bh] ++ caps) W fun e w' => e = .returned (.string (bsOf (opL ((fmL c).getD k 0) c (nuF (fmL c) k f) bh))) ∧ Below W.heap.size W w') ∧
      (∀ W, Below w.heap.size w W → (Instr.lookup 57 (.map (some mb)) (.int .i32 (((fmL c).getD k 0 : Nat) : Int)) false).run Tryd.prog W = .ok (.func (.func fn) #[] caps) W) := by
    intro k hk
    obtain ⟨v, ⟨fn, caps, rfl, he, hdo⟩, hlook⟩ := HL k hk
    exact ⟨fn, caps, he, fun W hB => hdo W (grown_of_below hB _) c (nuF (fmL c) k f) bh hc (hnu k hk).1 hbh2 (hnu k hk).2, hlook⟩
  have HS := fun (l s : List Nat) (W : World) (h : Bld (w.heap.size + 1) l W) (hs : ∀ x ∈ s, x < 256) (hl : l.length + s.length ≤ 100000) => writeString_any (w.heap.size + 1) l s W h hs hl
  have hnmF : nmF c = bsOf (nmL c) := by unfold nmF; rfl
  unfold ntV
  rw [hnmF, HT]
  clear HL hnu HT hnmF hW hfl
  generalize fmF c = S at *
  generalize szF c = sz at *
  generalize cyF c = cy at *
  generalize hLL : (fmL c).length = L at *
  obtain ⟨OP, hOP⟩ : ∃ OP : Nat → List Nat, ∀ k, opL ((fmL c).getD k 0) c (nuF (fmL c) k f) bh = OP k := ⟨_, fun _ => rfl⟩
  simp only [hOP] at HPs HO HD
  generalize pcL (fmL c) c f bh = P at *
  obtain ⟨X, hX⟩ : ∃ X : Nat → Nat, ∀ k, (fmL c).getD k 0 = X k := ⟨_, fun _ => rfl⟩
  simp only [hX] at HD hSb
  obtain ⟨NU, hNU⟩ : ∃ NU : Nat → Nat, ∀ k, nuF (fmL c) k f = NU k := ⟨_, fun _ => rfl⟩
  simp only [hNU] at HN HD
  unfold opV at HD
  clear hOP hX hNU hLL
  generalize nmL c = nm at *
  have hbw : IntKind.u16.wrap ((at_ : Int) + IntKind.u16.wrap (sz : Int)) = (bh : Int) := by
    simp only [IntKind.wrap_u16]
    omega
  have hX0 := (Whole.fresh w 25 #[.int .u8 c, .string (bsOf nm), .string S, .int .i64 sz, .int .i64 cy]).alloc (.cells #[.pointer none, .slice none 0 0] bldT)
  have hBl0 : Bld (w.heap.size + 1) [] ((w.alloc (.cells #[.int .u8 c, .string (bsOf nm), .string S, .int .i64 sz, .int .i64 cy] 25)).alloc (.cells #[.pointer none, .slice none 0 0] bldT)) := by
    have := Lib.IsBuilderF.of (Lib.fresh_isBuilder bldT 5 (w.alloc (.cells #[.int .u8 c, .string (bsOf nm), .string S, .int .i64 sz, .int .i64 cy] 25)))
    rw [World.size_alloc] at this
    exact this
  have hB0 := ((Below.refl w.heap.size w).alloc (Nat.le_refl _) (.cells #[.int .u8 c, .string (bsOf nm), .string S, .int .i64 sz, .int .i64 cy] 25)).alloc (by simp) (.cells #[.pointer none, .slice none 0 0] bldT)
  have hs0 : ((w.alloc (.cells #[.int .u8 c, .string (bsOf nm), .string S, .int .i64 sz, .int .i64 cy] 25)).alloc (.cells #[.pointer none, .slice none 0 0] bldT)).heap.size = w.heap.size + 2 := by simp
  replace HN := Lib.hid HN
  replace HD := Lib.hid HD
  replace HS := Lib.hid HS
  replace HO := Lib.hid HO
  replace HPs := Lib.hid HPs
  replace HPl := Lib.hid HPl
  replace hSb := Lib.hid hSb
  replace hb := Lib.hid hb
  replace hbh := Lib.hid hbh
  go_enter Tryd.func30, Tryd.ntmps30
  go_upto_region 2 with (fail)
  generalize (w.alloc (.cells #[.int .u8 c, .string (bsOf nm), .string S, .int .i64 sz, .int .i64 cy] 25)).alloc (.cells #[.pointer none, .slice none 0 0] 66) = W0 at *
  have x1 := hX0.cell 1
  simp only [List.getElem?_toArray, List.getElem?_cons_zero, List.getElem?_cons_succ] at x1
  go_wp2_with fail
  refine (HS.out [] nm _ hBl0 hnm (by simp; omega) (by omega)).mono ?_
  rintro e W1 ⟨rfl, hBl1, hb1, hk1⟩
  have hX1 := hX0.below hb1 (by omega)
  have hB1 := hB0.trans (hb1.mono (by omega))
  have hs1 := hb1.size
  rw [List.nil_append] at hBl1
  clear hX0 hBl0 hB0 hb1 hk1 x1
  have x2 := hX1.cell 2
  simp only [List.getElem?_toArray, List.getElem?_cons_zero, List.getElem?_cons_succ] at x2
  go_wp2_with fail
  have hI1 : (W1.iter S 0).heap[W1.heap.size]? = some (.stringIter S 0) := World.iter_heap _ _ _
  have hX2 : Whole (W1.iter S 0) w.heap.size 25 #[.int .u8 c, .string (bsOf nm), .string S, .int .i64 sz, .int .i64 cy] := hX1.alloc _
  have hB2 : Below w.heap.size w (W1.iter S 0) := hB1.alloc (by omega) _
  have hBl2 : Bld (w.heap.size + 1) nm (W1.iter S 0) := bld_below hBl1 ((Below.refl _ W1).alloc (Nat.le_refl _) _)
  have hIN : w.heap.size + 1 < W1.heap.size := by omega
  clear hX1 hB1 hBl1 hs1 hs0 x2
  generalize W1.iter S 0 = W2 at *
  generalize hIe : W1.heap.size = I at *
  clear hIe
  have keepS : ∀ W, Below w.heap.size w W → Whole W w.heap.size 25 #[.int .u8 c, .string (bsOf nm), .string S, .int .i64 sz, .int .i64 cy] →
      W.cell? ⟨w.heap.size, 0, none⟩ = some (.int .u8 c) ∧ W.cell? ⟨w.heap.size, 2, none⟩ = some (.string S) ∧ W.cell? ⟨w.heap.size, 3, none⟩ = some (.int .i64 sz) :=
    fun W _ h => ⟨h.cell 0, h.cell 2, h.cell 3⟩
  replace keepS := Lib.hid keepS
  go_loopw [10] (fun s10 wr => ∃ k : Nat, k ≤ L ∧ s10 = .string (bsOf [if k = 0 then 32 else 44]) ∧ Whole wr w.heap.size 25 #[.int .u8 c, .string (bsOf nm), .string S, .int .i64 sz, .int .i64 cy] ∧ Bld (w.heap.size + 1) (nm ++ P k) wr ∧ wr.heap[I]? = some (.stringIter S k) ∧ Below w.heap.size w wr) (fun _ wr => L - wr.iterPos I)
  case atStart => exact ⟨0, by omega, by rw [if_pos rfl]; exact congrArg _ (by decide +kernel), hX2, by rw [HP0, List.append_nil]; exact hBl2, hI1, hB2⟩
  case round =>
    obtain ⟨k, hk, rfl, hX, hBl, hI, hB⟩ := hrel
    clear hX2 hB2 hBl2 hI1
    by_cases hp : k < S.size
    · have hkL : k < L := by omega
      obtain ⟨h1, h128⟩ := hSb.out k hp
      have hnext : ∀ ty, (Instr.next (.pointer (some ⟨I, 0, none⟩)) true ty).run Tryd.prog wr = _ := fun ty => Lib.run_next_ascii_at wr I S k ty hI hp (by omega)
      rw [h1] at hnext
      have hI3 := Lib.iterAt_heap wr I S k (k + 1) hI
      have hB3 : Below w.heap.size w (wr.iterAt I S (k + 1)) := Lib.below_iterAt hB (by omega) S (k + 1)
      have hmu : wr.iterPos I = k := by simp [World.iterPos, hI]
      have hit : Below I wr (wr.iterAt I S (k + 1)) := Lib.below_iterAt (Below.refl _ _) (by omega) S (k + 1)
      have hX3 := hX.below hit (by omega)
      have hBl3 : Bld (w.heap.size + 1) (nm ++ P k) (wr.iterAt I S (k + 1)) := Lib.IsBuilderF.iterAt hBl hI (k + 1)
      have hP := HPl.out k hk
      have hPs := HPs.out k
      have hO := HO.out k hkL
      have hN := Lib.hid (HN.out k hkL)
      obtain ⟨fn, caps, he, hdo, hlook⟩ := HD.out k hkL
      replace hdo := Lib.hid hdo
      replace hlook := Lib.hid hlook
      clear hX hBl hI hB hit h1
      generalize wr.iterAt I S (k + 1) = W3 at *
      have hsp2 : (if k = 0 then 32 else 44) < 256 := by split <;> decide
      generalize hsp : (if k = 0 then 32 else 44) = sp at *
      replace hsp := Lib.hid hsp
      replace hPs := Lib.hid hPs
      go_wp2_with fail
      with_reducible refine (HS.out (nm ++ P k) [sp] _ hBl3 (by intro x hx; rw [List.mem_singleton] at hx; subst hx; exact hsp2) (by rw [List.length_append, List.length_singleton]; omega) (by have := hB3.size; have := hX3.lt; have := (Array.getElem?_eq_some_iff.1 hI3).1; omega)).mono ?_
      rintro e W4 ⟨rfl, hBl4, hb4, hk4⟩
      have hX4 := hX3.below hb4 (by omega)
      have hI4 := iter_kept hk4 hI3 (by omega)
      have hB4 := hB3.trans (hb4.mono (by omega))
      clear hX3 hBl3 hI3 hB3 hb4 hk4
      go_wp2_with fail
      have hBd := hB4.drew
      have hXd := hX4.drew
      have hBld : Bld (w.heap.size + 1) (nm ++ P k ++ [sp]) W4.drew := hBl4
      have hId : W4.drew.heap[I]? = some (.stringIter S (k + 1)) := hI4
      have hSd := keepS.out _ hBd hXd
      have hSd0 := keepS.out _ hB4 hX4
      obtain ⟨s0, s2, s3⟩ := hSd0
      have hlk := hlook.out _ hB4
      have hld := hlook.out _ hBd
      clear hBl4 hI4
      go_region_held3 (fun W => (W.cell? ⟨w.heap.size, 0, none⟩ = some (.int .u8 c) ∧ W.cell? ⟨w.heap.size, 2, none⟩ = some (.string S) ∧ W.cell? ⟨w.heap.size, 3, none⟩ = some (.int .i64 sz)) ∧ (Instr.lookup 57 (.map (some mb)) (.int .i32 ((X k : Nat) : Int)) false).run Tryd.prog W = .ok (.func (.func fn) #[] caps) W)
        (first | (with_reducible exact ⟨hSd, hld⟩) | (with_reducible exact ⟨hS5, hl5⟩) | (with_reducible exact ⟨hS6, hl6⟩) | (with_reducible exact ⟨hS7, hl7⟩))
        (first
          | (go_at_call 38; refine (hN.out _ hBd).mono ?_; rintro e W5 ⟨rfl, hb5⟩; have hB5 := hBd.trans (hb5.mono hBd.size); have hX5 := hXd.below hb5 hXd.lt; have hBl5 := bld_below hBld hb5; have hI5 := (hb5.block I (Array.getElem?_eq_some_iff.1 hId).1).trans hId; have hS5 := keepS.out _ hB5 hX5; have hl5 := hlook.out _ hB5)
          | (go_at_call 37; refine (HS.out _ (OP k) W6 hBl6 hO.1 (by simp; omega) (by have := hX6.lt; have := (Array.getElem?_eq_some_iff.1 hI6).1; omega)).mono ?_; rintro e W7 ⟨rfl, hBl7, hb7, hk7⟩; have hB7 := hB6.trans (hb7.mono (by omega)); have hX7 := hX6.below hb7 (by omega); have hI7 := iter_kept hk7 hI6 (by omega); have hS7 := keepS.out _ hB7 hX7; have hl7 := hlook.out _ hB7)
          | (refine (hdo.out _ hB5).mono ?_; rintro e W6 ⟨rfl, hb6⟩; have hB6 := hB5.trans (hb6.mono hB5.size); have hX6 := hX5.below hb6 hX5.lt; have hBl6 := bld_below hBl5 hb6; have hI6 := (hb6.block I (Array.getElem?_eq_some_iff.1 hI5).1).trans hI5; have hS6 := keepS.out _ hB6 hX6; have hl6 := hlook.out _ hB6))
      all_goals
        have hBl8 : Bld (w.heap.size + 1) (nm ++ P (k + 1)) W7 := by
          rw [hPs.out]
          have e : nm ++ (P k ++ sp :: OP k) = nm ++ P k ++ [sp] ++ OP k := by simp
          rw [e]
          exact hBl7
        have hmu2 : W7.iterPos I = k + 1 := by simp [World.iterPos, hI7]
        try (go_wp2_with fail)
        go_roundw
        case rel => exact ⟨k + 1, by omega, by rw [if_neg (by omega)]; exact congrArg _ (by decide +kernel), hX7, hBl8, hI7, hB7⟩
        case measure => rw [hmu, hmu2]; omega
    · obtain rfl : k = L := by omega
      have hnext : ∀ ty, (Instr.next (.pointer (some ⟨I, 0, none⟩)) true ty).run Tryd.prog wr = _ := fun ty => Lib.run_next_end_at wr I S k ty hI (by omega)
      have hP := (HPl.out k hk).1
      have HZ := Lib.hid (string_any (w.heap.size + 1) (nm ++ P k) wr (fun x hx => (List.mem_append.1 hx).elim (hnm x) (hP x)) hBl (by have := (Array.getElem?_eq_some_iff.1 hI).1; omega))
      clear hX hBl hI
      generalize (if k = 0 then 32 else 44) = sp at *
      go_wp2_with fail
      refine HZ.out.mono ?_
      rintro e W3 ⟨rfl, hb3⟩
      go_wp2_with fail
      go_ret
      exact ⟨rfl, hB.trans (hb3.mono (by omega))⟩
end Go.Proofs.YtlogijjgachdjaaDoor
