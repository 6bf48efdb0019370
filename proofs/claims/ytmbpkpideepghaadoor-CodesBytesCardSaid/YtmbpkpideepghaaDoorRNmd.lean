/-
  Named, by the document.
-/
import Derived.Test.YtmbpkpideepghaaDoorNmd
namespace Go.Proofs.YtmbpkpideepghaaDoor
open Go.RowKit Go.Shelf
set_option maxRecDepth 100000
set_option maxHeartbeats 1000000
set_option linter.unusedVariables false

theorem namedOf_range (nm : ByteArray) (k : Nat) : namedOf nm (List.range (k + 1)) = namedOf nm (List.range k) ++ (if ((nameF k).toList == nm.toList) = true then [k] else []) := by
  rw [List.range_succ, namedOf_snoc]
attribute [local irreducible] nameF modeF useF widthF namedOf
theorem rnamed_any (nm : ByteArray) (w : World) :
    Calls Tryd.prog 20 #[.string nm] w fun e w' => ∃ v, e = .returned v ∧ w'.ownsRow w.heap.size 5 1 v (namedOf nm (List.range 256)).length (bytesV (namedOf nm (List.range 256))) ∧ Below w.heap.size w w' := by
  have HO : ∀ c : Nat, c < 256 → ∀ W' : World, Calls Tryd.prog 11 #[.int .u8 c] W' fun e w' => e = .returned (.agg #[.int .u8 c, .string (nameF c), .int .u8 (modeF c), .int .u8 (useF (nameF c).toList (modeF c)), .int .u8 (widthF (nameF c).toList)]) ∧ Below W'.heap.size W' w' := fun c hc W' => rof_same c W' hc
  replace HO := Lib.hid HO
  have h00 : w.ownsRow w.heap.size 5 1 (.slice none 0 0) (namedOf nm (List.range 0)).length (bytesV (namedOf nm (List.range 0))) := by
    have : namedOf nm (List.range 0) = [] := by unfold namedOf; rfl
    rw [this]
    exact World.ownsRow_nil _ _ _ _
  replace h00 := Lib.hid h00
  go_enter Tryd.func20, Tryd.ntmps20
  go_wp2_with fail
  go_loopw [3, 4] (fun s3 s4 wr => ∃ k : Nat, k ≤ 256 ∧ s4 = .int .i64 k ∧ wr.ownsRow w.heap.size 5 1 s3 (namedOf nm (List.range k)).length (bytesV (namedOf nm (List.range k))) ∧ Below w.heap.size w wr) (fun _ s4 _ => 256 - (intOf s4).toNat)
  case atStart => exact ⟨0, by omega, rfl, h00.out, Below.refl _ _⟩
  case round =>
    obtain ⟨k, hk, rfl, ho, hB⟩ := hrel
    clear h00
    by_cases hlt : k < 256
    · have hO := Lib.hid (HO.out k hlt)
      have hsn := namedOf_range nm k
      have hln := namedOf_len nm (List.range k)
      rw [List.length_range] at hln
      generalize useF (nameF k).toList (modeF k) = u at *
      generalize widthF (nameF k).toList = wd at *
      generalize modeF k = m at *
      generalize nameF k = nk at *
      go_wp2_with fail
      refine (hO.out _).mono ?_
      rintro e W2 ⟨rfl, hb2⟩
      have ho2 := (ho.kept (row := none) ⟨hb2.os, hb2.tape, hb2.output, hb2.size, fun k hk _ => hb2.block k hk⟩ (by cases u3.ownBlock <;> simp)).alloc (.cells #[.int .u8 k, .string nk, .int .u8 m, .int .u8 u, .int .u8 wd] 23)
      have hB2 := hB.trans (hb2.mono hB.size)
      have hsz2 := hB2.size
      replace hB2 := hB2.alloc hB2.size (.cells #[.int .u8 k, .string nk, .int .u8 m, .int .u8 u, .int .u8 wd] 23)
      have hX := Whole.fresh W2 23 #[.int .u8 k, .string nk, .int .u8 m, .int .u8 u, .int .u8 wd]
      have x1 := hX.cell 1
      simp only [List.getElem?_toArray, List.getElem?_cons_zero, List.getElem?_cons_succ] at x1
      clear ho hB hb2 hO hX
      cases hq : nk.toList == nm.toList with
      | false =>
        rw [hq, if_neg (by decide), List.append_nil] at hsn
        rw [← hsn] at ho2
        clear hsn hln
        generalize hL1 : namedOf nm (List.range (k + 1)) = L1 at *
        replace hL1 := Lib.hid hL1
        have hfin := Lib.hid (And.intro ho2 hB2)
        clear ho2 hB2
        go_wp2_with fail
        go_roundw
        case rel => exact ⟨k + 1, by omega, by go_num, by rw [hL1.out]; exact hfin.out.1, hfin.out.2⟩
        case measure => simp [intOf]; omega
      | true =>
        rw [hq, if_pos rfl] at hsn
        have hbv : bytesV (namedOf nm (List.range k)) ++ [.int .u8 (k : Nat)] = bytesV (namedOf nm (List.range (k + 1))) := by rw [hsn]; simp [bytesV]
        have hlv : (namedOf nm (List.range k)).length + 1 = (namedOf nm (List.range (k + 1))).length := by rw [hsn]; simp
        clear hsn
        generalize hL1 : namedOf nm (List.range (k + 1)) = L1 at *
        replace hL1 := Lib.hid hL1
        generalize namedOf nm (List.range k) = L0 at *
        obtain ⟨j0, hj0, hz0, hz1, hz2⟩ := info_parts info_parts8
        generalize hW3 : W2.alloc (.cells #[.int .u8 k, .string nk, .int .u8 m, .int .u8 u, .int .u8 wd] 23) = W3 at *
        have hsz3 := hB2.size
        have ho3 := ho2.alloc (.cells #[.int .u8 k] 5)
        have hB3 := hB2.alloc hB2.size (.cells #[.int .u8 k] 5)
        clear ho2 hB2 hsz2
        go_wp2_with (at_builtin; refine wpList_append_own _ rfl _ _ 32 rfl w.heap.size 5 j0 _ 1 1 Tryd.underlying32 hj0 hz0 hz1 hz2 rfl (by decide) _ _ _ rfl ho3 ⟨W3.heap.size, 0, none⟩ 1 1 [.int .u8 k] rfl rfl (cell_one_new _ _ _) (by simp [Value.oneCell']) (by unfold maxLen; omega) (by omega) (by simp; omega) ?_)
        intro v' w9 hown9 hgrow _
        have hB9 := hB3.grown hgrow hB3.size (fun r e => (ho3.lt r e).1)
        have hfin : w9.ownsRow w.heap.size 5 1 v' L1.length (bytesV L1) ∧ Below w.heap.size w w9 := by
          refine ⟨?_, hB9⟩
          rw [← hbv, ← hlv]
          first | exact hown9 | (rw [← hbv, ← hlv] at hown9; exact hown9)
        replace hfin := Lib.hid hfin
        clear ho3 hB3 hgrow hown9 hB9 hbv hlv
        go_wp2_with fail
        go_roundw
        case rel => exact ⟨k + 1, by omega, by go_num, by rw [hL1.out]; exact hfin.out.1, hfin.out.2⟩
        case measure => simp [intOf]; omega
    · obtain rfl : k = 256 := by omega
      have hlast := Lib.hid (And.intro ho hB)
      clear ho hB
      go_wp2_with fail
      go_ret
      exact ⟨_, rfl, hlast.out⟩
end Go.Proofs.YtmbpkpideepghaaDoor
