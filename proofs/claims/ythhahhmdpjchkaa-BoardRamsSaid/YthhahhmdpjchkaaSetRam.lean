/-
  A board's call: SetRam.
-/
import Derived.Test.YthhahhmdpjchkaaStand
import Derived.Laws.CopyRow
namespace Go.Proofs.Ythhahhmdpjchkaa
open Go.RowKit Go.Shelf
set_option maxRecDepth 100000
set_option maxHeartbeats 1000000

def byteList (f : Nat → Nat) (k : Nat) : List Value := (List.range k).map fun i => Value.int .u8 (f i : Nat)
theorem byteList_length (f : Nat → Nat) (k : Nat) : (byteList f k).length = k := by simp [byteList]
theorem byteList_get (f : Nat → Nat) (k i : Nat) (hi : i < k) : (byteList f k)[i]? = some (.int .u8 (f i : Nat)) := by simp [byteList, hi]
theorem byteList_one (f : Nat → Nat) (k : Nat) : ∀ v ∈ byteList f k, v.oneCell' = true := by
  intro v hv
  obtain ⟨n, _, rfl⟩ := List.mem_map.1 hv
  rfl
theorem setRam_no {b R M X l n cap k : Nat} {f g : Nat → Nat} (C L c : Nat) (w : World) (h : Brd w b R M X l n cap k f g) (hL : L ≠ k) :
    Calls Try.prog 21 #[.pointer (some ⟨b, 0, none⟩), .slice (some ⟨C, 0, none⟩) L c] w fun e w' => e = .returned (.int .i64 2) ∧ w' = w := by
  obtain ⟨_, d5⟩ := h.slots
  have t1 : ((L : Int) != (k : Int)) = true := by rw [bne_iff_ne]; omega
  clear h hL
  go_enter Try.func21, Try.ntmps21
  go_wp2_with fail
  go_ret
  exact ⟨rfl, rfl⟩
theorem setRam_ok {b R M X l n cap k : Nat} {f g f2 : Nat → Nat} (C c : Nat) (w : World) (h : Brd w b R M X l n cap k f g) (hC : Holds w C k f2) :
    Calls Try.prog 21 #[.pointer (some ⟨b, 0, none⟩), .slice (some ⟨C, 0, none⟩) k c] w fun e w' => e = .returned (.int .i64 0) ∧ Brd w' b R M X l n cap k f f2 ∧ w.grownBy w' (some M) := by
  obtain ⟨_, d5⟩ := h.slots
  obtain ⟨cur, hcur, hsz, hcc⟩ := h.ram
  have hcp := run_copy_row (P := Try.prog) w 26 26 3 5 M 0 k k ⟨C, 0, none⟩ k c cur 5 (byteList f2 k) Try.underlying26 (by kernel_rfl) hcur (by rw [byteList_length]; exact (Nat.min_self _).symm)
    (by
      intro j v hv
      have e : (⟨C, 0, none⟩ : Addr).add j = ⟨C, j, none⟩ := by by_cases h0 : j = 0 <;> simp [Addr.add, h0]
      rw [e]
      by_cases hj : j < k
      · rw [byteList_get f2 k j hj] at hv
        rw [hC.cell j hj, hv]
      · rw [List.getElem?_eq_none (by rw [byteList_length]; omega)] at hv
        cases hv) (by rw [byteList_length]; omega) (byteList_one f2 k)
  have hR := setRow_heap w M cur (cur.toList.take 0 ++ byteList f2 k ++ cur.toList.drop (0 + (byteList f2 k).length)).toArray 5 (0, 0) hcur
  have hO := fun g hg => setRow_other w M g (cur.toList.take 0 ++ byteList f2 k ++ cur.toList.drop (0 + (byteList f2 k).length)).toArray hg
  generalize hw : w.setRow M (cur.toList.take 0 ++ byteList f2 k ++ cur.toList.drop (0 + (byteList f2 k).length)).toArray = W2 at *
  have hG : w.grownBy W2 (some M) := by
    rw [← hw]
    exact ⟨rfl, rfl, rfl, by simp, fun i _ hk => by rw [hw]; exact hO i (fun e => hk (by rw [e]))⟩
  have hB : Brd W2 b R M X l n cap k f f2 := by
    refine ⟨h.lay, h.head.only hG h.hb, h.rom.only hG h.hR, ?_, fun e => (h.more e).only hG (h.hX e), h.n1, h.n2, h.m2, h.hb, h.hR, h.hX⟩
    refine ⟨_, hR, ?_, fun i hi => ⟨hC.byte i hi, ?_⟩⟩
    · simp only [List.size_toArray, List.length_append, byteList_length, List.take_zero, List.length_nil]
      omega
    · have : (byteList f2 k)[i]? = some (.int .u8 (f2 i : Nat)) := byteList_get f2 k i hi
      simp [List.getElem?_append, byteList_length, hi]
      exact (List.getElem?_eq_some_iff.1 this).2
  rw [byteList_length] at hcp
  have e0 : goInt k = .int .i64 k := rfl
  clear hR hO hw hsz hcc hcur h hC
  go_enter Try.func21, Try.ntmps21
  go_wp2_with fail
  go_ret
  exact ⟨rfl, hB, hG⟩
end Go.Proofs.Ythhahhmdpjchkaa
