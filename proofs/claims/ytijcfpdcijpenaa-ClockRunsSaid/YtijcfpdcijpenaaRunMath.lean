/-
  The order by places and the order by sorting are one; the room by halves and the room reckoned are one.
-/
import Derived.Test.YtijcfpdcijpenaaRfRoom
import Derived.Test.YtijcfpdcijpenaaPlain
namespace Go.Proofs.Ytijcfpdcijpenaa
open Go.RowKit Go.Shelf
set_option maxRecDepth 100000
theorem ord_mem {ts : List Int} {n : Nat} {L : List Nat} (hL : Ord ts n L) {m : Nat} (hm : m < n) : L[m]?.getD 0 < n ∧ L.length = n := by
  have hlen : L.length = n := by simpa using hL.1.length_eq
  have h : m < L.length := by omega
  rw [List.getElem?_eq_getElem h]
  exact ⟨by simpa using hL.1.mem_iff.1 (List.getElem_mem h), hlen⟩
theorem ord_cnt {ts : List Int} {n : Nat} {L : List Nat} (hL : Ord ts n L) : ∀ m, m < n → cntTo ts (L[m]?.getD 0) n = m := by
  refine inc_id (fun m => cntTo ts (L[m]?.getD 0) n) n (fun i j hij hj => ?_) (fun i hi => cntTo_lt ts _ n (ord_mem hL hi).1)
  have hi : i < n := by omega
  have hlen := (ord_mem hL hj).2
  have hne : L[j]?.getD 0 ≠ L[i]?.getD 0 := by
    have hnd : L.Nodup := hL.1.nodup_iff.2 List.nodup_range
    rw [List.getElem?_eq_getElem (by omega), List.getElem?_eq_getElem (by omega)]
    simp only [Option.getD_some]
    intro e
    have := (List.getElem_inj hnd).1 e
    omega
  exact (cntTo_mono ts _ _ n (ahd_other hne (hL.2 i j hij hj))).2 (ord_mem hL hi).1
theorem laid_ord {ts ls : List Int} {n : Nat} {L : List Nat} (h : Laid ts n n ls) (hL : Ord ts n L) (m : Nat) (hm : m < n) : ls[m]?.getD 0 = (L[m]?.getD 0 : Nat) := by
  have := h.2 (L[m]?.getD 0) (ord_mem hL hm).1
  rwa [ord_cnt hL m hm] at this
theorem cntTo_zero (ts : List Int) (i m : Nat) (h : ∀ k, k < m → ahd ts k i = false) : cntTo ts i m = 0 := by
  induction m with
  | zero => rfl
  | succ m ih =>
    rw [cntTo, ih (fun k hk => h k (by omega)), h m (by omega)]
    rfl
theorem best_cnt (ts : List Int) (n : Nat) (hn : 0 < n) : cntTo ts (best ts n) n = 0 := by
  refine cntTo_zero ts _ n (fun k hk => ?_)
  by_cases e : k = best ts n
  · rw [← e]
    exact ahd_irrefl ts k
  · exact ahd_asymm (best_spec ts n hn k hk e)
theorem laid_best {ts ls : List Int} {n : Nat} (h : Laid ts n n ls) (hn : 0 < n) : ls[0]?.getD 0 = ((best ts n : Nat) : Int) := by
  have := h.2 (best ts n) (best_lt ts n hn)
  rwa [best_cnt ts n hn] at this
theorem ceil_le (u s n : Int) (hs : 1 ≤ s) (hn : 0 ≤ n) : (max u 0 + s - 1) / s ≤ n ↔ u ≤ n * s := by
  obtain ⟨h1, h2⟩ := ceil_facts (max u 0) s hs
  generalize (max u 0 + s - 1) / s = q at *
  have hns : 0 ≤ n * s := Int.mul_nonneg hn (by omega)
  constructor
  · intro h
    have h3 : s * q ≤ s * n := Int.mul_le_mul_of_nonneg_left h (by omega)
    rw [Int.mul_comm s n] at h3
    omega
  · intro h
    have h3 : s * q ≤ n * s + s - 1 := by omega
    have h4 : s * q < s * (n + 1) := by rw [Int.mul_add, Int.mul_comm s n]; omega
    have := Int.lt_of_mul_lt_mul_left h4 (by omega)
    omega
theorem lost_first {ts ss : List Int} {i j : Nat} {n : Int} (hj : j < ss.length) (hji : j ≠ i) (hf : ∀ k, k < ss.length → k ≠ i → ahd ts k j = false) :
    Lost ts ss i n ↔ unitsOf (ts[i]?.getD 0) (ts[j]?.getD 0) i j ≤ n * ss[i]?.getD 0 := by
  have key : Lost ts ss i n ↔ Past ts i (ts[i]?.getD 0 + n * ss[i]?.getD 0) j := by
    constructor
    · rintro ⟨k, hk, hki, hp⟩
      refine ⟨hji, ?_⟩
      have h := hf k hk hki
      rw [← Bool.not_eq_true, ahd_is] at h
      by_cases e : k = j
      · subst e
        exact hp
      · omega
    · exact fun h => ⟨j, hj, h⟩
  rw [key]
  unfold Past unitsOf
  generalize n * ss[i]?.getD 0 = m
  generalize ts[i]?.getD 0 = x
  generalize ts[j]?.getD 0 = y
  split <;> constructor <;> intro h <;> omega
theorem room_ok {ts ss : List Int} {i : Nat} {r : Int} (hs : 1 ≤ ss[i]?.getD 0) (h : RoomIs ts ss ss.length i r) : RoomOK ts ss i r := by
  rcases h with ⟨j, hj, hji, hf, rfl⟩ | ⟨h1, rfl⟩
  · have key : ∀ n, 0 ≤ n → (Lost ts ss i n ↔ (max (unitsOf (ts[i]?.getD 0) (ts[j]?.getD 0) i j) 0 + ss[i]?.getD 0 - 1) / ss[i]?.getD 0 ≤ n) := fun n hn => by
      rw [lost_first hj hji hf, ceil_le _ _ _ hs hn]
    have hq : 0 ≤ (max (unitsOf (ts[i]?.getD 0) (ts[j]?.getD 0) i j) 0 + ss[i]?.getD 0 - 1) / ss[i]?.getD 0 := Int.ediv_nonneg (by omega) (by omega)
    unfold ticksOf
    generalize (max (unitsOf (ts[i]?.getD 0) (ts[j]?.getD 0) i j) 0 + ss[i]?.getD 0 - 1) / ss[i]?.getD 0 = q at *
    refine ⟨by omega, by omega, fun n h0 h1 => ?_, ?_⟩
    · rw [key n h0]
      omega
    · rw [key _ (by omega)]
      omega
  · refine ⟨by omega, by omega, fun n h0 hn => ⟨fun ⟨k, hk, hki, _⟩ => absurd (h1 k hk) hki, fun h => by omega⟩, .inr rfl⟩
end Go.Proofs.Ytijcfpdcijpenaa
