/-
  Small tables: memories' sizes, chips and kinds; a copy of the library's.
-/
import Derived.Test.YtggjaoihfhianaaPlan
import Derived.Test.YtggjaoihfhianaaLib
import Derived.Outline
namespace Go.Proofs.Ytggjaoihfhianaa
open Go.RowKit Go.Shelf
set_option maxRecDepth 100000
set_option maxHeartbeats 2000000

def ramN (s : Nat) : Int := if s = 0 then 0 else if 9 < s then 0 else 1024 * 2 ^ s
theorem ramOf_any (s : Nat) (w : World) (hs : s < 256) : Calls Try.prog 37 #[.int .u8 s] w fun e w' => e = .returned (.tuple #[.int .i64 (ramN s), .bool (decide (s ≤ 9))]) ∧ w' = w := by
  by_cases h9 : 9 < s
  · have hv : ramN s = 0 := by unfold ramN; rw [if_neg (by omega), if_pos h9]
    have hd : decide (s ≤ 9) = false := decide_eq_false (by omega)
    have h0 : ((s : Int) == 0) = false := beq_eq_false_iff_ne.2 (by omega)
    rw [hv, hd]
    go_enter Try.func37, Try.ntmps37
    go_wp2
    go_ret2
    exact ⟨rfl, rfl⟩
  rcases (show s = 0 ∨ s = 1 ∨ s = 2 ∨ s = 3 ∨ s = 4 ∨ s = 5 ∨ s = 6 ∨ s = 7 ∨ s = 8 ∨ s = 9 by omega) with rfl | rfl | rfl | rfl | rfl | rfl | rfl | rfl | rfl | rfl <;>
  · go_enter Try.func37, Try.ntmps37
    go_wp2
    go_ret2
    exact ⟨rfl, rfl⟩
/-- The size that says so many bytes; 255: none does. -/
def sizeN (ram : Int) : Nat := if ram = 0 then 0 else if ram = 2048 then 1 else if ram = 4096 then 2 else if ram = 8192 then 3 else if ram = 16384 then 4 else if ram = 32768 then 5 else if ram = 65536 then 6 else if ram = 131072 then 7 else if ram = 262144 then 8 else if ram = 524288 then 9 else 255
theorem sizeN_cases (ram : Int) : sizeN ram = 255 ∨ ram = 0 ∨ ram = 2048 ∨ ram = 4096 ∨ ram = 8192 ∨ ram = 16384 ∨ ram = 32768 ∨ ram = 65536 ∨ ram = 131072 ∨ ram = 262144 ∨ ram = 524288 := by
  unfold sizeN
  by_cases h0 : ram = 0
  · simp [h0]
  by_cases h1 : ram = 2048
  · simp [h1]
  by_cases h2 : ram = 4096
  · simp [h2]
  by_cases h3 : ram = 8192
  · simp [h3]
  by_cases h4 : ram = 16384
  · simp [h4]
  by_cases h5 : ram = 32768
  · simp [h5]
  by_cases h6 : ram = 65536
  · simp [h6]
  by_cases h7 : ram = 131072
  · simp [h7]
  by_cases h8 : ram = 262144
  · simp [h8]
  by_cases h9 : ram = 524288
  · simp [h9]
  simp [h0, h1, h2, h3, h4, h5, h6, h7, h8, h9]
theorem size_any (ram : Int) (w : World) : Calls Try.prog 16 #[.int .i64 ram] w fun e w' => e = .returned (.int .u8 (sizeN ram : Nat)) ∧ w' = w := by
  rcases sizeN_cases ram with hs | rfl | rfl | rfl | rfl | rfl | rfl | rfl | rfl | rfl | rfl
  · rw [hs]
    have hno : ram ≠ 0 ∧ ram ≠ 2048 ∧ ram ≠ 4096 ∧ ram ≠ 8192 ∧ ram ≠ 16384 ∧ ram ≠ 32768 ∧ ram ≠ 65536 ∧ ram ≠ 131072 ∧ ram ≠ 262144 ∧ ram ≠ 524288 := by
      unfold sizeN at hs
      refine ⟨?_, ?_, ?_, ?_, ?_, ?_, ?_, ?_, ?_, ?_⟩ <;> (intro h; subst h; simp at hs)
    obtain ⟨n0, n1, n2, n3, n4, n5, n6, n7, n8, n9⟩ := hno
    replace n0 : (ram == 0) = false := beq_eq_false_iff_ne.2 n0
    have m0 : ((0 : Int) == ram) = false := beq_eq_false_iff_ne.2 (fun h => by rw [← h] at n0; simp at n0)
    replace n1 : (ram == 2048) = false := beq_eq_false_iff_ne.2 n1
    have m1 : ((2048 : Int) == ram) = false := beq_eq_false_iff_ne.2 (fun h => by rw [← h] at n1; simp at n1)
    replace n2 : (ram == 4096) = false := beq_eq_false_iff_ne.2 n2
    have m2 : ((4096 : Int) == ram) = false := beq_eq_false_iff_ne.2 (fun h => by rw [← h] at n2; simp at n2)
    replace n3 : (ram == 8192) = false := beq_eq_false_iff_ne.2 n3
    have m3 : ((8192 : Int) == ram) = false := beq_eq_false_iff_ne.2 (fun h => by rw [← h] at n3; simp at n3)
    replace n4 : (ram == 16384) = false := beq_eq_false_iff_ne.2 n4
    have m4 : ((16384 : Int) == ram) = false := beq_eq_false_iff_ne.2 (fun h => by rw [← h] at n4; simp at n4)
    replace n5 : (ram == 32768) = false := beq_eq_false_iff_ne.2 n5
    have m5 : ((32768 : Int) == ram) = false := beq_eq_false_iff_ne.2 (fun h => by rw [← h] at n5; simp at n5)
    replace n6 : (ram == 65536) = false := beq_eq_false_iff_ne.2 n6
    have m6 : ((65536 : Int) == ram) = false := beq_eq_false_iff_ne.2 (fun h => by rw [← h] at n6; simp at n6)
    replace n7 : (ram == 131072) = false := beq_eq_false_iff_ne.2 n7
    have m7 : ((131072 : Int) == ram) = false := beq_eq_false_iff_ne.2 (fun h => by rw [← h] at n7; simp at n7)
    replace n8 : (ram == 262144) = false := beq_eq_false_iff_ne.2 n8
    have m8 : ((262144 : Int) == ram) = false := beq_eq_false_iff_ne.2 (fun h => by rw [← h] at n8; simp at n8)
    replace n9 : (ram == 524288) = false := beq_eq_false_iff_ne.2 n9
    have m9 : ((524288 : Int) == ram) = false := beq_eq_false_iff_ne.2 (fun h => by rw [← h] at n9; simp at n9)
    go_enter Try.func16, Try.ntmps16
    go_wp2
    refine wp_loop_rounds 10 ?_
    iterate 10
      rw [rounds_succ]
      go_wp2
    go_ret
    exact ⟨rfl, rfl⟩
  · go_enter Try.func16, Try.ntmps16
    go_wp2
    go_ret
    exact ⟨rfl, rfl⟩
  · go_enter Try.func16, Try.ntmps16
    go_wp2
    refine wp_loop_rounds 1 ?_
    iterate 1
      rw [rounds_succ]
      go_wp2
    go_ret
    exact ⟨rfl, rfl⟩
  · go_enter Try.func16, Try.ntmps16
    go_wp2
    refine wp_loop_rounds 2 ?_
    iterate 2
      rw [rounds_succ]
      go_wp2
    go_ret
    exact ⟨rfl, rfl⟩
  · go_enter Try.func16, Try.ntmps16
    go_wp2
    refine wp_loop_rounds 3 ?_
    iterate 3
      rw [rounds_succ]
      go_wp2
    go_ret
    exact ⟨rfl, rfl⟩
  · go_enter Try.func16, Try.ntmps16
    go_wp2
    refine wp_loop_rounds 4 ?_
    iterate 4
      rw [rounds_succ]
      go_wp2
    go_ret
    exact ⟨rfl, rfl⟩
  · go_enter Try.func16, Try.ntmps16
    go_wp2
    refine wp_loop_rounds 5 ?_
    iterate 5
      rw [rounds_succ]
      go_wp2
    go_ret
    exact ⟨rfl, rfl⟩
  · go_enter Try.func16, Try.ntmps16
    go_wp2
    refine wp_loop_rounds 6 ?_
    iterate 6
      rw [rounds_succ]
      go_wp2
    go_ret
    exact ⟨rfl, rfl⟩
  · go_enter Try.func16, Try.ntmps16
    go_wp2
    refine wp_loop_rounds 7 ?_
    iterate 7
      rw [rounds_succ]
      go_wp2
    go_ret
    exact ⟨rfl, rfl⟩
  · go_enter Try.func16, Try.ntmps16
    go_wp2
    refine wp_loop_rounds 8 ?_
    iterate 8
      rw [rounds_succ]
      go_wp2
    go_ret
    exact ⟨rfl, rfl⟩
  · go_enter Try.func16, Try.ntmps16
    go_wp2
    refine wp_loop_rounds 9 ?_
    iterate 9
      rw [rounds_succ]
      go_wp2
    go_ret
    exact ⟨rfl, rfl⟩
theorem ramSizeOf_any (ram : Int) (w : World) : Calls Try.prog 26 #[.int .i64 ram] w fun e w' => (sizeN ram = 255 ∧ e = .returned (.tuple #[.int .u8 0, .bool false]) ∨ sizeN ram ≤ 9 ∧ e = .returned (.tuple #[.int .u8 (sizeN ram : Nat), .bool true])) ∧ w' = w := by
  rcases sizeN_cases ram with hs | rfl | rfl | rfl | rfl | rfl | rfl | rfl | rfl | rfl | rfl
  · have hs0 := Lib.hid hs
    have hno : ram ≠ 0 ∧ ram ≠ 2048 ∧ ram ≠ 4096 ∧ ram ≠ 8192 ∧ ram ≠ 16384 ∧ ram ≠ 32768 ∧ ram ≠ 65536 ∧ ram ≠ 131072 ∧ ram ≠ 262144 ∧ ram ≠ 524288 := by
      unfold sizeN at hs
      refine ⟨?_, ?_, ?_, ?_, ?_, ?_, ?_, ?_, ?_, ?_⟩ <;> (intro h; subst h; simp at hs)
    obtain ⟨n0, n1, n2, n3, n4, n5, n6, n7, n8, n9⟩ := hno
    replace n0 : (ram == 0) = false := beq_eq_false_iff_ne.2 n0
    have m0 : ((0 : Int) == ram) = false := beq_eq_false_iff_ne.2 (fun h => by rw [← h] at n0; simp at n0)
    replace n1 : (ram == 2048) = false := beq_eq_false_iff_ne.2 n1
    have m1 : ((2048 : Int) == ram) = false := beq_eq_false_iff_ne.2 (fun h => by rw [← h] at n1; simp at n1)
    replace n2 : (ram == 4096) = false := beq_eq_false_iff_ne.2 n2
    have m2 : ((4096 : Int) == ram) = false := beq_eq_false_iff_ne.2 (fun h => by rw [← h] at n2; simp at n2)
    replace n3 : (ram == 8192) = false := beq_eq_false_iff_ne.2 n3
    have m3 : ((8192 : Int) == ram) = false := beq_eq_false_iff_ne.2 (fun h => by rw [← h] at n3; simp at n3)
    replace n4 : (ram == 16384) = false := beq_eq_false_iff_ne.2 n4
    have m4 : ((16384 : Int) == ram) = false := beq_eq_false_iff_ne.2 (fun h => by rw [← h] at n4; simp at n4)
    replace n5 : (ram == 32768) = false := beq_eq_false_iff_ne.2 n5
    have m5 : ((32768 : Int) == ram) = false := beq_eq_false_iff_ne.2 (fun h => by rw [← h] at n5; simp at n5)
    replace n6 : (ram == 65536) = false := beq_eq_false_iff_ne.2 n6
    have m6 : ((65536 : Int) == ram) = false := beq_eq_false_iff_ne.2 (fun h => by rw [← h] at n6; simp at n6)
    replace n7 : (ram == 131072) = false := beq_eq_false_iff_ne.2 n7
    have m7 : ((131072 : Int) == ram) = false := beq_eq_false_iff_ne.2 (fun h => by rw [← h] at n7; simp at n7)
    replace n8 : (ram == 262144) = false := beq_eq_false_iff_ne.2 n8
    have m8 : ((262144 : Int) == ram) = false := beq_eq_false_iff_ne.2 (fun h => by rw [← h] at n8; simp at n8)
    replace n9 : (ram == 524288) = false := beq_eq_false_iff_ne.2 n9
    have m9 : ((524288 : Int) == ram) = false := beq_eq_false_iff_ne.2 (fun h => by rw [← h] at n9; simp at n9)
    clear hs
    go_enter Try.func26, Try.ntmps26
    go_wp2
    refine wp_loop_rounds 11 ?_
    iterate 11
      rw [rounds_succ]
      go_wp2
    go_ret2
    exact ⟨.inl ⟨hs0.out, rfl⟩, rfl⟩
  · go_enter Try.func26, Try.ntmps26
    go_wp2
    refine wp_loop_rounds 1 ?_
    iterate 1
      rw [rounds_succ]
      go_wp2
    go_ret2
    exact ⟨.inr ⟨by decide, rfl⟩, rfl⟩
  · go_enter Try.func26, Try.ntmps26
    go_wp2
    refine wp_loop_rounds 2 ?_
    iterate 2
      rw [rounds_succ]
      go_wp2
    go_ret2
    exact ⟨.inr ⟨by decide, rfl⟩, rfl⟩
  · go_enter Try.func26, Try.ntmps26
    go_wp2
    refine wp_loop_rounds 3 ?_
    iterate 3
      rw [rounds_succ]
      go_wp2
    go_ret2
    exact ⟨.inr ⟨by decide, rfl⟩, rfl⟩
  · go_enter Try.func26, Try.ntmps26
    go_wp2
    refine wp_loop_rounds 4 ?_
    iterate 4
      rw [rounds_succ]
      go_wp2
    go_ret2
    exact ⟨.inr ⟨by decide, rfl⟩, rfl⟩
  · go_enter Try.func26, Try.ntmps26
    go_wp2
    refine wp_loop_rounds 5 ?_
    iterate 5
      rw [rounds_succ]
      go_wp2
    go_ret2
    exact ⟨.inr ⟨by decide, rfl⟩, rfl⟩
  · go_enter Try.func26, Try.ntmps26
    go_wp2
    refine wp_loop_rounds 6 ?_
    iterate 6
      rw [rounds_succ]
      go_wp2
    go_ret2
    exact ⟨.inr ⟨by decide, rfl⟩, rfl⟩
  · go_enter Try.func26, Try.ntmps26
    go_wp2
    refine wp_loop_rounds 7 ?_
    iterate 7
      rw [rounds_succ]
      go_wp2
    go_ret2
    exact ⟨.inr ⟨by decide, rfl⟩, rfl⟩
  · go_enter Try.func26, Try.ntmps26
    go_wp2
    refine wp_loop_rounds 8 ?_
    iterate 8
      rw [rounds_succ]
      go_wp2
    go_ret2
    exact ⟨.inr ⟨by decide, rfl⟩, rfl⟩
  · go_enter Try.func26, Try.ntmps26
    go_wp2
    refine wp_loop_rounds 9 ?_
    iterate 9
      rw [rounds_succ]
      go_wp2
    go_ret2
    exact ⟨.inr ⟨by decide, rfl⟩, rfl⟩
  · go_enter Try.func26, Try.ntmps26
    go_wp2
    refine wp_loop_rounds 10 ?_
    iterate 10
      rw [rounds_succ]
      go_wp2
    go_ret2
    exact ⟨.inr ⟨by decide, rfl⟩, rfl⟩
def kindN (c : Nat) : Nat := if c = 1 then 3 else if c = 2 then 51 else 0
theorem kindOf_any (c : Nat) (w : World) (hc : c < 256) : Calls Try.prog 25 #[.int .u8 c] w fun e w' => e = .returned (.tuple #[.int .u8 (kindN c : Nat), .bool (decide (c ≤ 2))]) ∧ w' = w := by
  by_cases h2 : 2 < c
  · have hv : kindN c = 0 := by unfold kindN; rw [if_neg (by omega), if_neg (by omega)]
    have hd : decide (c ≤ 2) = false := decide_eq_false (by omega)
    have n0 : ((c : Int) == 0) = false := beq_eq_false_iff_ne.2 (by omega)
    have n1 : ((c : Int) == 1) = false := beq_eq_false_iff_ne.2 (by omega)
    have n2 : ((c : Int) == 2) = false := beq_eq_false_iff_ne.2 (by omega)
    rw [hv, hd]
    go_enter Try.func25, Try.ntmps25
    go_wp2
    go_ret2
    exact ⟨rfl, rfl⟩
  rcases (show c = 0 ∨ c = 1 ∨ c = 2 by omega) with rfl | rfl | rfl <;>
  · go_enter Try.func25, Try.ntmps25
    go_wp2
    go_ret2
    exact ⟨rfl, rfl⟩

theorem info5 : Try.prog.info? 5 = some ((Try.prog.info? 5).get (by kernel_rfl)) := by kernel_rfl
/-- The library's copy of bytes. -/
theorem clone_any (b o n c : Nat) (f : Nat → Nat) (w : World) (h : Row w (some ⟨b, o, none⟩) n f) (hn : n ≤ 140737488355328) :
    Calls Try.prog 19 #[.slice (some ⟨b, o, none⟩) n c] w fun e w' => ∃ G cap, e = .returned (.slice (some ⟨G, 0, none⟩) n cap) ∧ n ≤ cap ∧ Holds w' G n f ∧ w.heap.size ≤ G ∧ Below w.heap.size w w' := by
  rcases h with ⟨hb, h0 | ⟨b', o', e, hlt, hc⟩⟩
  · subst h0
    refine (Try.slices_Clone _ (.int .u8 0) 1 1 info5 rfl rfl rfl rfl (by decide) Try.sizeOf5 b o 0 c [] w rfl (by unfold maxLen; omega) (by omega) (fun j u hu => by simp at hu) (fun u hu => by cases hu)).mono ?_
    rintro e w' ⟨v', rfl, hown, hne, hB⟩
    rcases hown.2 with ⟨h1, _⟩ | ⟨g, cap, cur, rfl, hg, hh, hncap, _, hsz, htk⟩
    · exact absurd h1 hne
    · exact ⟨g, cap, rfl, hncap, ⟨cur, hh, by omega, fun i hi => by omega⟩, hg, hB⟩
  · injection e with e
    injection e with e1 e2
    subst e1 e2
    refine (Try.slices_Clone _ (.int .u8 0) 1 1 info5 rfl rfl rfl rfl (by decide) Try.sizeOf5 b o n c ((List.range n).map fun i => Value.int .u8 (f i : Nat)) w (by simp) (by unfold maxLen; omega) (by omega) (fun j u hu => by
      rw [List.getElem?_map] at hu
      by_cases hj : j < n
      · rw [List.getElem?_range hj] at hu
        simp only [Option.map_some, Option.some.injEq] at hu
        rw [← hu]
        exact hc j hj
      · rw [List.getElem?_eq_none (by simpa using hj)] at hu
        cases hu) (fun u hu => by
      obtain ⟨i, _, rfl⟩ := List.mem_map.1 hu
      rfl)).mono ?_
    rintro e w' ⟨v', rfl, hown, hne, hB⟩
    rcases hown.2 with ⟨h1, _⟩ | ⟨g, cap, cur, rfl, hg, hh, hncap, _, hsz, htk⟩
    · exact absurd h1 hne
    · refine ⟨g, cap, rfl, hncap, ⟨cur, hh, by omega, fun i hi => ⟨hb i hi, ?_⟩⟩, hg, hB⟩
      have h2 : (cur.toList.take (n * 1))[i]? = some (Value.int .u8 (f i : Nat)) := by rw [htk, List.getElem?_map, List.getElem?_range hi]; rfl
      rw [List.getElem?_take_of_lt (by omega)] at h2
      simpa using h2
end Go.Proofs.Ytggjaoihfhianaa
