/-
  The document's Sum, Laid and Number.
-/
import Derived.Test.YtacnmnodbmbplaaHeads
namespace Go.Proofs.Ytacnmnodbmbplaa
open Go.RowKit Go.Shelf
set_option maxRecDepth 100000
set_option maxHeartbeats 1000000

theorem rsum_any (a : Option Addr) (n c : Nat) (f : Nat → Nat) (w : World) (h : Row w a n f) (hn : n ≤ 140737488355328) :
    Calls Try.prog 16 #[.slice a n c] w fun e w' => e = .returned (.int .u32 (sumN f n : Nat)) ∧ w' = w := by
  replace hn := Lib.hid hn
  go_enter Try.func16, Try.ntmps16
  go_wp2_with fail
  go_loopw [3, 4] (fun s3 s4 wr => ∃ i : Nat, i ≤ n ∧ s4 = .int .i64 i ∧ s3 = .int .u64 (sumN f i : Nat) ∧ wr = w) (fun _ s4 _ => n - (intOf s4).toNat)
  case atStart => exact ⟨0, Nat.zero_le _, rfl, rfl, rfl⟩
  case round =>
    obtain ⟨i, hi, rfl, rfl, rfl⟩ := hrel
    by_cases hlt : i < n
    · rcases h with ⟨hb, h0 | ⟨b, o, rfl, hbl, hc⟩⟩
      · omega
      have hci := hc i hlt
      have hbi := hb i hlt
      have hs := sumN_lt f i
      have hin : (i : Int) < (n : Int) := by omega
      have hin2 : (i : Int) + 1 ≤ 140737488355329 := by have := hn.out; omega
      have e1 : sumN f (i + 1) = (sumN f i * 31 + f i + 7) % 4294967296 := rfl
      generalize hS : sumN f i = S at *
      generalize f i = F at *
      clear hc hb
      have w1 : IntKind.u64.wrap ((S : Int) * 31) = (S : Int) * 31 := by simp only [IntKind.wrap_u64]; omega
      have w2 : IntKind.u64.wrap ((S : Int) * 31 + (F : Int)) = (S : Int) * 31 + (F : Int) := by simp only [IntKind.wrap_u64]; omega
      have w3 : IntKind.u64.wrap ((S : Int) * 31 + (F : Int) + 7) = (S : Int) * 31 + (F : Int) + 7 := by simp only [IntKind.wrap_u64]; omega
      have w4 : IntKind.u64.wrap (F : Int) = (F : Int) := by simp only [IntKind.wrap_u64]; omega
      have ha := Lib.hid hs
      have hb := Lib.hid hbi
      have r1 : ((S : Int) * 31 + (F : Int) + 7).tmod 4294967296 = ((S * 31 + F + 7) % 4294967296 : Nat) := by
        rw [Int.tmod_eq_emod_of_nonneg (by omega)]; omega
      clear hs hbi
      go_wp2_with fail
      go_roundw
      case rel => exact ⟨i + 1, by omega, by go_num, by rw [e1]; congr 1, trivial⟩
      case measure => simp [intOf]; omega
    · obtain rfl : i = n := by omega
      clear h
      have hs := sumN_lt f i
      have w1 : IntKind.u32.wrap (sumN f i : Int) = (sumN f i : Int) := by simp only [IntKind.wrap_u32]; omega
      replace hs := Lib.hid hs
      go_wp2_with fail
      go_ret
      exact ⟨rfl, rfl⟩
theorem byteAt_next (v i : Nat) : v / 2 ^ (8 * i) / 256 = v / 2 ^ (8 * (i + 1)) := by
  rw [Nat.div_div_eq_div_mul, show 8 * (i + 1) = 8 * i + 8 by omega, Nat.pow_add]
theorem rlaid_any (v n : Nat) (w : World) (hv : v < 18446744073709551616) (hn : n ≤ 8) :
    Calls Try.prog 36 #[.int .u64 v, .int .i64 n] w fun e w' => ∃ G, e = .returned (.slice (some ⟨G, 0, none⟩) n n) ∧ Holds w' G n (byteAt v) ∧ w.heap.size ≤ G ∧ Below w.heap.size w w' := by
  have hmk := fun W => run_make_row' (P := Try.prog) 25 5 (.int .u8 0) 1 Try.underlying25 (by kernel_rfl) rfl .i64 .i64 n (by omega) (by omega) W
  have hB0 : Below w.heap.size w (w.alloc (Obj.cells (madeCells #[Value.int .u8 0] n) 5)) := (Below.refl _ w).alloc (Nat.le_refl _) _
  have hH0 := holds_of_made (Whole.fresh w 5 (madeCells #[Value.int .u8 0] n))
  replace hv := Lib.hid hv
  go_enter Try.func36, Try.ntmps36
  go_wp2_with fail
  generalize (w.alloc (Obj.cells (madeCells #[Value.int .u8 0] n) 5)) = W0 at hB0 hH0 ⊢
  clear hmk
  obtain ⟨G, hG⟩ : ∃ G, w.heap.size = G := ⟨_, rfl⟩
  have hle : w.heap.size ≤ G := by omega
  rw [hG] at hH0 hB0 ⊢
  go_loopw [0, 6] (fun s0 s6 wr => ∃ i : Nat, i ≤ n ∧ s6 = .int .i64 i ∧ s0 = .int .u64 (v / 2 ^ (8 * i) : Nat) ∧ Holds wr G n (fun j => if j < i then byteAt v j else 0) ∧ Below G w wr) (fun _ s6 _ => n - (intOf s6).toNat)
  case atStart => exact ⟨0, Nat.zero_le _, rfl, by simp, hH0.congr (fun i _ => by simp), hB0⟩
  case round =>
    obtain ⟨i, hi, rfl, rfl, hH, hB⟩ := hrel
    by_cases hlt : i < n
    · have ci := hH.cell i hlt
      have fi := hH.free i
      have hP := (hH.put i (byteAt v i) (byteAt_lt v i)).congr (f' := fun j => if j < i + 1 then byteAt v j else 0) (fun j hj => by
        unfold upd
        by_cases e : j = i
        · subst e; rw [if_pos rfl, if_pos (by omega)]
        · rw [if_neg e]
          show (if j < i then byteAt v j else 0) = _
          by_cases e2 : j < i
          · rw [if_pos e2, if_pos (by omega)]
          · rw [if_neg e2, if_neg (by omega)])
      have hB2 := hB.setCell (p := ⟨G, i, none⟩) (Nat.le_refl _) (.int .u8 (byteAt v i : Nat))
      have hq := byteAt_next v i
      have hb : byteAt v i = v / 2 ^ (8 * i) % 256 := rfl
      have hvl : v / 2 ^ (8 * i) < 18446744073709551616 := Nat.lt_of_le_of_lt (Nat.div_le_self _ _) hv.out
      have hin : (i : Int) < (n : Int) := by omega
      have hin2 : (i : Int) + 1 ≤ 9 := by omega
      generalize byteAt v i = x at *
      generalize v / 2 ^ (8 * i) = q at *
      have r1 : (q : Int).tmod 256 = (x : Int) := by rw [Int.tmod_eq_emod_of_nonneg (by omega), hb]; omega
      have r2 : (q : Int).tdiv 256 = ((q / 256 : Nat) : Int) := by rw [Int.tdiv_eq_ediv_of_nonneg (by omega)]; omega
      have w1 : IntKind.u8.wrap (x : Int) = (x : Int) := by simp only [IntKind.wrap_u8]; omega
      have r3 : (q : Int) % 256 = (x : Int) := by rw [hb]; omega
      have w2 : IntKind.u64.wrap ((q : Int) / 256) = ((q / 256 : Nat) : Int) := by simp only [IntKind.wrap_u64]; omega
      replace hvl := Lib.hid hvl
      replace hP := Lib.hid hP
      replace hB2 := Lib.hid hB2
      replace hb := Lib.hid hb
      replace hq := Lib.hid hq
      clear hH
      go_wp2_with fail
      go_roundw
      case rel => exact ⟨i + 1, by omega, by go_num, by rw [← hq.out, Int.natCast_ediv]; rfl, hP.out, hB2.out⟩
      case measure => simp [intOf]; omega
    · obtain rfl : i = n := by omega
      have hfin := hH.congr (f' := byteAt v) (fun j hj => if_pos hj)
      go_wp2_with fail
      go_ret
      exact ⟨G, rfl, hfin, hle, by rw [hG]; exact hB⟩
theorem num_front (g : Nat → Nat) (k : Nat) : numN g (k + 1) = g 0 + 256 * numN (shiftF 1 g) k := by
  induction k with
  | zero => simp [numN]
  | succ k ih =>
    rw [numN, ih, numN]
    show _ + g (k + 1) * _ = g 0 + 256 * (_ + g (1 + k) * _)
    rw [Nat.add_comm 1 k, show 8 * (k + 1) = 8 * k + 8 by omega, Nat.pow_add, Nat.mul_add, ← Nat.add_assoc, Nat.mul_comm (2 ^ (8 * k)) (2 ^ 8), ← Nat.mul_assoc, ← Nat.mul_assoc, Nat.mul_comm (g (k + 1)) (2 ^ 8)]
theorem shift_shift (f : Nat → Nat) (a b : Nat) : shiftF a (shiftF b f) = shiftF (b + a) f := by
  funext i
  unfold shiftF
  rw [Nat.add_assoc]
theorem rnumber_any (a : Option Addr) (n c : Nat) (f : Nat → Nat) (w : World) (h : Row w a n f) (hn : n ≤ 8) :
    Calls Try.prog 42 #[.slice a n c] w fun e w' => e = .returned (.int .u64 (numN f n : Nat)) ∧ w' = w := by
  have h0w : IntKind.i64.wrap ((n : Int) - 1) = (n : Int) - 1 := by simp only [IntKind.wrap_i64]; omega
  have h0v : wrap64 ((n : Int) - 1) = (n : Int) - 1 := by unfold wrap64; omega
  go_enter Try.func42, Try.ntmps42
  go_wp2_with fail
  go_loopw [3, 4] (fun s3 s4 wr => ∃ j : Nat, j ≤ n ∧ s4 = .int .i64 ((n : Int) - 1 - (j : Int)) ∧ s3 = .int .u64 (numN (shiftF (n - j) f) j : Nat) ∧ wr = w) (fun _ s4 _ => (intOf s4 + 1).toNat)
  case atStart => exact ⟨0, Nat.zero_le _, by simp, by simp [numN], rfl⟩
  case round =>
    obtain ⟨j, hj, rfl, rfl, rfl⟩ := hrel
    by_cases hlt : j < n
    · rcases h with ⟨hb, h0 | ⟨b, o, rfl, hbl, hc⟩⟩
      · omega
      obtain ⟨i, hi⟩ : ∃ i, n - 1 - j = i := ⟨_, rfl⟩
      have hii : (n : Int) - 1 - (j : Int) = (i : Int) := by omega
      have hci := hc i (by omega)
      have hbi := hb i (by omega)
      have hN := numN_lt (f := shiftF (n - j) f) (n := j) (fun k hk => hb _ (by omega))
      have hN2 : 2 ^ (8 * j) ≤ 2 ^ 56 := Nat.pow_le_pow_right (by decide) (by omega)
      have hnx : numN (shiftF (n - (j + 1)) f) (j + 1) = numN (shiftF (n - j) f) j * 256 + f i := by
        rw [num_front, shift_shift, show n - (j + 1) + 1 = n - j by omega, show shiftF (n - (j + 1)) f 0 = f i by unfold shiftF; congr 1; omega]
        omega
      rw [hii]
      have hil : (i : Int) < (n : Int) := by omega
      have hi0 : (0 : Int) ≤ (i : Int) := by omega
      generalize numN (shiftF (n - j) f) j = S at *
      generalize f i = F at *
      have hSl : S < 72057594037927936 := by have e : (2 : Nat) ^ 56 = 72057594037927936 := by decide
                                             omega
      have w1 : IntKind.u64.wrap ((S : Int) * 256) = (S : Int) * 256 := by simp only [IntKind.wrap_u64]; omega
      have w2 : IntKind.u64.wrap ((S : Int) * 256 + (F : Int)) = (S : Int) * 256 + (F : Int) := by simp only [IntKind.wrap_u64]; omega
      have w3 : IntKind.i64.wrap ((i : Int) - 1) = (i : Int) - 1 := by simp only [IntKind.wrap_i64]; omega
      have w4 : wrap64 ((i : Int) - 1) = (i : Int) - 1 := by unfold wrap64; omega
      replace hSl := Lib.hid hSl
      replace hii := Lib.hid hii
      replace hnx := Lib.hid hnx
      clear hc hb hN hN2
      go_wp2_with fail
      go_roundw
      case rel => exact ⟨j + 1, by omega, by rw [show (i : Int) - 1 = (n : Int) - 1 - ((j + 1 : Nat) : Int) by have := hii.out; omega], by rw [hnx.out]; congr 1, trivial⟩
      case measure => simp [intOf]
    · obtain rfl : j = n := by omega
      clear h
      have e1 : (j : Int) - 1 - (j : Int) = -1 := by omega
      rw [e1]
      rw [show shiftF (j - j) f = f by rw [Nat.sub_self]; funext i; unfold shiftF; rw [Nat.zero_add]]
      go_wp2_with fail
      go_ret
      exact ⟨rfl, rfl⟩
end Go.Proofs.Ytacnmnodbmbplaa
