/-
  Where a register stands; the program's bytes as a number; operands in memory: how they are read and written.
-/
import Derived.Test.YthecghmhohkcmaaGreatDoorTAd
import Derived.Test.YthecghmhohkcmaaGreatDoorOf
namespace Go.Proofs.YthecghmhohkcmaaGreatDoor
open Go.RowKit Go.Shelf
set_option maxRecDepth 100000
set_option maxHeartbeats 1000000
set_option linter.unusedVariables false

def regL : List Nat := [65, 88, 89, 83, 80]
def memL : List Nat := [100, 120, 121, 105, 106, 43, 97, 112, 113, 108, 109, 98, 110, 47]
def regIx (c : Nat) : Nat := match c with | 88 => 1 | 89 => 2 | 83 => 3 | 80 => 4 | _ => 0
def regGet (c : Nat) (r : Rp) : Nat := match c with | 88 => r.X | 89 => r.Y | 83 => r.S | 80 => r.P | _ => r.A
def regSet (c v : Nat) (r : Rp) : Rp := match c with | 88 => { r with X := v } | 89 => { r with Y := v } | 83 => { r with S := v } | 80 => { r with P := v } | _ => { r with A := v }
section
variable {K : Cx} {z : Zs} {s : Ts} {w : World}
theorem register_any (c : Nat) (hc : c ∈ regL) : Calls Tryz.prog 105 #[.pointer (some ⟨K.b, 0, none⟩), .int .u8 (c : Nat)] w fun e w' => e = .returned (.pointer (some ⟨K.b, regIx c, none⟩)) ∧ w' = w := by
  simp only [regL, List.mem_cons, List.not_mem_nil, or_false] at hc
  rcases hc with rfl | rfl | rfl | rfl | rfl
  all_goals
    go_enter Tryz.func105, Tryz.ntmps105
    go_wp2_with fail
    go_ret
    exact ⟨rfl, rfl⟩
theorem address_any (c n : Nat) (hc : c ∈ memL) (h : Tk K z s w) (hn : n < 65536) (hl : s.l.length ≤ 98) : AdP K z s w c n := by
  simp only [memL, List.mem_cons, List.not_mem_nil, or_false] at hc
  rcases hc with rfl | rfl | rfl | rfl | rfl | rfl | rfl | rfl | rfl | rfl | rfl | rfl | rfl | rfl
  · exact address_100 n h hn hl
  · exact address_120 n h hn hl
  · exact address_121 n h hn hl
  · exact address_105 n h hn hl
  · exact address_106 n h hn hl
  · exact address_43 n h hn hl
  · exact address_97 n h hn hl
  · exact address_112 n h hn hl
  · exact address_113 n h hn hl
  · exact address_108 n h hn hl
  · exact address_109 n h hn hl
  · exact address_98 n h hn hl
  · exact address_110 n h hn hl
  · exact address_47 n h hn hl
/-- The program's next bytes as a number. -/
def numM : Nat → M Nat
  | 0 => M.pure 0
  | k + 1 => M.bind (numM k) fun n => M.bind fetchM fun v => M.pure (n + v * 256 ^ k)
theorem Gave.numUp {j : Nat} (s s1 : Ts) : ∀ i, j ≤ i → Gave (numM j) s s1 → Gave (numM i) s s1
  | 0, h, g => by obtain rfl : j = 0 := by omega
                  exact g
  | i + 1, h, g => by
    by_cases e : j = i + 1
    · subst e; exact g
    · exact Gave.bind (Gave.numUp s s1 i (by omega) g)
theorem fetchNumber_any (k : Nat) (hk : k ≤ 2) (h : Tk K z s w) (hl : s.l.length ≤ 98) :
    Calls Tryz.prog 104 #[.pointer (some ⟨K.b, 0, none⟩), .int .i64 (k : Nat)] w (Post K z s w (numM k) wordV (fun v => v < 65536) 2) := by
  obtain ⟨Q, hQ, F⟩ := post_name (Post K z s w (numM k) wordV (fun v => v < 65536) 2)
  rw [hQ]
  clear hQ
  have HF := Lib.hid fun (W : World) (s1 : Ts) (hW : Tk K z s1 W) (hl1 : s1.l.length ≤ 99) => fetch_any hW hl1
  replace F := Lib.hid F
  replace hl := Lib.hid hl
  replace h := Lib.hid h
  go_enter Tryz.func104, Tryz.ntmps104
  go_wp2_with fail
  go_loopw [5, 8] (fun s5 s8 wr => ∃ i n : Nat, ∃ s1 : Ts, i ≤ k ∧ s8 = .int .i64 i ∧ s5 = .int .u16 n ∧ n < 256 ^ i ∧ Ran (numM i) s n s1 ∧ Tk K z s1 wr ∧ Kp K w wr ∧ s1.l.length ≤ s.l.length + i) (fun _ s8 _ => k - (intOf s8).toNat)
  case atStart => exact ⟨0, 0, s, Nat.zero_le _, rfl, rfl, by decide, Ran.pure _ _, h.out, Kp.refl _ _, Nat.le_refl _⟩
  case round =>
    obtain ⟨i, n, s1, hi, rfl, rfl, hn, r1, t1, k1, l1⟩ := hrel
    by_cases hlt : i < k
    · have HC := Lib.hid (HF.out wr s1 t1 (by have := hl.out; omega))
      replace r1 := Lib.hid r1
      replace k1 := Lib.hid k1
      replace l1 := Lib.hid l1
      clear HF t1 h
      go_wp2_with fail
      with_reducible refine HC.out.mono ?_
      rintro e w1 ⟨s2, t2, k2, l2, (⟨v, r2, hv, rfl⟩ | ⟨g2, rfl⟩)⟩
      · have hR : Ran (numM (i + 1)) s (n + v * 256 ^ i) s2 := r1.out.bind (r2.bind (Ran.pure _ _))
        have hkp := k1.out.trans k2
        have hle : s2.l.length ≤ s.l.length + (i + 1) := by have := l1.out; omega
        have ev : IntKind.u16.wrap (v : Int) = (v : Int) := by simp only [IntKind.wrap_u16]; omega
        replace hR := Lib.hid hR
        replace hkp := Lib.hid hkp
        replace hle := Lib.hid hle
        replace t2 := Lib.hid t2
        clear HC r2 k2 l2 r1 k1 l1 F
        unfold byteV
        obtain rfl | rfl : i = 0 ∨ i = 1 := by omega
        · have eo : bits .or .u16 (n : Int) (v : Int) = ((n + v : Nat) : Int) := by
            obtain rfl : n = 0 := by omega
            rw [u16_or_nat 0 v (by omega) (by omega), Nat.zero_or, Nat.zero_add]
          go_wp2_with fail
          go_roundw
          case rel => exact ⟨1, n + v, s2, hlt, rfl, rfl, by omega, by simpa using hR.out, t2.out, hkp.out, hle.out⟩
          case measure => simp [intOf]; omega
        · have eo : bits .or .u16 (n : Int) ((v : Int) * 256) = ((n + v * 256 : Nat) : Int) := by
            rw [word_or n v (by omega) hv, Nat.add_comm]
          have ew : IntKind.u16.wrap ((v : Int) * 256) = (v : Int) * 256 := by simp only [IntKind.wrap_u16]; omega
          go_wp2_with fail
          go_roundw
          case rel => exact ⟨2, n + v * 256, s2, hlt, rfl, rfl, by omega, by simpa using hR.out, t2.out, hkp.out, hle.out⟩
          case measure => simp [intOf]; omega
      · have hf := Lib.hid (F.out lackE _ ⟨s2, t2, k1.out.trans k2, by have := l1.out; omega, .inr ⟨Gave.numUp s s2 k (j := i + 1) hlt (Gave.then r1.out (Gave.bind g2)), rfl⟩⟩)
        clear HC t2 k2 l2 g2 F
        unfold lackE at hf ⊢
        go_wp2_with fail
        first | exact hf.out | exact ⟨rfl, hf.out⟩
    · obtain rfl : i = k := by omega
      have hlt2 : n < 65536 := by
        have : 256 ^ i ≤ 256 ^ 2 := Nat.pow_le_pow_right (by decide) hk
        omega
      have hf := Lib.hid (F.out (.returned (wordV n)) wr (Post.done r1 t1 k1 hlt2 (by omega)))
      unfold wordV at hf
      clear HF F h r1 t1 k1 l1
      go_wp2_with fail
      exact hf.out
end
end Go.Proofs.YthecghmhohkcmaaGreatDoor
