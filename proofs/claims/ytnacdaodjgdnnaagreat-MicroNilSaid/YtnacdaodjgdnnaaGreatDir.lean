/-
  Direct and Next, by the code and by the document.
-/
import Derived.Test.YtnacdaodjgdnnaaGreatRegs
import Derived.BigQuiet
namespace Go.Proofs.YtnacdaodjgdnnaaGreat
open Go.RowKit Go.Shelf
set_option maxRecDepth 100000
set_option maxHeartbeats 1000000

theorem address_v {b n v : Nat} {x z : Int} (w : World) (hx : x = (b : Int)) (hz : z = (n : Int)) (hb : b < 256) (hn : n < 4294967296) (hv : b * 65536 + n % 65536 = v) : Calls Tryz.prog 111 #[.int .u8 x, .int .u32 z] w fun e w' => e = .returned (.int .u32 (v : Nat)) ∧ w = w' := by
  subst hx hz hv; exact address_any b n w hb hn
theorem cut_v {n v : Nat} {z : Int} (w : World) (hz : z = (n : Int)) (hn : n < 4294967296) (hv : n % 16777216 = v) : Calls Tryz.prog 249 #[.int .u32 z] w fun e w' => e = .returned (.int .u32 (v : Nat)) ∧ w = w' := by
  subst hz hv; exact cut_any n w hn
theorem below2 (w : World) (o o2 : Obj) : Below w.heap.size w ((w.alloc o).alloc o2) := ((Below.refl w.heap.size w).alloc (Nat.le_refl _) o).alloc (by simp) o2
theorem ret_u32 {a b : Nat} (h : a = b) : Ending.returned (.int .u32 (a : Nat)) = .returned (.int .u32 (b : Nat)) := by rw [h]
theorem direct_any (r : Rg) (n : Nat) (w : World) (h : r.Ok) (hn : n < 4294967296) :
    Calls Tryz.prog 304 #[r.v, .int .u32 (n : Nat)] w fun e w' => e = .returned (.int .u32 (directF r.D n r.E : Nat)) ∧ Below w.heap.size w w' := by
  obtain ⟨A, X, Y, S, D, PC, B, K, P, E⟩ := r
  have hD : D < 65536 := h.D
  clear h
  have q1 := and8u16 D hD
  have q2 := and8u32 n hn
  unfold Rg.v rgC
  dsimp only
  have hB : Below w.heap.size w ((w.alloc (.cells #[.int .u16 A, .int .u16 X, .int .u16 Y, .int .u16 S, .int .u16 D, .int .u16 PC, .int .u8 B, .int .u8 K, .int .u8 P, .bool E] 24))) := (Below.refl _ _).alloc (Nat.le_refl _) _
  by_cases h0 : E = true ∧ D % 256 = 0
  · obtain ⟨rfl, h0⟩ := h0
    have t1 : (((D % 256 : Nat) : Int) == 0) = true := by rw [h0]; rfl
    obtain ⟨v, hv⟩ : ∃ v, directF D n true = v := ⟨_, rfl⟩
    have HV := Lib.hid (show 0 * 65536 + (D + n % 256) % 65536 = v by rw [← hv]; unfold directF; rw [if_pos ⟨rfl, h0⟩]; omega)
    rw [hv]
    clear h0 hv
    go_enter Tryz.func304, Tryz.ntmps304
    go_wp2_with fail
    refine (address_v (b := 0) (n := D + n % 256) _ rfl (by omega) (by decide) (by omega) HV.out).mono ?_
    rintro e w' ⟨rfl, rfl⟩
    go_wp2_with fail
    go_ret
    exact ⟨rfl, hB⟩
  · obtain ⟨v, hv⟩ : ∃ v, directF D n E = v := ⟨_, rfl⟩
    have HV := Lib.hid (show 0 * 65536 + ((D + n) % 4294967296) % 65536 = v by rw [← hv]; unfold directF; rw [if_neg h0]; omega)
    rw [hv]
    clear hv
    cases E
    · clear h0
      go_enter Tryz.func304, Tryz.ntmps304
      go_wp2_with fail
      refine (address_v (b := 0) (n := (D + n) % 4294967296) _ rfl (by omega) (by decide) (by omega) HV.out).mono ?_
      rintro e w' ⟨rfl, rfl⟩
      go_wp2_with fail
      go_ret
      exact ⟨rfl, hB⟩
    · have t1 : (((D % 256 : Nat) : Int) == 0) = false := by rw [beq_eq_false_iff_ne]; intro e; exact h0 ⟨rfl, by omega⟩
      clear h0
      go_enter Tryz.func304, Tryz.ntmps304
      go_wp2_with fail
      refine (address_v (b := 0) (n := (D + n) % 4294967296) _ rfl (by omega) (by decide) (by omega) HV.out).mono ?_
      rintro e w' ⟨rfl, rfl⟩
      go_wp2_with fail
      go_ret
      exact ⟨rfl, hB⟩
theorem rdirect_any (r : Rg) (n : Nat) (w : World) (h : r.Ok) (hn : n < 4294967296) :
    Calls Tryz.prog 223 #[r.v, .int .u32 (n : Nat)] w fun e w' => e = .returned (.int .u32 (directF r.D n r.E : Nat)) ∧ Below w.heap.size w w' := by
  obtain ⟨A, X, Y, S, D, PC, B, K, P, E⟩ := r
  have hD : D < 65536 := h.D
  clear h
  unfold Rg.v rgC
  dsimp only
  have hB : Below w.heap.size w ((w.alloc (.cells #[.int .u16 A, .int .u16 X, .int .u16 Y, .int .u16 S, .int .u16 D, .int .u16 PC, .int .u8 B, .int .u8 K, .int .u8 P, .bool E] 24))) := (Below.refl _ _).alloc (Nat.le_refl _) _
  by_cases h0 : E = true ∧ D % 256 = 0
  · obtain ⟨rfl, h0⟩ := h0
    have t1 : ((D : Int) % 256 == 0) = true := by rw [beq_iff_eq]; omega
    have e1 : directF D n true = D + n % 256 := by unfold directF; rw [if_pos ⟨rfl, h0⟩]
    rw [e1]
    clear h0 e1
    go_enter Tryz.func223, Tryz.ntmps223
    go_wp2_with fail
    go_ret
    exact ⟨by first | rfl | (congr 2; omega), hB⟩
  · have e1 : directF D n E = (D + n % 65536) % 65536 := by unfold directF; rw [if_neg h0]; omega
    rw [e1]
    clear e1
    cases E
    · clear h0
      go_enter Tryz.func223, Tryz.ntmps223
      go_wp2_with fail
      go_ret
      exact ⟨by first | rfl | (congr 2; omega), hB⟩
    · have t1 : ((D : Int) % 256 == 0) = false := by rw [beq_eq_false_iff_ne]; intro e; exact h0 ⟨rfl, by omega⟩
      clear h0
      go_enter Tryz.func223, Tryz.ntmps223
      go_wp2_with fail
      go_ret
      exact ⟨by first | rfl | (congr 2; omega), hB⟩
def plV (a : Nat) (b : Bool) : Value := .agg #[.int .u32 (a : Nat), .bool b]
theorem next_any (a : Nat) (b : Bool) (w : World) :
    Calls Tryz.prog 250 #[plV a b] w fun e w' => e = .returned (plV (nextF a b) b) ∧ Below w.heap.size w w' := by
  unfold plV
  obtain ⟨m, hm⟩ : ∃ m, ((a + 1) % 4294967296) % 16777216 = m := ⟨_, rfl⟩
  obtain ⟨v, hv⟩ : ∃ v, nextF a b = v := ⟨_, rfl⟩
  rw [hv]
  have HM := Lib.hid hm
  have hml : m < 16777216 := by omega
  cases b
  · obtain rfl : m = v := by rw [← hv]; unfold nextF; rw [if_neg (by decide)]; omega
    clear hv hm
    go_enter Tryz.func250, Tryz.ntmps250
    go_wp2_with fail
    refine (cut_v (n := (a + 1) % 4294967296) _ (by omega) (by omega) HM.out).mono ?_
    rintro e w' ⟨rfl, rfl⟩
    go_wp2_with fail
    exact bodyPost_ret (v := .agg #[.int .u32 m, .bool false]) (by simp [results, Tryz.results250, go_sem]) rfl ⟨rfl, below2 _ _ _⟩
  · have HV := Lib.hid (show (a / 65536 % 256) * 65536 + m % 65536 = v by rw [← hv]; unfold nextF; rw [if_pos rfl]; omega)
    clear hv hm
    go_enter Tryz.func250, Tryz.ntmps250
    go_wp2_with fail
    refine (cut_v (n := (a + 1) % 4294967296) _ (by omega) (by omega) HM.out).mono ?_
    rintro e w' ⟨rfl, rfl⟩
    go_wp2_with fail
    refine (address_v (b := a / 65536 % 256) (n := m) _ (by omega) rfl (by omega) (by omega) HV.out).mono ?_
    rintro e w' ⟨rfl, rfl⟩
    go_wp2_with fail
    exact bodyPost_ret (v := .agg #[.int .u32 v, .bool true]) (by simp [results, Tryz.results250, go_sem]) rfl ⟨rfl, below2 _ _ _⟩
theorem rnext_any (a : Nat) (b : Bool) (w : World) :
    Calls Tryz.prog 220 #[plV a b] w fun e w' => e = .returned (plV (nextF a b) b) ∧ Below w.heap.size w w' := by
  unfold plV
  obtain ⟨v, hv⟩ : ∃ v, nextF a b = v := ⟨_, rfl⟩
  rw [hv]
  cases b
  · have hv : (a % 16777216 + 1) % 16777216 = v := by rw [← hv]; unfold nextF; rw [if_neg (by decide)]; omega
    have h1 : ((a : Int) % 16777216 + 1) % 16777216 = (v : Int) := by omega
    clear hv
    go_enter Tryz.func220, Tryz.ntmps220
    go_wp2_with fail
    exact bodyPost_ret (v := .agg #[.int .u32 v, .bool false]) (by simp [results, Tryz.results220, go_sem]) rfl ⟨rfl, below2 _ _ _⟩
  · have hv : (a % 16777216) / 65536 * 65536 + (a % 16777216 + 1) % 65536 = v := by rw [← hv]; unfold nextF; rw [if_pos rfl]; omega
    have h1 : ((a : Int) % 16777216) / 65536 * 65536 + ((a : Int) % 16777216 + 1) % 65536 = (v : Int) := by omega
    clear hv
    go_enter Tryz.func220, Tryz.ntmps220
    go_wp2_with fail
    exact bodyPost_ret (v := .agg #[.int .u32 v, .bool true]) (by simp [results, Tryz.results220, go_sem]) rfl ⟨rfl, below2 _ _ _⟩
end Go.Proofs.YtnacdaodjgdnnaaGreat
