/-
  What Read answers; the best layout in one.
-/
import Derived.Test.YtggjaoihfhianaaDoorBestA
import Derived.Test.YtggjaoihfhianaaDoorBestC
import Derived.Test.YtggjaoihfhianaaDoorBestD
import Derived.Test.YtggjaoihfhianaaDoorSmall2
namespace Go.Proofs.YtggjaoihfhianaaDoor
open Go.RowKit Go.Shelf
set_option maxRecDepth 100000
set_option maxHeartbeats 2000000

theorem best_any (n cap : Nat) (a : Option Addr) (f : Nat → Nat) (w : World) (hcap : n ≤ cap) (h : Row w a n f) (hn0 : 32768 ≤ n) :
    Calls Tryd.prog 22 #[.slice a n cap] w fun e w' => e = .returned (.tuple #[.int .u8 (bestN n f : Nat), cardV (at' f (posOf (bestN n f)))]) ∧ Below w.heap.size w w' := by
  by_cases h2 : 65536 ≤ n
  · by_cases h3 : 4259840 ≤ n
    · by_cases s2 : scN f 1 < scN f 2
      · have e2 : best2 n f = 2 := by unfold best2; rw [if_pos ⟨by show 65472 + 64 ≤ n; omega, s2⟩]
        by_cases s3 : scN f 2 < scN f 3
        · have e : bestN n f = 3 := by unfold bestN; rw [if_pos ⟨by show 4259776 + 64 ≤ n; omega, by rw [e2]; exact s3⟩]
          rw [e]; exact bestC11_any n cap a f w hcap h h3 s2 s3
        · have e : bestN n f = 2 := by unfold bestN; rw [if_neg (by rw [e2]; exact fun h => s3 h.2), e2]
          rw [e]; exact bestC10_any n cap a f w hcap h h3 s2 s3
      · have e2 : best2 n f = 1 := by unfold best2; rw [if_neg (fun h => s2 h.2)]
        by_cases s3 : scN f 1 < scN f 3
        · have e : bestN n f = 3 := by unfold bestN; rw [if_pos ⟨by show 4259776 + 64 ≤ n; omega, by rw [e2]; exact s3⟩]
          rw [e]; exact bestC01_any n cap a f w hcap h h3 s2 s3
        · have e : bestN n f = 1 := by unfold bestN; rw [if_neg (by rw [e2]; exact fun h => s3 h.2), e2]
          rw [e]; exact bestC00_any n cap a f w hcap h h3 s2 s3
    · have h3' : ¬ posOf 3 + 64 ≤ n := by show ¬ 4259776 + 64 ≤ n; omega
      by_cases s2 : scN f 1 < scN f 2
      · have e2 : best2 n f = 2 := by unfold best2; rw [if_pos ⟨by show 65472 + 64 ≤ n; omega, s2⟩]
        have e : bestN n f = 2 := by unfold bestN; rw [if_neg (fun h => h3' h.1), e2]
        rw [e]; exact bestB1_any n cap a f w hcap h h2 (by omega) s2
      · have e2 : best2 n f = 1 := by unfold best2; rw [if_neg (fun h => s2 h.2)]
        have e : bestN n f = 1 := by unfold bestN; rw [if_neg (fun h => h3' h.1), e2]
        rw [e]; exact bestB0_any n cap a f w hcap h h2 (by omega) s2
  · have h2' : ¬ posOf 2 + 64 ≤ n := by show ¬ 65472 + 64 ≤ n; omega
    have h3' : ¬ posOf 3 + 64 ≤ n := by show ¬ 4259776 + 64 ≤ n; omega
    have e2 : best2 n f = 1 := by unfold best2; rw [if_neg (fun h => h2' h.1)]
    have e : bestN n f = 1 := by unfold bestN; rw [if_neg (fun h => h3' h.1), e2]
    rw [e]; exact bestA_any n cap a f w hcap h hn0 (by omega)
theorem best2_le (n : Nat) (f : Nat → Nat) : (best2 n f = 1 ∨ best2 n f = 2) ∧ (best2 n f = 2 → 65536 ≤ n) := by
  unfold best2
  split
  · rename_i h
    exact ⟨.inr rfl, fun _ => h.1⟩
  · exact ⟨.inl rfl, fun h => by cases h⟩
theorem bestN_in (n : Nat) (f : Nat → Nat) (hn0 : 32768 ≤ n) : 1 ≤ bestN n f ∧ bestN n f ≤ 3 ∧ posOf (bestN n f) + 64 ≤ n := by
  obtain ⟨h1, h2⟩ := best2_le n f
  unfold bestN
  split
  · rename_i h
    exact ⟨by decide, by decide, h.1⟩
  · rcases h1 with h1 | h1
    · rw [h1]; exact ⟨by decide, by decide, by show 32704 + 64 ≤ n; omega⟩
    · rw [h1]; exact ⟨by decide, by decide, h2 h1⟩
/-- The card that is chosen. -/
def gotG (n : Nat) (f : Nat → Nat) : Nat → Nat := at' f (posOf (bestN n f))
/-- Why Read refuses; 0: it does not. -/
def readE (n : Nat) (f : Nat → Nat) (sl : Nat) : Int :=
  if n < 32768 then 30 else if 8388608 < n then 31 else if chipN (gotG n f 22) = 255 then 32 else if 9 < gotG n f 24 then 33 else if chipN (gotG n f 22) = 1 ∧ sl ≠ 8192 then 34 else 0
def fastB (m : Nat) : Bool := decide (m / 16 % 2 = 1)
theorem and16 : ∀ m : Fin 256, (bits .and .u8 (m.val : Int) 16 != 0) = fastB m.val := by decide +kernel
def zeroCart : Value := .agg #[.int .u8 0, .int .u8 0, .slice none 0 0, .int .i64 0, .string ⟨#[]⟩, .int .u16 0, .bool false, .slice none 0 0]
/-- The cartridge, its rom at R, its signal's memory at S. -/
def readV (n : Nat) (f : Nat → Nat) (R S : Value) : Value :=
  cartA (bestN n f) (chipN (gotG n f 22)) R (ramN (gotG n f 24)) (titleS (gotG n f)) (gotG n f 60 + gotG n f 61 * 256) (fastB (gotG n f 21)) S
end Go.Proofs.YtggjaoihfhianaaDoor
