/-
  Whether there are no bytes of a cartridge: three closures, and the switch.
-/
import Derived.Test.YtggjaoihfhianaaSmall
import Derived.Test.YtggjaoihfhianaaPlan
namespace Go.Proofs.Ytggjaoihfhianaa
open Go.RowKit Go.Shelf
set_option maxRecDepth 100000
set_option maxHeartbeats 2000000

/-- The cells of a cartridge. -/
def cartC (l c : Nat) (R : Value) (ram : Int) (t : ByteArray) (z : Nat) (fast : Bool) (S : Value) : Array Value := #[.int .u8 l, .int .u8 c, R, .int .i64 ram, .string t, .int .u16 z, .bool fast, S]
def partsB (c : Nat) (ram : Int) : Bool := decide (c ≤ 2) && decide (sizeN ram ≤ 9)
def romB (l n : Nat) : Bool := decide (32768 ≤ n) && decide (n ≤ 8388608) && decide (n % 1024 = 0) && decide (posOf l + 64 ≤ n)
def titleB (t : ByteArray) : Bool := decide (t.size ≤ 21) && seenB t && !(Lib.hasSuffix t.data.toList [32])
def mayB (l c n : Nat) (ram : Int) (t : ByteArray) (z : Nat) : Bool := decide (1 ≤ l ∧ l ≤ 3) && partsB c ram && romB l n && titleB t && decide (32768 ≤ z)

theorem parts_any (B l c : Nat) (R : Value) (ram : Int) (t : ByteArray) (z : Nat) (fast : Bool) (S : Value) (w : World) (hc : c < 256) (hX : Whole w B 28 (cartC l c R ram t z fast S)) :
    Calls Try.prog 24 #[.pointer (some ⟨B, 0, none⟩)] w fun e w' => e = .returned (.bool (partsB c ram)) ∧ w' = w := by
  unfold cartC at hX
  have HK := Lib.hid (fun W => kindOf_any c W hc)
  have HR := Lib.hid (fun W => ramSizeOf_any ram W)
  have y1 := hX.cell 1
  have y3 := hX.cell 3
  simp only [List.getElem?_toArray, List.getElem?_cons_zero, List.getElem?_cons_succ] at y1 y3
  obtain ⟨pb, hpb⟩ : ∃ x, partsB c ram = x := ⟨_, rfl⟩
  rw [hpb]
  replace hpb := Lib.hid hpb
  obtain ⟨kb, hkb⟩ : ∃ x, decide (c ≤ 2) = x := ⟨_, rfl⟩
  rw [hkb] at HK
  replace hkb := Lib.hid hkb
  clear hX hc
  go_enter Try.func24, Try.ntmps24
  go_wp2_with fail
  refine (HK.out w).mono ?_
  rintro e w1 ⟨rfl, rfl⟩
  go_wp2_with fail
  refine (HR.out w1).mono ?_
  rintro e w2 ⟨hh, rfl⟩
  rcases hh with ⟨h1, rfl⟩ | ⟨h1, rfl⟩
  · have hv : pb = false := by rw [← hpb.out]; unfold partsB; rw [show decide (sizeN ram ≤ 9) = false from decide_eq_false (by omega), Bool.and_false]
    subst hv
    clear h1
    cases kb
    · go_wp2_with fail
      go_ret
      exact ⟨rfl, rfl⟩
    · go_wp2_with fail
      go_ret
      exact ⟨rfl, rfl⟩
  · have hv : pb = kb := by rw [← hpb.out, ← hkb.out]; unfold partsB; rw [show decide (sizeN ram ≤ 9) = true from decide_eq_true h1, Bool.and_true]
    subst hv
    clear h1 hpb hkb
    cases pb
    · go_wp2_with fail
      go_ret
      exact ⟨rfl, rfl⟩
    · go_wp2_with fail
      go_ret
      exact ⟨rfl, rfl⟩

theorem romB_any (B P M l c n cap : Nat) (ra : Option Addr) (ram : Int) (t : ByteArray) (z : Nat) (fast : Bool) (S : Value) (w : World)
    (hX : Whole w B 28 (cartC l c (.slice ra n cap) ram t z fast S)) (hP : Whole w P 47 #[.int .u8 l, .int .i64 (posOf l : Nat), .slice (some ⟨M, 0, none⟩) (modeLen l) (modeLen l)]) :
    Calls Try.prog 27 #[.pointer (some ⟨B, 0, none⟩), .pointer (some ⟨P, 0, none⟩)] w fun e w' => e = .returned (.bool (romB l n)) ∧ Below w.heap.size w w' := by
  unfold cartC at hX
  have hp0 : posOf l ≤ 4259776 := by unfold posOf; split <;> (try split) <;> omega
  have HW := Lib.hid (fun W => within_any l (posOf l) n (some ⟨M, 0, none⟩) (modeLen l) (modeLen l) W hp0)
  have y2 := hX.cell 2
  have p0 := hP.cell 0
  have p1 := hP.cell 1
  have p2 := hP.cell 2
  simp only [List.getElem?_toArray, List.getElem?_cons_zero, List.getElem?_cons_succ] at y2 p0 p1 p2
  obtain ⟨rb, hrb⟩ : ∃ x, romB l n = x := ⟨_, rfl⟩
  rw [hrb]
  unfold romB at hrb
  obtain ⟨wb, hwb⟩ : ∃ x, decide (posOf l + 64 ≤ n) = x := ⟨_, rfl⟩
  rw [hwb] at HW hrb
  generalize posOf l = pos at *
  generalize modeLen l = ml at *
  clear hwb hp0 hX hP
  have e1 : decide ((32768 : Int) ≤ (n : Int)) = decide (32768 ≤ n) := decide_eq_decide.2 (by omega)
  have e2 : decide ((n : Int) ≤ 8388608) = decide (n ≤ 8388608) := decide_eq_decide.2 (by omega)
  have e3 : ((n : Int) % 1024 == 0) = decide (n % 1024 = 0) := by rw [Bool.eq_iff_iff, beq_iff_eq, decide_eq_true_eq]; omega
  generalize decide (32768 ≤ n) = b1 at *
  generalize decide (n ≤ 8388608) = b2 at *
  generalize decide (n % 1024 = 0) = b3 at *
  replace hrb := Lib.hid hrb
  have hB0 := Lib.hid (Below.refl w.heap.size w)
  cases b1
  · have hv : rb = false := by rw [← hrb.out]; rfl
    subst hv
    clear hrb HW
    go_enter Try.func27, Try.ntmps27
    go_wp2_with fail
    go_ret
    exact ⟨rfl, hB0.out⟩
  cases b2
  · have hv : rb = false := by rw [← hrb.out]; rfl
    subst hv
    clear hrb HW
    go_enter Try.func27, Try.ntmps27
    go_wp2_with fail
    go_ret
    exact ⟨rfl, hB0.out⟩
  cases b3
  · have hv : rb = false := by rw [← hrb.out]; rfl
    subst hv
    clear hrb HW
    go_enter Try.func27, Try.ntmps27
    go_wp2_with fail
    go_ret
    exact ⟨rfl, hB0.out⟩
  · have hv : rb = wb := by rw [← hrb.out]; rfl
    subst hv
    clear hrb
    go_enter Try.func27, Try.ntmps27
    go_wp2_with fail
    refine (HW.out w).mono ?_
    rintro e w1 ⟨rfl, hB⟩
    replace hB := Lib.hid hB
    go_wp2_with fail
    go_ret
    exact ⟨rfl, hB.out⟩

theorem titleB_any (B l c : Nat) (R : Value) (ram : Int) (t : ByteArray) (z : Nat) (fast : Bool) (S : Value) (w : World) (ht : t.size ≤ 9223372036854775807) (hX : Whole w B 28 (cartC l c R ram t z fast S)) :
    Calls Try.prog 29 #[.pointer (some ⟨B, 0, none⟩)] w fun e w' => e = .returned (.bool (titleB t)) ∧ w' = w := by
  unfold cartC at hX
  have HP := Lib.hid (fun W => plain_any t W ht)
  have HS := Lib.hid (fun W => Try.strings_HasSuffix t ⟨#[32]⟩ W ht)
  have y4 := hX.cell 4
  simp only [List.getElem?_toArray, List.getElem?_cons_zero, List.getElem?_cons_succ] at y4
  obtain ⟨tb, htb⟩ : ∃ x, titleB t = x := ⟨_, rfl⟩
  rw [htb]
  unfold titleB at htb
  obtain ⟨hb, hhb⟩ : ∃ x, Lib.hasSuffix t.data.toList [32] = x := ⟨_, rfl⟩
  have hhb' : Lib.hasSuffix t.data.toList (⟨#[32]⟩ : ByteArray).data.toList = hb := hhb
  rw [hhb'] at HS
  rw [hhb] at htb
  generalize seenB t = sb at *
  have e1 : decide ((t.size : Int) ≤ 21) = decide (t.size ≤ 21) := decide_eq_decide.2 (by omega)
  generalize decide (t.size ≤ 21) = b1 at *
  replace htb := Lib.hid htb
  clear hhb hhb' ht hX
  cases b1
  · have hv : tb = false := by rw [← htb.out]; rfl
    subst hv
    clear htb HP HS
    go_enter Try.func29, Try.ntmps29
    go_wp2_with fail
    go_ret
    exact ⟨rfl, rfl⟩
  cases sb
  · have hv : tb = false := by rw [← htb.out]; rfl
    subst hv
    clear htb HS
    go_enter Try.func29, Try.ntmps29
    go_wp2_with fail
    refine (HP.out w).mono ?_
    rintro e w1 ⟨rfl, rfl⟩
    go_wp2_with fail
    go_ret
    exact ⟨rfl, rfl⟩
  · have hv : tb = !hb := by rw [← htb.out]; rfl
    subst hv
    clear htb
    go_enter Try.func29, Try.ntmps29
    go_wp2_with fail
    refine (HP.out w).mono ?_
    rintro e w1 ⟨rfl, rfl⟩
    go_wp2_with fail
    refine (HS.out w1).mono ?_
    rintro e w2 ⟨rfl, rfl⟩
    go_wp2_with fail
    go_ret
    exact ⟨rfl, rfl⟩
end Go.Proofs.Ytggjaoihfhianaa
