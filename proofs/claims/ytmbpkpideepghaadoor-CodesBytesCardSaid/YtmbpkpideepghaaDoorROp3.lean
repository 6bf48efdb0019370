/-
  An operand's text, by the document: the modes that have a sign.
-/
import Derived.Test.YtmbpkpideepghaaDoorROp2
namespace Go.Proofs.YtmbpkpideepghaaDoor
open Go.RowKit
set_option maxRecDepth 100000
set_option maxHeartbeats 1000000
set_option linter.unusedVariables false

attribute [local irreducible] bytesN numN dolL tgN opL sgL lowL signF
theorem rop_sign (cd : Nat) (nm : ByteArray) (m u wd k : Nat) (f : Nat → Nat) (pc : Nat) (w : World) (hm5 : 5 ≤ m) (hm24 : m < 24) (hm23 : m ≠ 23) (hk : k ≤ 3) (hf : ∀ i, i < k → f i < 256) :
    Calls Tryd.prog 38 #[codeV cd nm m u wd, .int .i64 (numN f k : Nat), .int .i64 k, .int .i64 pc] w fun e w' => e = .returned (.string (bytesN (opL m k f pc))) ∧ Below w.heap.size w w' := by
  have hX := Whole.fresh w 23 #[.int .u8 cd, .string nm, .int .u8 m, .int .u8 u, .int .u8 wd]
  have hB := (Below.refl w.heap.size w).alloc (Nat.le_refl _) (.cells #[.int .u8 cd, .string nm, .int .u8 m, .int .u8 u, .int .u8 wd] 23)
  have hn := numN_lt (f := f) (n := k) hf
  have hn4 : (2 : Nat) ^ (8 * k) ≤ 2 ^ (8 * 3) := Nat.pow_le_pow_right (by decide) (by omega)
  have hn5 : (2 : Nat) ^ (8 * 3) = 16777216 := by decide
  have HD := fun W => digits_any (numN f k) (2 * k) W (by omega) (by omega)
  have e2k : ((2 * k : Nat) : Int) = 2 * (k : Int) := by omega
  rw [e2k] at HD
  have HS := fun W => sign_any m W (by omega)
  rw [signF_list] at HS
  rw [op_sign m k f pc hm5 hm24 hm23]
  have hdl : dolL (numN f k) (2 * k) (2 * k) = 36 :: lowL (numN f k) (2 * k) := dolL_eq _ _
  have hdn : (dolL (numN f k) (2 * k) (2 * k)).length ≤ 7 := by rw [hdl, List.length_cons, lowL_len]; omega
  have z : (bytesN (lowL (numN f k) (2 * k))).size = 2 * k := by rw [bytesN_size, lowL_len]
  have e1 : bytesN (dolL (numN f k) (2 * k) (2 * k)) = ⟨#[36]⟩ ++ bytesN (lowL (numN f k) (2 * k)) := by rw [hdl, bytes_cons, bytes_one36]
  have hx : numN f k < 16777216 := by omega
  have hpl := sgL_plain m (by omega) hm5 hm23 hm24
  have hsl := sgL_len m (by omega)
  have hfs := flat_snoc (dolL (numN f k) (2 * k) (2 * k)) (sgL m)
  have hfl := fun i => flat_len (dolL (numN f k) (2 * k) (2 * k)) hdn ((sgL m).take i)
  clear hn hn4 hn5 hf e2k hdl
  have hnz : (bytesN (dolL (numN f k) (2 * k) (2 * k))).size ≤ 7 := by rw [bytesN_size]; exact hdn
  generalize bytesN (lowL (numN f k) (2 * k)) = T at *
  generalize hnum : dolL (numN f k) (2 * k) (2 * k) = num at *
  clear hnum
  generalize numN f k = x at *
  generalize sgL m = l at *
  have l1 : (9223372036854775807 < 1 + T.size) = False := sum_no _ _ (by omega)
  have hZ : (⟨#[36]⟩ : ByteArray) ++ T = bytesN num := e1.symm
  have hget : ∀ i (h : i < l.length) (h' : i < (bytesN l).size), ((bytesN l)[i]'h').toNat = l[i] := fun i h h' => bytesN_get l (fun x hx => Nat.lt_trans (hpl x hx).1 (by decide)) i h' h
  have hcut : ∀ i (h : i < l.length), (bytesN l).extract i (i + 1) = bytesN [l[i]] := fun i h => by
    rw [bytesN_extract]
    congr 1
    rw [Nat.add_sub_cancel_left, List.drop_eq_getElem_cons h]
    rfl
  have hszl : (bytesN l).size = l.length := bytesN_size l
  have h00 : bytesN ((l.take 0).flatMap (sgP num)) = ⟨#[]⟩ := by unfold bytesN; rfl
  have hendl : (l.take l.length) = l := List.take_length
  have hosz : ∀ i, i ≤ l.length → (bytesN ((l.take i).flatMap (sgP num))).size ≤ 49 := fun i hi => by
    rw [bytesN_size]
    have := hfl i
    rw [List.length_take] at this
    omega
  have hstep : ∀ i (h : i < l.length), bytesN ((l.take (i + 1)).flatMap (sgP num)) = bytesN ((l.take i).flatMap (sgP num)) ++ bytesN (sgP num l[i]) := fun i h => by rw [hfs i h, bytesN_append]
  have i3 : ((m : Int) == 3) = false := by rw [beq_eq_false_iff_ne]; omega
  have i4 : ((m : Int) == 4) = false := by rw [beq_eq_false_iff_ne]; omega
  have i23 : ((m : Int) == 23) = false := by rw [beq_eq_false_iff_ne]; omega
  have i1 : ((m : Int) == 1) = false := by rw [beq_eq_false_iff_ne]; omega
  have i2 : ((m : Int) == 2) = false := by rw [beq_eq_false_iff_ne]; omega
  have i24 : decide ((24 : Int) ≤ (m : Int)) = false := decide_eq_false (by omega)
  have x2 := hX.cell 2
  simp only [List.getElem?_toArray, List.getElem?_cons_zero, List.getElem?_cons_succ] at x2
  unfold codeV
  replace HD := Lib.hid HD
  replace HS := Lib.hid HS
  replace hget := Lib.hid hget
  replace hcut := Lib.hid hcut
  replace hstep := Lib.hid hstep
  replace hosz := Lib.hid hosz
  replace hendl := Lib.hid hendl
  replace hpl := Lib.hid hpl
  replace hB := Lib.hid hB
  replace h00 := Lib.hid h00
  have hlast : bytesN ((l.take l.length).flatMap (sgP num)) = bytesN (l.flatMap (sgP num)) := by rw [hendl.out]
  replace hlast := Lib.hid hlast
  clear e1 hfs hfl hX hm5 hm24 hm23
  go_enter Tryd.func38, Tryd.ntmps38
  go_wp2_with fail
  refine (HD.out _).mono ?_
  rintro e W2 ⟨rfl, rfl⟩
  go_wp2_with fail
  refine (HS.out _).mono ?_
  rintro e W2 ⟨rfl, rfl⟩
  clear HD HS
  generalize w.alloc (.cells #[.int .u8 cd, .string nm, .int .u8 m, .int .u8 u, .int .u8 wd] 23) = W1 at *
  clear i3 i4 i23 i1 i2 i24 x2
  try rw [hZ]
  clear hZ
  generalize hNUM : bytesN num = NUM at *
  generalize hBL : bytesN l = BL at *
  replace hBL := Lib.hid hBL
  go_wp2_with fail
  go_loopw [11, 12] (fun s11 s12 wr => ∃ i : Nat, i ≤ l.length ∧ s11 = .string (bytesN ((l.take i).flatMap (sgP num))) ∧ s12 = .int .i64 i ∧ wr = W1) (fun _ s12 _ => l.length - (intOf s12).toNat)
  case atStart => exact ⟨0, Nat.zero_le _, by rw [h00.out], rfl, rfl⟩
  case round =>
    obtain ⟨i, hi, rfl, rfl, rfl⟩ := hrel
    by_cases hlt : i < l.length
    · have hg := hget.out i hlt (by omega)
      have hc := hcut.out i hlt
      have hs := hstep.out i hlt
      have ho := hosz.out i hi
      have hp := (hpl.out l[i] (List.getElem_mem hlt)).1
      generalize hO1 : bytesN ((l.take (i + 1)).flatMap (sgP num)) = O1 at *
      replace hO1 := Lib.hid hO1
      generalize bytesN ((l.take i).flatMap (sgP num)) = O0 at *
      generalize l[i] = c at *
      have hc1 : (bytesN [c]).size = 1 := bytesN_size _
      have hlim1 : (9223372036854775807 < O0.size + NUM.size) = False := sum_no _ _ (by omega)
      have hlim2 : (9223372036854775807 < O0.size + (bytesN [c]).size) = False := sum_no _ _ (by omega)
      have hlim3 : (9223372036854775807 < O0.size + 1) = False := sum_no _ _ (by omega)
      have hl7 : i + 1 ≤ 100 := by omega
      clear hlim3 hl7
      have hsn : isNum c = true → O1 = O0 ++ NUM := fun h => by rw [hs, ← hNUM]; unfold sgP; rw [if_pos h]
      have hso : isNum c = false → O1 = O0 ++ bytesN [c] := fun h => by rw [hs]; unfold sgP; rw [h]; rfl
      clear hs hNUM
      by_cases h1 : c = 100
      · subst h1
        have hs := Lib.hid (hsn rfl)
        clear hsn hso hlim2 hc1 hc
        go_wp2_with fail
        go_roundw
        case rel => exact ⟨i + 1, by omega, by rw [hO1.out, hs.out], by go_num, trivial⟩
        case measure => simp [intOf]; omega
      by_cases h2 : c = 97
      · subst h2
        have hs := Lib.hid (hsn rfl)
        clear hsn hso hlim2 hc1 hc h1
        go_wp2_with fail
        go_roundw
        case rel => exact ⟨i + 1, by omega, by rw [hO1.out, hs.out], by go_num, trivial⟩
        case measure => simp [intOf]; omega
      by_cases h3 : c = 108
      · subst h3
        have hs := Lib.hid (hsn rfl)
        clear hsn hso hlim2 hc1 hc h1 h2
        go_wp2_with fail
        go_roundw
        case rel => exact ⟨i + 1, by omega, by rw [hO1.out, hs.out], by go_num, trivial⟩
        case measure => simp [intOf]; omega
      · have t1 : ((c : Int) == 100) = false := by rw [beq_eq_false_iff_ne]; omega
        have t2 : ((c : Int) == 97) = false := by rw [beq_eq_false_iff_ne]; omega
        have t3 : ((c : Int) == 108) = false := by rw [beq_eq_false_iff_ne]; omega
        have hs := Lib.hid (hso (by unfold isNum; simp [h1, h2, h3]))
        clear hsn hso hlim1 h1 h2 h3
        generalize bytesN [c] = CB at *
        go_wp2_with fail
        go_roundw
        case rel => exact ⟨i + 1, by omega, by rw [hO1.out, hs.out], by go_num, trivial⟩
        case measure => simp [intOf]; omega
    · obtain rfl : i = l.length := by omega
      have hll : decide ((l.length : Int) < (BL.size : Int)) = false := decide_eq_false (by omega)
      go_wp2_with fail
      go_ret
      exact ⟨by rw [hlast.out]; rfl, hB.out⟩
end Go.Proofs.YtmbpkpideepghaaDoor
