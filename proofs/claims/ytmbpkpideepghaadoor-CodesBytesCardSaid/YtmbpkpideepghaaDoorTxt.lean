/-
  Text, by the code.
-/
import Derived.Test.YtmbpkpideepghaaDoorOpT
namespace Go.Proofs.YtmbpkpideepghaaDoor
open Go.RowKit
set_option maxRecDepth 100000
set_option maxHeartbeats 1000000
set_option linter.unusedVariables false

theorem formL_49 (m : Nat) (hm : m < 26) : 49 ∈ formL m → m = 23 := (show ∀ m, m < 26 → 49 ∈ formL m → m = 23 by decide +kernel) m hm
theorem formL_50 (m : Nat) (hm : m < 26) : 50 ∈ formL m → m = 23 := (show ∀ m, m < 26 → 50 ∈ formL m → m = 23 by decide +kernel) m hm
theorem formL_116 (m : Nat) (hm : m < 26) : 116 ∈ formL m → m = 3 ∨ m = 4 := (show ∀ m, m < 26 → 116 ∈ formL m → m = 3 ∨ m = 4 by decide +kernel) m hm
theorem formL_len (m : Nat) (hm : m < 26) : (formL m).length ≤ 7 := (show ∀ m, m < 26 → (formL m).length ≤ 7 by decide +kernel) m hm
theorem formL_ne (m : Nat) (hm : m < 26) : m ≠ 0 → ((formL m).map UInt8.ofNat).isEmpty = false := (show ∀ m, m < 26 → m ≠ 0 → ((formL m).map UInt8.ofNat).isEmpty = false by decide +kernel) m hm
theorem opF_23 (wd p : Nat) : opF 23 wd p = 2 := by unfold opF; simp
theorem opF_3 (wd p : Nat) : opF 3 wd p = 1 := by unfold opF; simp
theorem opF_4 (wd p : Nat) : opF 4 wd p = 2 := by unfold opF; simp
/-- How many bytes stand behind a code's own. -/
def operN (c p : Nat) : Nat := opF (modeF c) (widthF (nameF c).toList) p
theorem operN_le (c p : Nat) : operN c p ≤ 3 := opF_le _ _ _
attribute [local irreducible] bytesN modeF numN dolL tgN pieceL piecesL formL opF widthF nameF operN
theorem nameF_L (c : Nat) : nameF c = bytesN (nameL c) := nameF_list c
/-- What Text answers: whether there are bytes enough; else nothing. -/
def txtV (ok : Bool) (l : List Nat) (k : Nat) : Value := if ok then .tuple #[.string (bytesN l), .int .i64 ((k : Nat) : Int), .bool true] else .tuple #[.string ⟨#[]⟩, .int .i64 0, .bool false]
def txOk (n : Nat) (g : Nat → Nat) (p : Nat) : Bool := decide (n ≠ 0 ∧ 1 + operN (g 0) p ≤ n)
theorem nameL_len (c : Nat) (hc : c < 256) : (nameL c).length = 3 := (show ∀ c, c < 256 → (nameL c).length = 3 by decide +kernel) c hc
theorem text_any (a : Option Addr) (n cap : Nat) (g : Nat → Nat) (pc p : Nat) (w : World) (hR : Row w a n g) (hnc : n ≤ cap) (hn47 : n ≤ 140737488355328) (hpc : pc < 65536) (hp : p < 256) :
    Calls Tryd.prog 23 #[.slice a n cap, .int .u16 pc, .int .u8 p] w fun e w' => e = .returned (txtV (txOk n g p) (textL (g 0) (operN (g 0) p) (fun i => g (i + 1)) pc) (1 + operN (g 0) p)) ∧ Below w.heap.size w w' := by
  by_cases h0 : n = 0
  · subst h0
    have : txOk 0 g p = false := by unfold txOk; simp
    rw [this]
    unfold txtV
    clear hR
    go_enter Tryd.func23, Tryd.ntmps23
    go_wp2_with fail
    go_ret3
    exact ⟨rfl, Below.refl _ _⟩
  have hR0 := hR
  obtain ⟨hb, h | ⟨b, o, rfl, hbl, hcl⟩⟩ := hR
  · exact absurd h h0
  have hx := hb 0 (by omega)
  have c0 := hcl 0 (by omega)
  rw [Nat.add_zero] at c0
  have HS := size_any (g 0) p w hx hp
  rw [show 1 + opF (modeF (g 0)) (widthF (nameF (g 0)).toList) p = 1 + operN (g 0) p by unfold operN; rfl] at HS
  have hk := operN_le (g 0) p
  have h23 : modeF (g 0) = 23 → operN (g 0) p = 2 := fun h => by unfold operN; rw [h]; exact opF_23 _ _
  have h3 : modeF (g 0) = 3 → operN (g 0) p = 1 := fun h => by unfold operN; rw [h]; exact opF_3 _ _
  have h4 : modeF (g 0) = 4 → operN (g 0) p = 2 := fun h => by unfold operN; rw [h]; exact opF_4 _ _
  have hok : txOk n g p = decide (1 + operN (g 0) p ≤ n) := by unfold txOk; simp [h0]
  rw [hok]
  have HO := fun (W : World) (hn : 1 + operN (g 0) p ≤ n) (hB : Below w.heap.size w W) => operandText_any (formL (modeF (g 0))) (some ⟨b, o, none⟩) (operN (g 0) p) cap g pc W (formL_ascii _) (formL_len _ (modeF_lt _ hx)) ((show Row w (some ⟨b, o, none⟩) (operN (g 0) p + 1) g from ⟨fun i hi => hb i (by omega), .inr ⟨b, o, rfl, hbl, fun i hi => hcl i (by omega)⟩⟩).below hB) hk (by omega) hpc
    (fun h => by rw [h23 (formL_49 _ (modeF_lt _ hx) h)]; decide) (fun h => by rw [h23 (formL_50 _ (modeF_lt _ hx) h)]; decide) (fun h => by rcases formL_116 _ (modeF_lt _ hx) h with h | h; rw [h3 h]; decide; rw [h4 h]; decide)
  have HN := nameOf_any (g 0) w hx
  have HM := modeOf_any (g 0) w hx
  have HF := formOf_any (modeF (g 0)) w (modeF_lt _ hx)
  rw [formB_list _ (modeF_lt _ hx)] at HF
  rw [nameF_L] at HN
  clear h23 h3 h4 hcl hb hR0
  by_cases hle : 1 + operN (g 0) p ≤ n
  · rw [decide_eq_true hle]
    have hO := HO
    have hm0 : modeF (g 0) < 26 := modeF_lt _ hx
    have hn3 := nameL_len (g 0) hx
    have hol : (opL (modeF (g 0)) (operN (g 0) p) (fun i => g (i + 1)) pc).length ≤ 49 := by
      unfold opL
      have h1 := piecesL_len (operN (g 0) p) (fun i => g (i + 1)) (tgN (modeF (g 0)) (operN (g 0) p) (fun i => g (i + 1)) pc) (formL (modeF (g 0))) hk
      have h2 := formL_len _ hm0
      omega
    have hO := fun (W : World) (hB : Below w.heap.size w W) => HO W hle hB
    rw [show piecesL (operN (g 0) p) (fun i => g (i + 1)) (tgN (modeF (g 0)) (operN (g 0) p) (fun i => g (i + 1)) pc) (formL (modeF (g 0))) = opL (modeF (g 0)) (operN (g 0) p) (fun i => g (i + 1)) pc by unfold opL; rfl] at hO
    have htx : textL (g 0) (operN (g 0) p) (fun i => g (i + 1)) pc = nameL (g 0) ++ (if modeF (g 0) = 0 then [] else 32 :: opL (modeF (g 0)) (operN (g 0) p) (fun i => g (i + 1)) pc) := by unfold textL; rfl
    have hne := formL_ne _ hm0
    have hfz : modeF (g 0) = 0 → formL (modeF (g 0)) = [] := fun h => by rw [h]; unfold formL; rfl
    rw [htx]
    clear HO htx
    generalize opL (modeF (g 0)) (operN (g 0) p) (fun i => g (i + 1)) pc = ol at *
    generalize operN (g 0) p = k at *
    generalize nameL (g 0) = nl at *
    generalize modeF (g 0) = m at *
    generalize g 0 = x at *
    clear hm0 hok
    by_cases hm : m = 0
    · rw [if_pos hm, List.append_nil]
      have hfz := hfz hm
      clear hm hne
      rw [hfz] at HF
      unfold txtV
      replace HS := Lib.hid HS
      replace HN := Lib.hid HN
      replace HM := Lib.hid HM
      replace HF := Lib.hid HF
      clear hO
      go_enter Tryd.func23, Tryd.ntmps23
      go_wp2_with fail
      with_reducible refine HS.out.mono ?_
      rintro e w' ⟨rfl, rfl⟩
      go_wp2_with fail
      with_reducible refine HN.out.mono ?_
      rintro e w' ⟨rfl, rfl⟩
      go_wp2_with fail
      with_reducible refine HM.out.mono ?_
      rintro e w' ⟨rfl, rfl⟩
      go_wp2_with fail
      with_reducible refine HF.out.mono ?_
      rintro e w' ⟨rfl, rfl⟩
      generalize hE : bytesN [] = E at *
      have hE0 : E.toList.isEmpty = true := by rw [← hE, bytesN_list]; rfl
      replace hE := Lib.hid hE
      go_wp2_with fail
      go_ret3
      exact ⟨rfl, Below.refl _ _⟩
    · rw [if_neg hm]
      have hne := hne hm
      unfold txtV
      have hfe : (bytesN (formL m)).toList.isEmpty = false := by rw [bytesN_list]; exact hne
      generalize bytesN (formL m) = F at *
      replace HS := Lib.hid HS
      replace HN := Lib.hid HN
      replace HM := Lib.hid HM
      replace HF := Lib.hid HF
      rw [Nat.add_comm k 1] at hO
      replace hO := Lib.hid hO
      clear hne hfz
      go_enter Tryd.func23, Tryd.ntmps23
      go_wp2_with fail
      with_reducible refine HS.out.mono ?_
      rintro e w' ⟨rfl, rfl⟩
      go_wp2_with fail
      with_reducible refine HN.out.mono ?_
      rintro e w' ⟨rfl, rfl⟩
      go_wp2_with fail
      with_reducible refine HM.out.mono ?_
      rintro e w' ⟨rfl, rfl⟩
      go_wp2_with fail
      with_reducible refine HF.out.mono ?_
      rintro e w' ⟨rfl, rfl⟩
      have hss : (bytesN ol).size = ol.length := bytesN_size ol
      have hs1 : (bytesN [32]).size = 1 := bytesN_size [32]
      have hs3 : (bytesN nl).size = 3 := by rw [bytesN_size]; exact hn3
      go_wp2_with fail
      with_reducible refine (hO.out _ (Below.refl _ _)).mono ?_
      rintro e w' ⟨rfl, hB⟩
      have e1 : bytesN (nl ++ 32 :: ol) = bytesN nl ++ (⟨#[32]⟩ ++ bytesN ol) := by
        rw [bytesN_append, show (32 :: ol : List Nat) = [32] ++ ol from rfl, bytesN_append]
        congr 2
        unfold bytesN; rfl
      replace e1 := Lib.hid e1
      have hlim : (9223372036854775807 < 1 + (bytesN ol).size) = False := by rw [eq_iff_iff, iff_false]; omega
      have hss2 : ((⟨#[32]⟩ : ByteArray) ++ bytesN ol).size = 1 + (bytesN ol).size := by rw [ByteArray.size_append]; rfl
      have hlim2 : (9223372036854775807 < (bytesN nl).size + ((⟨#[32]⟩ : ByteArray) ++ bytesN ol).size) = False := by rw [eq_iff_iff, iff_false]; omega
      have hlim3 : (9223372036854775807 < (bytesN nl).size + (1 + (bytesN ol).size)) = False := by rw [eq_iff_iff, iff_false]; omega
      clear HS HN HM HF hO hss hs1 hs3 hss2
      go_wp2_with fail
      all_goals
        go_ret3
        exact ⟨by rw [e1.out]; rfl, hB⟩
  · rw [decide_eq_false hle]
    unfold txtV
    generalize operN (g 0) p = k at *
    generalize g 0 = x at *
    replace HS := Lib.hid HS
    clear HO HN HM HF hok
    go_enter Tryd.func23, Tryd.ntmps23
    go_wp2_with fail
    with_reducible refine HS.out.mono ?_
    rintro e w' ⟨rfl, rfl⟩
    go_wp2_with fail
    go_ret3
    exact ⟨rfl, Below.refl _ _⟩
end Go.Proofs.YtmbpkpideepghaaDoor
