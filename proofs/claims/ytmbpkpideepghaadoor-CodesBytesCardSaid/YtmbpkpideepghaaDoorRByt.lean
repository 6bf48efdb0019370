/-
  Bytes, by the document.
-/
import Derived.Test.YtmbpkpideepghaaDoorRFar
import Derived.Test.YtmbpkpideepghaaDoorRTxt
import Derived.Test.YtmbpkpideepghaaDoorRNmd
import Derived.Deep.RegionHeld3
import Derived.IntWalk
namespace Go.Proofs.YtmbpkpideepghaaDoor
open Go.RowKit
set_option maxRecDepth 100000
set_option maxHeartbeats 2000000
set_option linter.unusedVariables false

/-- The bytes that are tried, as a row. -/
def tryF (c : Nat) (X : Int) : Nat → Nat := fun i => if i = 0 then c else byX X (i - 1)
theorem tryF_list (c k : Nat) (X : Int) (i : Nat) (hi : i < k + 1) : tryF c X i = (c :: listF (byX X) k).getD i 0 := by
  unfold tryF
  cases i with
  | zero => rfl
  | succ i =>
    rw [if_neg (by omega), Nat.add_sub_cancel, List.getD_cons_succ]
    exact (listF_get _ k i (by omega)).symm
theorem rtext_row (c pc p : Nat) (X : Int) (W : World) (G : Nat) (hc : c < 256) (hpc : pc < 65536) (hp : p < 256) (h : Holds W G (operN c p + 1) (tryF c X)) :
    Calls Tryd.prog 21 #[.slice (some ⟨G, 0, none⟩) (operN c p + 1 : Nat) (operN c p + 1 : Nat), .int .u16 pc, .int .u8 p] W fun e w' => e = .returned (.tuple #[.string (bytesN (textL c (operN c p) (byX X) pc)), .int .i64 ((1 + operN c p : Nat) : Int), .bool true]) ∧ Below W.heap.size W w' := by
  have hk := operN_le c p
  have HT := rtext_any (some ⟨G, 0, none⟩) (operN c p + 1) (operN c p + 1) (tryF c X) pc p W h.row (by omega) hpc hp
  have h0 : tryF c X 0 = c := by unfold tryF; rw [if_pos rfl]
  have h1 : (fun i => tryF c X (i + 1)) = byX X := by
    funext i
    unfold tryF
    rw [if_neg (by omega), Nat.add_sub_cancel]
  have hok : txOk (operN c p + 1) (tryF c X) p = true := by
    unfold txOk
    rw [h0]
    exact decide_eq_true ⟨by omega, by omega⟩
  rw [hok, h0, h1] at HT
  exact HT
theorem listF_length (g : Nat → Nat) : ∀ k, (listF g k).length = k
  | 0 => rfl
  | k + 1 => by simp [listF, listF_length g k]
theorem hit_no (c n pc p : Nat) (X : Int) (s : ByteArray) (hc : c < 256) (hpc : pc < 65536) (hX : SmallB s → X = (adjN (modeF c) (operN c p) pc (numB s) : Nat)) (hne : ((bytesN (textL c (operN c p) (byX X) pc)).toList == s.toList) = false) : hitB c n pc p s = false := by
  refine Bool.eq_false_iff.2 fun hh => ?_
  have he : bytesN (tryL c n pc p) = s := toList_inj (by simpa [hitB] using hh)
  unfold tryL at he
  have hf : ∀ i, i < operN c p → (withL c (operN c p) n pc (operN c p)).getD (i + 1) 0 < 256 := fun i hi => by
    have hl := withL_len c (operN c p) n pc (operN c p)
    rw [List.getD_eq_getElem?_getD, List.getElem?_eq_getElem (by omega)]
    exact withL_lt c _ n pc _ hc _ (List.getElem_mem _)
  have hb := text_try c pc p _ X s hc hpc hf he.symm hX
  have h23 : modeF c = 23 → operN c p = 2 := fun h => by unfold operN; rw [h]; exact opF_23 _ _
  have h3 : modeF c = 3 → operN c p = 1 := fun h => by unfold operN; rw [h]; exact opF_3 _ _
  rw [textL_congr c (operN c p) (byX X) _ pc hc h3 h23 hb, he] at hne
  simp at hne
theorem hit_yes (c pc p : Nat) (X : Int) (s : ByteArray) (hc : c < 256) (hpc : pc < 65536) (he : ((bytesN (textL c (operN c p) (byX X) pc)).toList == s.toList) = true) : bytesR s pc p = (c :: listF (byX X) (operN c p), 0) := by
  have : bytesN (textL c (operN c p) (byX X) pc) = s := toList_inj (by simpa using he)
  rw [← this]
  exact text_back c pc p (byX X) hc hpc (fun i _ => byX_lt X i)
theorem docT_nil (s : ByteArray) (n pc p : Nat) (t : Bool) (e : Nat) : docT s n pc p t e [] = ([], e) := by rw [docT]
theorem docT_cons (s : ByteArray) (n pc p c : Nat) (t : Bool) (e : Nat) (r : List Nat) (h : hitB c n pc p s = false) : docT s n pc p t e (c :: r) = docT s n pc p t (if (modeF c == 3 && t) = true then 62 else e) r := by
  rw [docT, h, if_neg (by decide)]
attribute [local irreducible] bytesN modeF nameF widthF useF operN withL textL dolL namesOf digF cutA cutB goR docT bytesR byX tryF listF targetF
theorem rbytes_any (s : ByteArray) (pc p : Nat) (w : World) (hs : s.size ≤ 140737488355328) (hpc : pc < 65536) (hp : p < 256) :
    Calls Tryd.prog 24 #[.string s, .int .u16 pc, .int .u8 p] w fun e w' => ∃ a c, e = .returned (.tuple #[.slice a (bytesR s pc p).1.length c, .int .i64 ((bytesR s pc p).2 : Nat)]) ∧ Row w' a (bytesR s pc p).1.length (fun i => (bytesR s pc p).1.getD i 0) ∧ Below w.heap.size w w' := by
  have HP := rpart0_any s w hs
  have HN := fun W => rnamed_any (cutA s) W
  rw [show namedOf (cutA s) (List.range 256) = namesOf s by unfold namesOf; rfl] at HN
  have hL := namesOf_lt s
  have hLlen := namesOf_len s
  have HO := fun c (hc : c < 256) W => rof_same c W hc
  have HQ := fun c (hc : c < 256) W => roperand_any c (nameF c) (modeF c) (useF (nameF c).toList (modeF c)) (widthF (nameF c).toList) p W (modeF_lt c hc) hp
  simp only [show ∀ c, opF (modeF c) (widthF (nameF c).toList) p = operN c p from fun c => by unfold operN; rfl] at HQ
  have HY := fun c (hc : c < 256) W => rtry_any c (modeF c) (useF (nameF c).toList (modeF c)) (widthF (nameF c).toList) (operN c p) pc (nameF c) s W hs hc (operN_le c p) hpc
  simp only [show ∀ (c : Nat) (X : Int), (fun i => if i = 0 then c else byX X (i - 1)) = tryF c X from fun c X => by unfold tryF; rfl] at HY
  have HT := fun c (hc : c < 256) X W G h => rtext_row c pc p X W G hc hpc hp h
  have HG := fun W => rtarget_any s W hs
  have hyes := fun c (hc : c < 256) X => hit_yes c pc p X s hc hpc
  have hno := fun c (hc : c < 256) X => hit_no c (digF (cutB s)) pc p X s hc hpc
  have hds := docT_same s pc p
  have hdc := docT_cons s (digF (cutB s)) pc p
  have hdn := docT_nil s (digF (cutB s)) pc p
  obtain ⟨R, hR⟩ : ∃ R, bytesR s pc p = R := ⟨_, rfl⟩
  rw [hR]
  simp only [hR] at hyes
  unfold bytesR at hR
  rw [← hds] at hR
  clear hds
  generalize targetF s = t at *
  generalize digF (cutB s) = n at *
  generalize cutA s = nm at *
  generalize namesOf s = L at *
  unfold codeV at *
  replace HP := Lib.hid HP
  replace HN := Lib.hid HN
  replace HO := Lib.hid HO
  replace HQ := Lib.hid HQ
  replace HY := Lib.hid HY
  replace HT := Lib.hid HT
  replace HG := Lib.hid HG
  replace hyes := Lib.hid hyes
  replace hno := Lib.hid hno
  replace hdc := Lib.hid hdc
  replace hdn := Lib.hid hdn
  replace hL := Lib.hid hL
  by_cases hLe : L = []
  · rw [if_pos hLe] at hR
    subst hR
    subst hLe
    go_enter Tryd.func24, Tryd.ntmps24
    go_wp2_with fail
    refine HP.out.mono ?_
    rintro e W1 ⟨rfl, rfl⟩
    go_wp2_with fail
    refine (HN.out _).mono ?_
    rintro e W2 ⟨v, rfl, ho2, hb2⟩
    obtain ⟨a0, cp, rfl⟩ : ∃ a0 cp, v = .slice a0 0 cp := by
      rcases ho2.2 with ⟨rfl, h0⟩ | ⟨g, cap, cur, e, _⟩
      · exact ⟨none, 0, rfl⟩
      · exact ⟨_, _, e⟩
    clear HP HN HO HQ HY HT HG ho2
    go_wp2_with fail
    go_ret2
    exact ⟨none, 0, rfl, Row.nil _ _ _, hb2⟩
  · rw [if_neg hLe] at hR
    have hlen : 0 < L.length := List.length_pos_iff.2 hLe
    have hdrop0 : docT s n pc p t 61 (L.drop 0) = R := by rw [List.drop_zero]; exact hR
    clear hLe hR
    go_enter Tryd.func24, Tryd.ntmps24
    go_wp2_with fail
    refine HP.out.mono ?_
    rintro e W1 ⟨rfl, rfl⟩
    go_wp2_with fail
    refine (HN.out _).mono ?_
    rintro e W2 ⟨v, rfl, ho2, hb2⟩
    obtain ⟨g, cap, rfl⟩ : ∃ g cap, v = .slice (some ⟨g, 0, none⟩) L.length cap := by
      rcases ho2.2 with ⟨_, h0⟩ | ⟨g, cap, cur, e, _⟩
      · omega
      · exact ⟨_, _, e⟩
    have hcells := ho2.cells (g := g) rfl
    have hgl := (ho2.lt g rfl).2
    have hcl : ∀ i (h : i < L.length), W2.cell? ⟨g, i, none⟩ = some (.int .u8 (L[i] : Nat)) := fun i h => by
      have := hcells i (.int .u8 (L[i] : Nat)) (by simp [bytesV, h])
      rwa [Addr.add_lit, Nat.zero_add] at this
    have l0 : ((L.length : Int) == 0) = false := by rw [beq_eq_false_iff_ne]; omega
    clear HP HN ho2 hcells
    replace hcl := Lib.hid hcl
    replace hdrop0 := Lib.hid hdrop0
    go_wp2_with fail
    go_loopw [9, 10] (fun s9 s10 wr => ∃ i E : Nat, i ≤ L.length ∧ s9 = .int .i64 E ∧ s10 = .int .i64 i ∧ docT s n pc p t E (L.drop i) = R ∧ Below W2.heap.size W2 wr) (fun _ s10 _ => L.length - (intOf s10).toNat)
    case atStart => exact ⟨0, 61, Nat.zero_le _, rfl, rfl, hdrop0.out, Below.refl _ _⟩
    case round =>
      obtain ⟨i, E, hi, rfl, rfl, hRi, hB⟩ := hrel
      clear hdrop0
      by_cases hlt : i < L.length
      · have hci := (hB.cell (p := ⟨g, i, none⟩) hgl).trans (hcl.out i hlt)
        have hc := hL.out L[i] (List.getElem_mem hlt)
        rw [List.drop_eq_getElem_cons hlt] at hRi
        have HOc := Lib.hid (HO.out L[i] hc)
        have HQc := Lib.hid (HQ.out L[i] hc)
        have HYc := Lib.hid (HY.out L[i] hc)
        have HTc := Lib.hid (HT.out L[i] hc)
        have hyc := Lib.hid (hyes.out L[i] hc)
        have hnc := Lib.hid (hno.out L[i] hc)
        have hdc1 := Lib.hid (hdc.out L[i])
        have hkl := operN_le L[i] p
        generalize L[i] = c at *
        generalize useF (nameF c).toList (modeF c) = u at *
        generalize widthF (nameF c).toList = wd at *
        generalize nameF c = nf at *
        clear HO HQ HY HT hyes hno hdc
        go_wp2_with fail
        refine (HOc.out _).mono ?_
        rintro e W3 ⟨rfl, hb3⟩
        have hB3 := hB.trans (hb3.mono hB.size)
        have hX := Whole.fresh W3 23 #[.int .u8 c, .string nf, .int .u8 (modeF c), .int .u8 u, .int .u8 wd]
        replace hB3 := hB3.alloc hB3.size (.cells #[.int .u8 c, .string nf, .int .u8 (modeF c), .int .u8 u, .int .u8 wd] 23)
        clear hb3 hB HOc
        go_upto_region 9 with (fail)
        generalize W3.alloc (.cells #[.int .u8 c, .string nf, .int .u8 (modeF c), .int .u8 u, .int .u8 wd] 23) = W4 at *
        generalize W3.heap.size = X0 at *
        have x0 := hX.cell 0
        have x1 := hX.cell 1
        have x2 := hX.cell 2
        have x3 := hX.cell 3
        have x4 := hX.cell 4
        simp only [List.getElem?_toArray, List.getElem?_cons_zero, List.getElem?_cons_succ] at x0 x1 x2 x3 x4
        generalize modeF c = m at *
        generalize operN c p = k at *
        have hXh := Lib.hid hX
        clear hX
        have hpw : IntKind.i64.wrap (pc : Int) = pc := IntWalk.i64_in _ (by omega)
        go_region_held3 (fun V => V.cell? ⟨X0, 0, none⟩ = some (.int .u8 c) ∧ V.cell? ⟨X0, 1, none⟩ = some (.string nf) ∧ V.cell? ⟨X0, 2, none⟩ = some (.int .u8 m) ∧ V.cell? ⟨X0, 3, none⟩ = some (.int .u8 u) ∧ V.cell? ⟨X0, 4, none⟩ = some (.int .u8 wd))
          (first | exact ⟨x0, x1, x2, x3, x4⟩ | exact ⟨hX7.cell 0, hX7.cell 1, hX7.cell 2, hX7.cell 3, hX7.cell 4⟩ | exact ⟨hX6.cell 0, hX6.cell 1, hX6.cell 2, hX6.cell 3, hX6.cell 4⟩ | go_keep)
          (first
            | (go_at_call 36; (with_reducible refine (HQc.out _).mono ?_); rintro e W6 ⟨rfl, hb6⟩; have hX6 := hXh.out.drew.below hb6 hXh.out.drew.lt)
            | (go_at_call 41; (with_reducible refine (HYc.out _).mono ?_); rintro e W7 ⟨G, X, rfl, hH, hXs, hb7⟩; have hX7 := hX6.below hb7 hX6.lt))
        have hHT := Lib.hid (HTc.out X W7 G hH)
        have hB7 := (hB3.drew.trans (hb6.mono hB3.size)).trans (hb7.mono (Nat.le_trans hB3.size hb6.size))
        have x2' := hX7.cell 2
        simp only [List.getElem?_toArray, List.getElem?_cons_zero, List.getElem?_cons_succ] at x2'
        have hX7l := hX7.lt
        have hH' := Lib.hid hH
        clear x0 x1 x2 x3 x4 hX6 hX7 hb6 hb7 hB3 hXh hH HTc HQc HYc
        rename_i hpw
        try clear hpw
        have hll := listF_length (byX X) k
        have hyX := Lib.hid (hyc.out X)
        have hnX := Lib.hid (hnc.out X hXs)
        clear hyc hnc hXs
        generalize bytesN (textL c k (byX X) pc) = TX at *
        have hgl7 : g < W7.heap.size := Nat.lt_of_lt_of_le hgl hB7.size
        go_wp2_with fail
        refine hHT.out.mono ?_
        rintro e W8 ⟨rfl, hb8⟩
        have hB8 := hB7.trans (hb8.mono hB7.size)
        have x2 := (hb8.cell (p := ⟨X0, 2, none⟩) hX7l).trans x2'
        cases hh : TX.toList == s.toList with
        | true =>
          have hRe := hyX.out hh
          subst hRe
          have hrow := (hH'.out.congr (fun i hi => tryF_list c k X i hi)).row.below hb8
          have hBf := hb2.trans (hB8.mono hb2.size)
          have hlen1 : (c :: listF (byX X) k).length = k + 1 := by rw [List.length_cons, hll]
          replace hrow := Lib.hid hrow
          replace hlen1 := Lib.hid hlen1
          clear hHT hH' hB7 hb8 hB8 HG hnX hyX hRi hll
          go_wp2_with fail
          go_ret2
          refine ⟨some ⟨G, 0, none⟩, ⟨k + 1, ?_⟩, ?_, hBf⟩
          · have hl2 := hlen1.out
            rw [List.length_cons] at hl2
            rw [hl2]; rfl
          · have hl2 := hlen1.out
            rw [List.length_cons] at hl2
            rw [hl2]
            have h := hrow.out
            simp only [List.getD_eq_getElem?_getD] at h
            exact h
        | false =>
          have hno := hnX.out hh
          have hRe := hdc1.out t E (L.drop (i + 1)) hno
          rw [hRe] at hRi
          clear hHT hH' hB7 hb8 hnX hyX hdc1 hno hRe
          have im : ((m : Int) == 3) = (m == 3) := by
            by_cases h : m = 3
            · subst h; rfl
            · rw [beq_eq_false_iff_ne.2 h, beq_eq_false_iff_ne]; omega
          generalize (m == 3) = b3 at *
          cases b3 with
          | false =>
            rw [Bool.false_and, if_neg (by decide)] at hRi
            go_wp2_with fail
            go_roundw
            case rel => exact ⟨i + 1, E, hlt, rfl, by go_num, hRi, hB8⟩
            case measure => simp [intOf]; omega
          | true =>
            rw [Bool.true_and] at hRi
            cases t with
            | false =>
              rw [if_neg (by decide)] at hRi
              go_wp2_with fail
              refine (HG.out _).mono ?_
              rintro e W9 ⟨rfl, rfl⟩
              go_wp2_with fail
              go_roundw
              case rel => exact ⟨i + 1, E, hlt, rfl, by go_num, hRi, hB8⟩
              case measure => simp [intOf]; omega
            | true =>
              rw [if_pos rfl] at hRi
              go_wp2_with fail
              refine (HG.out _).mono ?_
              rintro e W9 ⟨rfl, rfl⟩
              go_wp2_with fail
              go_roundw
              case rel => exact ⟨i + 1, 62, hlt, rfl, by go_num, hRi, hB8⟩
              case measure => simp [intOf]; omega
      · obtain rfl : i = L.length := by omega
        rw [List.drop_length, hdn.out] at hRi
        subst hRi
        have hBf := hb2.trans (hB.mono hb2.size)
        clear HO HQ HY HT HG hB
        go_wp2_with fail
        go_ret2
        exact ⟨none, ⟨0, rfl⟩, Row.nil _ _ _, hBf⟩
end Go.Proofs.YtmbpkpideepghaaDoor
