/-
  Bytes, by the code.
-/
import Derived.Test.YtmbpkpideepghaaDoorWth
import Derived.Test.YtmbpkpideepghaaDoorNmd
namespace Go.Proofs.YtmbpkpideepghaaDoor
open Go.RowKit
set_option maxRecDepth 100000
set_option maxHeartbeats 2000000
set_option linter.unusedVariables false

/-- The text of a code's bytes with a number. -/
def tryL (c n pc p : Nat) : List Nat := textL c (operN c p) (fun i => (withL c (operN c p) n pc (operN c p)).getD (i + 1) 0) pc
def hitB (c n pc p : Nat) (s : ByteArray) : Bool := (bytesN (tryL c n pc p)).toList == s.toList
def farB (c n : Nat) (op : ByteArray) : Bool := modeF c == 3 && op.toList == (bytesN (dolL n 4 4)).toList
/-- What Bytes comes to, over some codes. -/
def goR (s op : ByteArray) (n pc p : Nat) : List Nat → List Nat × Nat
  | [] => ([], 61)
  | c :: r => if hitB c n pc p s = true then (withL c (operN c p) n pc (operN c p), 0) else if farB c n op = true then ([], 62) else goR s op n pc p r
def namesOf (s : ByteArray) : List Nat := namedOf (cutA s) (List.range 256)
def bytesR (s : ByteArray) (pc p : Nat) : List Nat × Nat := if namesOf s = [] then ([], 60) else goR s (cutB s) (digF (cutB s)) pc p (namesOf s)
theorem namesOf_lt (s : ByteArray) : ∀ c ∈ namesOf s, c < 256 := by
  intro c hc
  unfold namesOf namedOf at hc
  exact List.mem_range.1 (List.mem_filter.1 hc).1
theorem namesOf_len (s : ByteArray) : (namesOf s).length ≤ 256 := by
  have := namedOf_len (cutA s) (List.range 256)
  rw [List.length_range] at this
  exact this
theorem cutB_size (s : ByteArray) : (cutB s).size ≤ s.size := by
  unfold cutB
  split
  · rw [ByteArray.size_extract]; omega
  · exact Nat.zero_le _
theorem digFrom_lt (s : ByteArray) : ∀ fuel pos n, n < 4294967296 → digFrom s fuel pos n < 4294967296
  | 0, _, _, h => h
  | fuel + 1, pos, n, h => by
    rw [digFrom]
    split
    · exact digFrom_lt s fuel _ _ (stepD_lt _ _ h)
    · exact h
theorem digF_lt (s : ByteArray) : digF s < 4294967296 := digFrom_lt s _ _ _ (by decide)
attribute [local irreducible] bytesN modeF nameF widthF operN withL textL dolL namesOf digF cutA cutB goR
theorem try_row (c n pc p : Nat) (w : World) (a : Option Addr) (cap : Nat) (hc : c < 256) (hpc : pc < 65536) (hp : p < 256)
    (hR : Row w a (1 + operN c p) (fun i => (withL c (operN c p) n pc (operN c p)).getD i 0)) (hcap : 1 + operN c p ≤ cap) :
    Calls Tryd.prog 23 #[.slice a (1 + operN c p) cap, .int .u16 pc, .int .u8 p] w fun e w' => e = .returned (.tuple #[.string (bytesN (tryL c n pc p)), .int .i64 ((1 + operN c p : Nat) : Int), .bool true]) ∧ Below w.heap.size w w' := by
  have hk := operN_le c p
  have h0 : (fun i => (withL c (operN c p) n pc (operN c p)).getD i 0) 0 = c := by
    show (withL c (operN c p) n pc (operN c p)).getD 0 0 = c
    have : ∀ i, (withL c (operN c p) n pc i).getD 0 0 = c := by
      intro i
      induction i with
      | zero => unfold withL; rfl
      | succ i ih =>
        unfold withL
        have := withL_len c (operN c p) n pc i
        rw [List.getD_eq_getElem?_getD, List.getElem?_append_left (by omega), ← List.getD_eq_getElem?_getD]
        exact ih
    exact this _
  have HT := text_any a (1 + operN c p) cap (fun i => (withL c (operN c p) n pc (operN c p)).getD i 0) pc p w hR hcap (by omega) hpc hp
  have h0' : (withL c (operN c p) n pc (operN c p)).getD 0 0 = c := h0
  have hok : txOk (1 + operN c p) (fun i => (withL c (operN c p) n pc (operN c p)).getD i 0) p = true := by
    unfold txOk
    rw [h0]
    exact decide_eq_true ⟨by omega, by omega⟩
  rw [hok, h0'] at HT
  exact HT
theorem try_any (c n pc p : Nat) (w : World) (B : Nat) (v : Value) (hc : c < 256) (hpc : pc < 65536) (hp : p < 256)
    (h : w.ownsRow B 5 1 v (1 + operN c p) ((withL c (operN c p) n pc (operN c p)).map fun x => Value.int .u8 (x : Nat))) :
    Calls Tryd.prog 23 #[v, .int .u16 pc, .int .u8 p] w fun e w' => e = .returned (.tuple #[.string (bytesN (tryL c n pc p)), .int .i64 ((1 + operN c p : Nat) : Int), .bool true]) ∧ Below w.heap.size w w' := by
  have hl := withL_len c (operN c p) n pc (operN c p)
  have hl2 : (withL c (operN c p) n pc (operN c p)).length = 1 + operN c p := by omega
  obtain ⟨a, cap, rfl, hR, hcap⟩ := own_row h hl2.symm (withL_lt c _ n pc _ hc)
  rw [hl2] at hR hcap ⊢
  exact try_row c n pc p w a cap hc hpc hp hR hcap
theorem own_mono {W : World} {B B' : Nat} {e : TypeId} {s n : Nat} {v : Value} {xs : List Value} (h : W.ownsRow B e s v n xs) (hb : B' ≤ B) : W.ownsRow B' e s v n xs :=
  ⟨h.1, h.2.imp id fun ⟨g, cap, cur, e1, hg, r⟩ => ⟨g, cap, cur, e1, Nat.le_trans hb hg, r⟩⟩
theorem goR_nil (s op : ByteArray) (n pc p : Nat) : goR s op n pc p [] = ([], 61) := by unfold goR; rfl
theorem goR_cons (s op : ByteArray) (n pc p c : Nat) (r : List Nat) : goR s op n pc p (c :: r) = if hitB c n pc p s = true then (withL c (operN c p) n pc (operN c p), 0) else if farB c n op = true then ([], 62) else goR s op n pc p r := by
  conv => lhs; unfold goR
theorem bytes_any (s : ByteArray) (pc p : Nat) (w : World) (hs : s.size ≤ 140737488355328) (hpc : pc < 65536) (hp : p < 256) :
    Calls Tryd.prog 25 #[.string s, .int .u16 pc, .int .u8 p] w fun e w' => ∃ v, e = .returned (.tuple #[v, .int .i64 ((bytesR s pc p).2 : Nat)]) ∧ w'.ownsRow w.heap.size 5 1 v (bytesR s pc p).1.length ((bytesR s pc p).1.map fun x => Value.int .u8 (x : Nat)) ∧ Below w.heap.size w w' := by
  have HC := cut_any s w hs
  have HN := fun W => named_any (cutA s) W
  rw [show namedOf (cutA s) (List.range 256) = namesOf s by unfold namesOf; rfl] at HN
  have HD := fun W => digitsOf_any (cutB s) W (Nat.le_trans (cutB_size s) hs)
  have hL := namesOf_lt s
  have hLlen := namesOf_len s
  have hn := digF_lt (cutB s)
  have HW := fun c (hc : c < 256) W => bytesWith_any c (digF (cutB s)) pc p W hc hn hpc hp
  have HT := fun c (hc : c < 256) W B v => try_any c (digF (cutB s)) pc p W B v hc hpc hp
  have HM := fun c (hc : c < 256) W => modeOf_any c W hc
  have HDo := fun W => dollar_any (digF (cutB s)) 2 W hn (by decide)
  simp only [show ((2 : Nat) : Int) = 2 from rfl, show (⟨((dolL (digF (cutB s)) (2 * 2) (2 * 2)).map UInt8.ofNat).toArray⟩ : ByteArray) = bytesN (dolL (digF (cutB s)) 4 4) by unfold bytesN; rfl] at HDo
  have hg := goR_cons s (cutB s) (digF (cutB s)) pc p
  have hg0 := goR_nil s (cutB s) (digF (cutB s)) pc p
  obtain ⟨R, hR⟩ : ∃ R, bytesR s pc p = R := ⟨_, rfl⟩
  rw [hR]
  unfold bytesR at hR
  generalize digF (cutB s) = n at *
  generalize cutB s = op at *
  generalize cutA s = nm at *
  generalize namesOf s = L at *
  replace HC := Lib.hid HC
  replace HN := Lib.hid HN
  replace HD := Lib.hid HD
  replace HW := Lib.hid HW
  replace HT := Lib.hid HT
  replace HM := Lib.hid HM
  replace HDo := Lib.hid HDo
  replace hL := Lib.hid hL
  replace hg := Lib.hid hg
  replace hg0 := Lib.hid hg0
  by_cases hLe : L = []
  · rw [if_pos hLe] at hR
    subst hR
    subst hLe
    go_enter Tryd.func25, Tryd.ntmps25
    go_wp2_with fail
    refine HC.out.mono ?_
    rintro e W1 ⟨⟨b, rfl⟩, hb1⟩
    go_wp2_with fail
    refine (HN.out _).mono ?_
    rintro e W2 ⟨v, rfl, ho2, hb2⟩
    obtain ⟨a0, cp, rfl⟩ : ∃ a0 cp, v = .slice a0 0 cp := by
      rcases ho2.2 with ⟨rfl, h0⟩ | ⟨g, cap, cur, e, _⟩
      · exact ⟨none, 0, rfl⟩
      · exact ⟨_, _, e⟩
    have hbw := hb1.trans (hb2.mono hb1.size)
    clear HC HN HD HW HT HM HDo ho2 hb1 hb2
    go_wp2_with fail
    go_ret2
    exact ⟨_, rfl, World.ownsRow_nil _ _ _ _, hbw⟩
  · rw [if_neg hLe] at hR
    have hlen : 0 < L.length := List.length_pos_iff.2 hLe
    have hdrop0 : goR s op n pc p (L.drop 0) = R := by rw [List.drop_zero]; exact hR
    clear hLe hR
    go_enter Tryd.func25, Tryd.ntmps25
    go_wp2_with fail
    refine HC.out.mono ?_
    rintro e W1 ⟨⟨b, rfl⟩, hb1⟩
    go_wp2_with fail
    refine (HN.out _).mono ?_
    rintro e W2 ⟨v, rfl, ho2, hb2⟩
    obtain ⟨g, cap, rfl⟩ : ∃ g cap, v = .slice (some ⟨g, 0, none⟩) L.length cap := by
      rcases ho2.2 with ⟨_, h0⟩ | ⟨g, cap, cur, e, _⟩
      · omega
      · exact ⟨_, _, e⟩
    have hcells := ho2.cells (g := g) rfl
    have hgl := (ho2.lt g rfl).2
    have hbw := hb1.trans (hb2.mono hb1.size)
    have hcl : ∀ i (h : i < L.length), W2.cell? ⟨g, i, none⟩ = some (.int .u8 (L[i] : Nat)) := fun i h => by
      have := hcells i (.int .u8 (L[i] : Nat)) (by simp [bytesV, h])
      rwa [Addr.add_lit, Nat.zero_add] at this
    have l0 : ((L.length : Int) == 0) = false := by rw [beq_eq_false_iff_ne]; omega
    clear HC HN ho2 hb1 hb2 hcells
    go_wp2_with fail
    refine (HD.out _).mono ?_
    rintro e W3 ⟨rfl, hb3⟩
    have hcl3 : ∀ i (h : i < L.length), W3.cell? ⟨g, i, none⟩ = some (.int .u8 (L[i] : Nat)) := fun i h => (hb3.cell (p := ⟨g, i, none⟩) hgl).trans (hcl i h)
    replace hbw := hbw.trans (hb3.mono hbw.size)
    have hgl3 : g < W3.heap.size := Nat.lt_of_lt_of_le hgl hb3.size
    clear hcl hb3 HD hgl
    replace hcl3 := Lib.hid hcl3
    replace hdrop0 := Lib.hid hdrop0
    go_wp2_with fail
    go_loopw [34] (fun s34 wr => ∃ i : Nat, i ≤ L.length ∧ s34 = .int .i64 i ∧ goR s op n pc p (L.drop i) = R ∧ Below W3.heap.size W3 wr) (fun s34 _ => L.length - (intOf s34).toNat)
    case atStart => exact ⟨0, Nat.zero_le _, rfl, hdrop0.out, Below.refl _ _⟩
    case round =>
      obtain ⟨i, hi, rfl, hRi, hB⟩ := hrel
      by_cases hlt : i < L.length
      · have hci := (hB.cell (p := ⟨g, i, none⟩) hgl3).trans (hcl3.out i hlt)
        have hc := hL.out L[i] (List.getElem_mem hlt)
        rw [List.drop_eq_getElem_cons hlt, hg.out] at hRi
        have hWc := Lib.hid (HW.out L[i] hc)
        have hTc := Lib.hid (HT.out L[i] hc)
        have hMc := Lib.hid (HM.out L[i] hc)
        generalize L[i] = c at *
        generalize hR1 : goR s op n pc p (L.drop (i + 1)) = R1 at *
        replace hR1 := Lib.hid hR1
        have hwl := withL_len c (operN c p) n pc (operN c p)
        unfold hitB farB at hRi
        generalize bytesN (tryL c n pc p) = TX at *
        have hkl := operN_le c p
        generalize hWL : withL c (operN c p) n pc (operN c p) = WL at *
        generalize operN c p = k at *
        generalize modeF c = m at *
        have im : ((m : Int) == 3) = (m == 3) := by
          by_cases h : m = 3
          · subst h; rfl
          · rw [beq_eq_false_iff_ne.2 h, beq_eq_false_iff_ne]; omega
        generalize bytesN (dolL n 4 4) = DT at *
        generalize (m == 3) = b3 at *
        clear HW HT HM hWL
        go_wp2_with fail
        refine (hWc.out _).mono ?_
        rintro e W4 ⟨v, rfl, ho4, hb4⟩
        obtain ⟨g', cap', rfl⟩ : ∃ g' cap', v = .slice (some ⟨g', 0, none⟩) (1 + k) cap' := by
          rcases ho4.2 with ⟨_, h0⟩ | ⟨g', cap', cur, e, _⟩
          · omega
          · exact ⟨_, _, e⟩
        have ho4b : W4.ownsRow w.heap.size 5 1 (.slice (some ⟨g', 0, none⟩) (1 + k) cap') (1 + k) (WL.map fun x => Value.int .u8 (x : Nat)) := by
          exact own_mono ho4 (by have := hbw.size; have := hB.size; omega)
        have hB4 := hB.trans (hb4.mono hB.size)
        have hTd := Lib.hid (hTc.out _ _ _ ho4)
        clear hb4 hB ho4 hWc hTc
        go_wp2_with fail
        refine hTd.out.mono ?_
        rintro e W5 ⟨rfl, hb5⟩
        have ho5 := ho4b.kept (row := none) ⟨hb5.os, hb5.tape, hb5.output, hb5.size, fun k hk _ => hb5.block k hk⟩ (.inr (by simp [Value.ownBlock]))
        have hB5 := hB4.trans (hb5.mono hB4.size)
        clear hb5 hB4 ho4b hTd
        cases hh : TX.toList == s.toList with
        | true =>
          rw [hh, if_pos rfl] at hRi
          subst hRi
          have hfin := Lib.hid (And.intro ho5 (hbw.trans (hB5.mono hbw.size)))
          clear ho5 hB5 hMc HDo
          go_wp2_with fail
          go_ret2
          exact ⟨_, rfl, by rw [Nat.add_comm k 1]; exact hfin.out.1, hfin.out.2⟩
        | false =>
          rw [hh, if_neg (by decide)] at hRi
          clear ho5
          go_wp2_with fail
          refine (hMc.out _).mono ?_
          rintro e W6 ⟨rfl, rfl⟩
          cases b3 with
          | false =>
            rw [Bool.false_and, if_neg (by decide)] at hRi
            clear HDo hMc
            go_wp2_with fail
            go_roundw
            case rel => exact ⟨i + 1, hlt, by go_num, by rw [hR1.out]; exact hRi, hB5⟩
            case measure => simp [intOf]; omega
          | true =>
            rw [Bool.true_and] at hRi
            go_wp2_with fail
            refine (HDo.out _).mono ?_
            rintro e W7 ⟨rfl, hb7⟩
            have hB7 := hB5.trans (hb7.mono hB5.size)
            clear hB5 hb7 hMc HDo
            cases hf : op.toList == DT.toList with
            | true =>
              rw [hf, if_pos rfl] at hRi
              subst hRi
              have hBf := hbw.trans (hB7.mono hbw.size)
              go_wp2_with fail
              go_ret2
              exact ⟨_, rfl, World.ownsRow_nil _ _ _ _, hBf⟩
            | false =>
              rw [hf, if_neg (by decide)] at hRi
              go_wp2_with fail
              go_roundw
              case rel => exact ⟨i + 1, hlt, by go_num, by rw [hR1.out]; exact hRi, hB7⟩
              case measure => simp [intOf]; omega
      · obtain rfl : i = L.length := by omega
        rw [List.drop_length, hg0.out] at hRi
        subst hRi
        have hBf := hbw.trans (hB.mono hbw.size)
        clear HW HT HM HDo hB
        go_wp2_with fail
        go_ret2
        exact ⟨_, rfl, World.ownsRow_nil _ _ _ _, hBf⟩
end Go.Proofs.YtmbpkpideepghaaDoor
