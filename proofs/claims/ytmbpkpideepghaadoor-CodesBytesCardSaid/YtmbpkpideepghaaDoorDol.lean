/-
  A number of so many bytes as a text.
-/
import Derived.Test.YtmbpkpideepghaaDoorNum
import Derived.Laws.OwnMore
import Derived.Laws.IdiomStrings
namespace Go.Proofs.YtmbpkpideepghaaDoor
open Go.RowKit
set_option maxRecDepth 100000
set_option maxHeartbeats 400000
set_option linter.unusedVariables false

def digitN (x : Nat) : Nat := if x < 10 then 48 + x else 87 + x
/-- The sign $ and the first j of d digits. -/
def dolL (n d : Nat) : Nat → List Nat
  | 0 => [36]
  | j + 1 => dolL n d j ++ [digitN (n / 16 ^ (d - 1 - j) % 16)]
theorem and_15 (a : Nat) (ha : a < 4294967296) : bits BinOp.and IntKind.u32 (a : Int) 15 = ((a % 16 : Nat) : Int) := by
  have e : (BitVec.ofInt 32 (a : Int) &&& BitVec.ofInt 32 (15 : Int)).toNat = a % 16 := by
    rw [BitVec.toNat_and, BitVec.toNat_ofInt, BitVec.toNat_ofInt]
    have a1 : ((a : Int) % ((2 ^ 32 : Nat) : Int)).toNat = a := by omega
    have a2 : ((15 : Int) % ((2 ^ 32 : Nat) : Int)).toNat = 15 := by decide
    rw [a1, a2]
    exact Nat.and_two_pow_sub_one_eq_mod a 4
  show IntKind.u32.wrap ((BitVec.ofInt 32 (a : Int) &&& BitVec.ofInt 32 (15 : Int)).toNat : Nat) = _
  rw [e]
  have : a % 16 < 16 := Nat.mod_lt _ (by decide)
  generalize a % 16 = z at *
  simp only [IntKind.wrap_u32]
  omega
theorem digit_of {S : ByteArray} (hl : S.data.toList.map UInt8.toNat = [48, 49, 50, 51, 52, 53, 54, 55, 56, 57, 97, 98, 99, 100, 101, 102]) (x : Nat) (hx : x < 16) (h : x < S.size) : S[x].toNat = digitN x := by
  rw [byte_of hl x h]
  exact (show ∀ x : Nat, x < 16 → [48, 49, 50, 51, 52, 53, 54, 55, 56, 57, 97, 98, 99, 100, 101, 102].getD x 0 = digitN x by decide +kernel) x hx
theorem digitN_lt (x : Nat) (hx : x < 16) : digitN x < 256 := by unfold digitN; split <;> omega
theorem dolL_len (n d j : Nat) : (dolL n d j).length = j + 1 := by
  induction j with
  | zero => rfl
  | succ j ih => rw [dolL, List.length_append, ih]; rfl
theorem dolL_lt (n d j : Nat) : ∀ x ∈ dolL n d j, x < 256 := by
  induction j with
  | zero => intro x hx; rw [dolL, List.mem_singleton] at hx; omega
  | succ j ih =>
    intro x hx
    rw [dolL, List.mem_append, List.mem_singleton] at hx
    rcases hx with hx | rfl
    · exact ih x hx
    · exact digitN_lt _ (Nat.mod_lt _ (by decide))
theorem bytes_text {w : World} {B m cap g : Nat} {l : List Nat} (hl : ∀ x ∈ l, x < 256) (hm : l.length = m) (h : w.ownsRow B 5 1 (.slice (some ⟨g, 0, none⟩) m cap) m (l.map fun x => Value.int .u8 (x : Nat))) :
    (convert 32 9 (.slice (some ⟨g, 0, none⟩) m cap)).run Tryd.prog w = .ok (.string ⟨(l.map UInt8.ofNat).toArray⟩) w := by
  subst hm
  have hc := run_convert_bytes_back (P := Tryd.prog) w 32 9 5 ⟨g, 0, none⟩ cap (l.map UInt8.ofNat) Tryd.underlying32 Tryd.underlying5 Tryd.underlying9 (fun j hj => by
    have hj' : j < l.length := by simpa using hj
    have h1 := h.cellAt j (by omega)
    rw [Addr.add_lit, Nat.zero_add, h1]
    have h2 : l[j] < 256 := hl _ (List.getElem_mem hj')
    simp [hj', Nat.mod_eq_of_lt h2])
  rwa [List.length_map] at hc
theorem info_parts8 : (Tryd.prog.info? 5).map (fun i => (i.zero, i.size, i.bytes)) = some (some (.int .u8 0), 1, 1) := by kernel_rfl
theorem dollar_any (n k : Nat) (w : World) (hn : n < 4294967296) (hk : k ≤ 3) :
    Calls Tryd.prog 46 #[.int .u32 n, .int .i64 k] w fun e w' => e = .returned (.string ⟨((dolL n (2 * k) (2 * k)).map UInt8.ofNat).toArray⟩) ∧ Below w.heap.size w w' := by
  have hown := World.ownsRow_lit (base := w.heap.size) (e := 5) (size := 1) w #[.int .u8 36] 1 (Nat.le_refl _) (by decide) rfl
  have hB := (Below.refl w.heap.size w).alloc (Nat.le_refl _) (.cells #[.int .u8 36] 5)
  go_enter Tryd.func46, Tryd.ntmps46
  go_upto_region 2 with (fail)
  generalize w.alloc (.cells #[.int .u8 36] 5) = W1 at *
  go_wp2_with fail
  go_loopw [5, 6] (fun s5 s6 wr => ∃ j : Nat, j ≤ 2 * k ∧ s6 = .int .i64 ((2 * k : Nat) - 1 - (j : Nat) : Int) ∧ wr.ownsRow w.heap.size 5 1 s5 (j + 1) ((dolL n (2 * k) j).map fun x => Value.int .u8 (x : Nat)) ∧ Below w.heap.size w wr) (fun _ s6 _ => (intOf s6 + 1).toNat)
  case atStart => exact ⟨0, by omega, by go_num, hown, hB⟩
  case round =>
    obtain ⟨j, hj, rfl, hown, hB⟩ := hrel
    by_cases hlt : j < 2 * k
    · obtain ⟨i, hi⟩ : ∃ i, 2 * k - 1 - j = i := ⟨_, rfl⟩
      rw [show ((2 * k : Nat) : Int) - 1 - (j : Nat) = (i : Int) by omega]
      have hi6 : i ≤ 5 := by omega
      replace hi := Lib.hid hi
      go_upto_region 5 with (fail)
      show Code.wp _ (Code.region _ #[_, _, _, _, _, _, { dst := _, op := Op.index _ (Operand.const (Value.string ?b)) _, type := _, pos := _, after := _, guard := _ }, _, _, _] _) _ _ _
      generalize hb : ?b = S
      have hz : S.size = 16 := by rw [← hb]; decide +kernel
      have hl : S.data.toList.map UInt8.toNat = [48, 49, 50, 51, 52, 53, 54, 55, 56, 57, 97, 98, 99, 100, 101, 102] := by rw [← hb]; decide +kernel
      replace hb := Lib.hid hb
      replace hl := Lib.hid hl
      have hA : bits BinOp.and IntKind.u32 ((n : Int) / 2 ^ (4 * i)) 15 = ((n / 16 ^ i % 16 : Nat) : Int) := by
        have h1 : ((n : Int) / 2 ^ (4 * i)) = ((n / 16 ^ i : Nat) : Int) := by
          rw [show (16 : Nat) ^ i = 2 ^ (4 * i) by rw [Nat.pow_mul]]
          simp
        rw [h1]
        exact and_15 _ (Nat.lt_of_le_of_lt (Nat.div_le_self _ _) hn)
      have hx : n / 16 ^ i % 16 < 16 := Nat.mod_lt _ (by decide)
      have hs1 : dolL n (2 * k) j ++ [digitN (n / 16 ^ i % 16)] = dolL n (2 * k) (j + 1) := by rw [dolL, hi.out]
      generalize n / 16 ^ i % 16 = x at *
      have hd := digit_of hl.out x hx (by omega)
      generalize digitN x = d at *
      generalize hL1 : dolL n (2 * k) (j + 1) = L1 at *
      generalize dolL n (2 * k) j = L0 at *
      replace hs1 := Lib.hid hs1
      replace hL1 := Lib.hid hL1
      have hs2 : ((L0.map fun x => Value.int .u8 (x : Nat)) ++ [Value.int .u8 (d : Nat)]) = L1.map fun x => Value.int .u8 (x : Nat) := by rw [← hs1.out]; simp
      replace hs2 := Lib.hid hs2
      obtain ⟨j0, hj0, hz0, hz1, hz2⟩ := info_parts info_parts8
      have hsz := hB.size
      go_wp2_with (at_builtin; refine wpList_append_own _ rfl _ _ 32 rfl w.heap.size 5 j0 _ 1 1 Tryd.underlying32 hj0 hz0 hz1 hz2 rfl (by decide) _ _ _ rfl (hown.alloc _) ⟨wr.heap.size, 0, none⟩ 1 1 [.int .u8 d] rfl rfl ?c1 ?c2 ?c3 ?c4 ?c5 ?_)
      case c1 => exact cell_one_new _ _ _
      case c2 => intro u hu; simp at hu; subst hu; rfl
      case c3 => unfold maxLen; omega
      case c4 => omega
      case c5 => have := hB.size; simp; omega
      intro v' w9 hown9 hgrow _
      have hB9 : Below w.heap.size w w9 := (hB.alloc hB.size _).grown hgrow (by have := hB.size; simp; omega) (fun q hq => (hown.lt q hq).1)
      rw [hs2.out] at hown9
      clear hown hgrow hB
      go_wp2
      go_roundw
      case rel => exact ⟨j + 1, by omega, by have := hi.out; go_num, by rw [hL1.out]; exact hown9, hB9⟩
      case measure => simp [intOf] <;> omega
    · obtain rfl : j = 2 * k := by omega
      obtain ⟨g, cap, rfl⟩ : ∃ g cap, u5 = .slice (some ⟨g, 0, none⟩) (2 * k + 1) cap := by
        rcases hown.2 with ⟨_, h0⟩ | ⟨g, cap, cur, e, _⟩
        · omega
        · exact ⟨g, cap, e⟩
      have hcv := bytes_text (dolL_lt n (2 * k) (2 * k)) (dolL_len n (2 * k) (2 * k)) hown
      generalize hT : (⟨((dolL n (2 * k) (2 * k)).map UInt8.ofNat).toArray⟩ : ByteArray) = T at *
      replace hT := Lib.hid hT
      rw [show ((2 * k : Nat) : Int) - 1 - ((2 * k : Nat) : Int) = -1 by omega]
      clear hown
      go_wp2_with fail
      go_ret
      exact ⟨by rw [hT.out]; rfl, hB⟩
end Go.Proofs.YtmbpkpideepghaaDoor
