/-
  Words that operands mean; branches.
-/
import Derived.Test.YthecghmhohkcmaaGreatDoorTCb
import Derived.StillTailTactics
namespace Go.Proofs.YthecghmhohkcmaaGreatDoor
open Go.RowKit Go.Shelf
set_option maxRecDepth 100000
set_option maxHeartbeats 1000000
set_option linter.unusedVariables false

theorem wrap_i8' (n : Int) : IntKind.i8.wrap n = (n + 128) % 256 - 128 := by
  simp only [IntKind.wrap, IntKind.bits, IntKind.signed]
  simp
  split <;> omega
section
variable {K : Cx} {z : Zs} {s : Ts} {w w' : World} {c cd nd co no : Nat} {nm fm : ByteArray}
theorem wordOf_any (cc n : Nat) (v2 v3 : Value) (h : Tk K z s w) (hn : n < 65536) (hl : s.l.length ≤ 98) :
    Calls Tryz.prog 123 #[.pointer (some ⟨K.b, 0, none⟩), .agg #[.int .u8 (cc : Nat), .int .u16 (n : Nat), v2, v3]] w (Post K z s w (wordInPageM (n % 256)) wordV (fun v => v < 65536) 2) := by
  have hA := h.alloc (.cells #[.int .u8 (cc : Nat), .int .u16 (n : Nat), v2, v3] 66)
  have hX := Whole.fresh w 66 #[.int .u8 (cc : Nat), .int .u16 (n : Nat), v2, v3]
  have hK := Lib.hid ((Kp.refl K w).alloc (.cells #[.int .u8 (cc : Nat), .int .u16 (n : Nat), v2, v3] 66))
  have x1 := hX.cell 1
  simp only [List.getElem?_toArray, List.getElem?_cons_zero, List.getElem?_cons_succ] at x1
  obtain ⟨y, hy, hyb, hyw⟩ : ∃ y : Nat, n % 256 = y ∧ y < 256 ∧ (n : Int) % 256 = (y : Int) := ⟨_, rfl, Nat.mod_lt _ (by decide), by omega⟩
  rw [hy]
  have H1 := Lib.hid (wordInPage_any y hA hyb hl)
  obtain ⟨Q, hQ, F⟩ := post_name (Post K z s w (wordInPageM y) wordV (fun v => v < 65536) 2)
  rw [hQ]
  replace F := Lib.hid F
  clear h hA hX hQ hy hl
  go_enter Tryz.func123, Tryz.ntmps123
  go_upto_region 1 with (fail)
  generalize w.alloc (.cells #[.int .u8 (cc : Nat), .int .u16 (n : Nat), v2, v3] 66) = W0 at *
  generalize w.heap.size = X at *
  go_wp2_with fail
  with_reducible refine H1.out.mono ?_
  rintro e w1 ⟨s1, t1, k1, l1, h1⟩
  have hf := Lib.hid (F.out e _ ⟨s1, t1, hK.out.trans k1, l1, h1⟩)
  clear F H1 t1 k1 l1
  rcases h1 with ⟨v, _, _, rfl⟩ | ⟨_, rfl⟩
  · unfold wordV at hf ⊢
    go_wp2_with fail
    exact hf.out
  · unfold lackE at hf ⊢
    go_wp2_with fail
    first | exact hf.out | exact ⟨rfl, hf.out⟩
/-- A word is written where an operand means one. -/
def wrS (s : Ts) (n v : Nat) : Ts := { s with l := s.l ++ [(2, placeR s.r (n % 256), v % 256), (2, placeR s.r ((n + 1) % 256), v / 256)] }
def writeWordM (n v : Nat) : M Unit := M.bind (M.ask fun r => placeR r (n % 256)) fun a => M.bind (M.write a (v % 256)) fun _ => M.bind (M.ask fun r => placeR r ((n + 1) % 256)) fun b => M.write b (v / 256)
theorem Ran.writeWord (s : Ts) (n v : Nat) (hv : v < 65536) : Ran (writeWordM n v) s () (wrS s n v) := by
  have h1 := Ran.write (placeR s.r (n % 256)) (v % 256) s (placeR_lt _ _ (Nat.mod_lt _ (by decide))) (Nat.mod_lt _ (by decide))
  have h2 := Ran.write (placeR s.r ((n + 1) % 256)) (v / 256) { s with l := s.l ++ [(2, placeR s.r (n % 256), v % 256)] } (placeR_lt _ _ (Nat.mod_lt _ (by decide))) (by omega)
  have h3 := (Ran.ask (fun r => placeR r (n % 256)) s).bind (k := fun a => M.bind (M.write a (v % 256)) fun _ => M.bind (M.ask fun r => placeR r ((n + 1) % 256)) fun b => M.write b (v / 256)) (h1.bind ((Ran.ask (fun r => placeR r ((n + 1) % 256)) _).bind h2))
  dsimp only at h3
  rw [List.append_assoc] at h3
  exact h3
theorem writeWord_any (cc n v : Nat) (v2 v3 : Value) (h : Tk K z s w) (hn : n < 65536) (hv : v < 65536) (hl : s.l.length ≤ 98) :
    Calls Tryz.prog 120 #[.pointer (some ⟨K.b, 0, none⟩), .agg #[.int .u8 (cc : Nat), .int .u16 (n : Nat), v2, v3], .int .u16 (v : Nat)] w fun e w' => e = .returned (.tuple #[]) ∧ Tk K z (wrS s n v) w' ∧ Kp K w w' := by
  have hA := h.alloc (.cells #[.int .u8 (cc : Nat), .int .u16 (n : Nat), v2, v3] 66)
  have hX := Whole.fresh w 66 #[.int .u8 (cc : Nat), .int .u16 (n : Nat), v2, v3]
  have hK := Lib.hid ((Kp.refl K w).alloc (.cells #[.int .u8 (cc : Nat), .int .u16 (n : Nat), v2, v3] 66))
  have x1 := hX.cell 1
  simp only [List.getElem?_toArray, List.getElem?_cons_zero, List.getElem?_cons_succ] at x1
  unfold wrS
  obtain ⟨y, hy, hyb, hyw⟩ : ∃ y : Nat, n % 256 = y ∧ y < 256 ∧ (n : Int) % 256 = (y : Int) := ⟨_, rfl, Nat.mod_lt _ (by decide), by omega⟩
  obtain ⟨u, hu, hub, huw⟩ : ∃ u : Nat, (n + 1) % 256 = u ∧ u < 256 ∧ ((y : Int) + 1) % 256 = (u : Int) := ⟨_, rfl, Nat.mod_lt _ (by decide), by omega⟩
  obtain ⟨lo, hlo, hlb, hlw⟩ : ∃ u : Nat, v % 256 = u ∧ u < 256 ∧ (v : Int) % 256 = (u : Int) := ⟨_, rfl, Nat.mod_lt _ (by decide), by omega⟩
  obtain ⟨hi, hhi, hhb, hhw⟩ : ∃ u : Nat, v / 256 = u ∧ u < 256 ∧ IntKind.u8.wrap ((v : Int) / 256) = (u : Int) := ⟨_, rfl, by omega, by simp only [IntKind.wrap_u8]; omega⟩
  rw [hy, hu, hlo, hhi]
  have P1 := Lib.hid (place_any y hA hyb)
  have H1 := Lib.hid (write_any (placeR s.r y) lo hA (placeR_lt _ _ hyb) hlb (by omega))
  have H2 := Lib.hid fun (W : World) (t1 : Tk K z { s with l := s.l ++ [(2, placeR s.r y, lo)] } W) => And.intro (place_any u t1 hub) (write_any (placeR s.r u) hi t1 (placeR_lt _ _ hub) hhb (by simp; omega))
  have hst := Lib.hid fun (W : World) (k1 : Kp K (w.alloc (.cells #[.int .u8 (cc : Nat), .int .u16 (n : Nat), v2, v3] 66)) W) => (k1.stay hA hX).cell 1
  simp only [List.getElem?_toArray, List.getElem?_cons_zero, List.getElem?_cons_succ] at hst
  dsimp only at H2
  rw [List.append_assoc, List.singleton_append] at H2
  generalize placeR s.r y = a1 at *
  generalize placeR s.r u = a2 at *
  clear h hA hX hy hu hlo hhi hl
  go_enter Tryz.func120, Tryz.ntmps120
  go_upto_region 1 with (fail)
  generalize w.alloc (.cells #[.int .u8 (cc : Nat), .int .u16 (n : Nat), v2, v3] 66) = W0 at *
  generalize w.heap.size = X at *
  go_wp2_with fail
  with_reducible refine P1.out.mono ?_
  rintro e w0 ⟨rfl, hw0⟩
  rw [hw0]
  clear P1 hw0
  go_wp2_with fail
  with_reducible refine H1.out.mono ?_
  rintro e w1 ⟨rfl, t1, k1⟩
  have y1 := hst.out _ k1
  obtain ⟨P2, H3⟩ := H2.out _ t1
  replace k1 := Lib.hid (hK.out.trans k1)
  replace P2 := Lib.hid P2
  replace H3 := Lib.hid H3
  clear H1 H2 t1 x1 hst
  go_wp2_with fail
  with_reducible refine P2.out.mono ?_
  rintro e w0 ⟨rfl, hw0⟩
  rw [hw0]
  clear P2 hw0
  go_wp2_with fail
  with_reducible refine H3.out.mono ?_
  rintro e w2 ⟨rfl, t2, k2⟩
  have hf := Lib.hid (And.intro t2 (k1.out.trans k2))
  clear H3 t2 k2
  go_wp2_with fail
  go_end0
  exact ⟨rfl, hf.out⟩
/-- A branch that is taken, or not. -/
def bto (pc n : Nat) : Nat := (pc + n % 256 + (if n % 256 < 128 then 0 else 65280)) % 65536
def brS (is : Bool) (n : Nat) (s : Ts) : Ts := if is then { s with l := s.l ++ [(0, 0, 0), (0, 0, 0)], r := { s.r with Pc := bto s.r.Pc n } } else s
def branchM (is : Bool) (n : Nat) : M Unit := if is then M.bind (M.idles 2) fun _ => M.set fun r => { r with Pc := bto r.Pc n } else M.pure ()
theorem Ran.branch (is : Bool) (n : Nat) (s : Ts) : Ran (branchM is n) s () (brS is n s) := by
  unfold branchM brS
  cases is
  · rw [if_neg (by decide), if_neg (by decide)]; exact Ran.pure () s
  · rw [if_pos rfl, if_pos rfl]
    exact (Ran.idles s 2).bind (Ran.set (fun r => { r with Pc := bto r.Pc n }) _)
theorem branchIf_any (is : Bool) (h : Tk K z s w) (hz : Zd K z w c nm fm cd nd co no) (hl : s.l.length ≤ 90) :
    Calls Tryz.prog 149 #[.pointer (some ⟨K.b, 0, none⟩), .bool is] w fun e w' => e = .returned (.tuple #[]) ∧ Tk K z (brS is no s) w' ∧ Kp K w w' := by
  have H0 := Lib.hid (And.intro h (Kp.refl K w))
  have H1 := Lib.hid (idles_any 2 2 rfl h (by omega))
  have hno := hz.no
  have HL := Lib.hid fun (W : World) (t1 : Tk K z (idleS s 2) W) => And.intro t1.look.2.1.1 (And.intro (t1.look.2.2 5) (And.intro (t1.lookO.2.1.trans (by rw [hz.o1])) (t1.toPc (bto s.r.Pc no) (Nat.mod_lt _ (by decide)))))
  have hP := h.ok.Pc
  unfold idleS at H1 HL
  unfold brS
  dsimp only at HL
  cases is with
  | false =>
    rw [if_neg (by decide)]
    clear h hz hl H1 HL
    go_enter Tryz.func149, Tryz.ntmps149
    go_wp2_with fail
    exact bodyPost_ret (results_none rfl _ _ _) rfl ⟨rfl, H0.out⟩
  | true =>
    rw [if_pos rfl]
    obtain ⟨pt, hto⟩ : ∃ pt, bto s.r.Pc no = pt := ⟨_, rfl⟩
    rw [hto] at HL ⊢
    have ec : IntKind.u16.wrap ((s.r.Pc : Int) + IntKind.u16.wrap (IntKind.i8.wrap (no : Int))) = (pt : Int) := by
      rw [← hto]
      unfold bto
      simp only [IntKind.wrap_u16, wrap_i8']
      split <;> omega
    replace hto := Lib.hid hto
    clear h hz hl H0
    generalize s.r.Pc = pc at *
    go_enter Tryz.func149, Tryz.ntmps149
    go_wp2_with fail
    with_reducible refine H1.out.mono ?_
    rintro e w1 ⟨rfl, t1, k1⟩
    obtain ⟨d5, f5, d19, t2⟩ := HL.out _ t1
    have hf := Lib.hid (And.intro t2 (k1.set 5 (.int .u16 (pt : Nat))))
    clear H1 HL t1 t2 k1
    go_upto_region 2 with (fail)
    go_still_tail 16, (by kernel_rfl)
    show wpList _ _ _ _ _ w1.drew
    have f5 : w1.drew.frozen? ⟨K.b, 5, none⟩ = false := f5
    have d5 : w1.drew.cell? ⟨K.b, 5, none⟩ = some (.int .u16 pc) := d5
    have hf : Hid (Tk K z { s with l := s.l ++ List.replicate 2 (0, 0, 0), r := { s.r with Pc := pt } } (w1.drew.setCell ⟨K.b, 5, none⟩ (.int .u16 (pt : Nat))) ∧ Kp K w (w1.drew.setCell ⟨K.b, 5, none⟩ (.int .u16 (pt : Nat)))) := Lib.hid ⟨hf.out.1.drew, hf.out.2.drew⟩
    generalize w1.drew = w2 at *
    go_wp2_with fail
    go_end0
    exact ⟨rfl, hf.out⟩
end
end Go.Proofs.YthecghmhohkcmaaGreatDoor
