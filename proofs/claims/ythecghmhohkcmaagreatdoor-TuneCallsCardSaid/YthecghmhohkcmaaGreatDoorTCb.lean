/-
  What the names of arithmetic make of bytes.
-/
import Derived.Test.YthecghmhohkcmaaGreatDoorTM1
namespace Go.Proofs.YthecghmhohkcmaaGreatDoor
open Go.RowKit Go.Shelf
set_option maxRecDepth 100000
set_option maxHeartbeats 1000000
set_option linter.unusedVariables false

def combN (k : Nat) : ByteArray := match k with | 0 => ⟨#[79, 82]⟩ | 1 => ⟨#[65, 78, 68]⟩ | 2 => ⟨#[69, 79, 82]⟩ | 3 => ⟨#[65, 68, 67]⟩ | _ => ⟨#[83, 66, 67]⟩
def combV (k : Nat) (r : Rp) (d o : Nat) : Nat := match k with | 0 => d ||| o | 1 => d &&& o | 2 => d ^^^ o | 3 => sumV r d o | _ => sumV r d (255 - o)
def combR (k d o : Nat) (r : Rp) : Rp := match k with | 0 => r | 1 => r | 2 => r | 3 => sumR d o r | _ => sumR d (255 - o) r
theorem sumV_lt (r : Rp) (a b : Nat) : sumV r a b < 256 := Nat.mod_lt _ (by decide)
theorem xor_lt256 (a b : Nat) (ha : a < 256) (hb : b < 256) : a ^^^ b < 256 := Nat.xor_lt_two_pow (n := 8) ha hb
theorem combV_lt (k : Nat) (r : Rp) (d o : Nat) (hd : d < 256) (ho : o < 256) : combV k r d o < 256 := by
  unfold combV
  split
  · exact or_lt256 _ _ hd ho
  · exact and_lt256 _ _ hd
  · exact xor_lt256 _ _ hd ho
  · exact sumV_lt _ _ _
  · exact sumV_lt _ _ _
theorem not_eq (o : Nat) (h : o < 256) : 255 ^^^ o = 255 - o := (show ∀ o, o < 256 → 255 ^^^ o = 255 - o by decide +kernel) o h
theorem bne_has (a b : Nat) : (((a &&& b : Nat) : Int) != 0) = hasP a b := by
  unfold hasP
  generalize a &&& b = q
  by_cases e : q = 0 <;> simp [e]
section
variable {K : Cx} {z : Zs} {s : Ts} {w w' : World} {c cd nd co no : Nat} {nm fm : ByteArray}
theorem combined_any (k d o : Nat) (hk : k < 5) (h : Tk K z s w) (hn : z.n1 = .string (combN k)) (hd : d < 256) (ho : o < 256) :
    Calls Tryz.prog 114 #[.pointer (some ⟨K.b, 0, none⟩), .int .u8 (d : Nat), .int .u8 (o : Nat)] w (Turns K z s w (combR k d o s.r) (.int .u8 (combV k s.r d o : Nat))) := by
  have c10 := h.lookN.2.1
  rw [hn] at c10
  have H0 := Lib.hid (And.intro h (Kp.refl K w))
  have H3 := sum_any d o h hd ho
  have H4 := sum_any d (255 - o) h hd (by omega)
  unfold Turns at H3 H4 ⊢
  obtain rfl | rfl | rfl | rfl | rfl : k = 0 ∨ k = 1 ∨ k = 2 ∨ k = 3 ∨ k = 4 := by omega
  · have e1 := u8_or_nat d o hd ho
    unfold combN at c10
    unfold combV combR
    try dsimp only at c10 ⊢
    generalize d ||| o = x at *
    clear h H3 H4
    go_enter Tryz.func114, Tryz.ntmps114
    go_wp2_with fail
    go_ret
    exact ⟨rfl, H0.out⟩
  · have e1 := u8_and_nat d o hd ho
    unfold combN at c10
    unfold combV combR
    try dsimp only at c10 ⊢
    generalize d &&& o = x at *
    clear h H3 H4
    go_enter Tryz.func114, Tryz.ntmps114
    go_wp2_with fail
    go_ret
    exact ⟨rfl, H0.out⟩
  · have e1 := u8_xor_nat d o hd ho
    unfold combN at c10
    unfold combV combR
    try dsimp only at c10 ⊢
    generalize d ^^^ o = x at *
    clear h H3 H4
    go_enter Tryz.func114, Tryz.ntmps114
    go_wp2_with fail
    go_ret
    exact ⟨rfl, H0.out⟩
  · unfold combN at c10
    unfold combV combR
    try dsimp only at c10 ⊢
    generalize sumV s.r d o = x at *
    generalize sumR d o s.r = r' at *
    replace H3 := Lib.hid H3
    clear h H4 H0
    go_enter Tryz.func114, Tryz.ntmps114
    go_wp2_with fail
    with_reducible refine H3.out.mono ?_
    rintro e w1 ⟨rfl, t1, k1⟩
    have hf := Lib.hid (And.intro t1 k1)
    clear H3 t1 k1
    go_wp2_with fail
    go_ret
    exact ⟨rfl, hf.out⟩
  · unfold combN at c10
    unfold combV combR
    try dsimp only at c10 ⊢
    generalize sumV s.r d (255 - o) = x at *
    generalize sumR d (255 - o) s.r = r' at *
    have e1 : bits .xor .u8 IntKind.u8.max (o : Int) = ((255 - o : Nat) : Int) := (u8_xor_nat 255 o (by decide) ho).trans (by rw [not_eq o ho])
    generalize 255 - o = y at *
    replace H4 := Lib.hid H4
    clear h H3 H0
    go_enter Tryz.func114, Tryz.ntmps114
    go_wp2_with fail
    with_reducible refine H4.out.mono ?_
    rintro e w1 ⟨rfl, t1, k1⟩
    have hf := Lib.hid (And.intro t1 k1)
    clear H4 t1 k1
    go_wp2_with fail
    go_ret
    exact ⟨rfl, hf.out⟩
def changeN (k : Nat) : ByteArray := match k with | 0 => ⟨#[73, 78, 67]⟩ | 1 => ⟨#[68, 69, 67]⟩ | 2 => ⟨#[65, 83, 76]⟩ | 3 => ⟨#[82, 79, 76]⟩ | 4 => ⟨#[76, 83, 82]⟩ | _ => ⟨#[82, 79, 82]⟩
def changeV (k : Nat) (r : Rp) (v : Nat) : Nat := match k with | 0 => (v + 1) % 256 | 1 => (v + 255) % 256 | 2 => 2 * v % 256 | 3 => 2 * v % 256 + r.P % 2 | 4 => v / 2 | _ => v / 2 + 128 * (r.P % 2)
def changeR (k v : Nat) (r : Rp) : Rp := match k with | 0 => r | 1 => r | 2 => putR 1 (hasP v 128) r | 3 => putR 1 (hasP v 128) r | 4 => putR 1 (hasP v 1) r | _ => putR 1 (hasP v 1) r
theorem changeV_lt (k : Nat) (r : Rp) (v : Nat) (hv : v < 256) : changeV k r v < 256 := by
  unfold changeV
  split <;> omega
theorem changed_any (k v : Nat) (hk : k < 6) (h : Tk K z s w) (hn : z.n1 = .string (changeN k)) (hv : v < 256) :
    Calls Tryz.prog 116 #[.pointer (some ⟨K.b, 0, none⟩), .int .u8 (v : Nat)] w (Turns K z s w (changeR k v s.r) (.int .u8 (changeV k s.r v : Nat))) := by
  obtain ⟨⟨rA, rX, rY, rS, rP, rPc, rH⟩, l, q⟩ := s
  have c10 := h.lookN.2.1
  rw [hn] at c10
  have c4 := h.look.1.2.2.2.2
  have hP := h.ok.P
  dsimp only at c4 hP
  have e1 : bits .and .u8 (rP : Int) 1 = ((rP % 2 : Nat) : Int) := (u8_and_nat rP 1 hP (by decide)).trans (by rw [Nat.and_one_is_mod])
  have ea : bits .and .u8 (v : Int) 128 = ((v &&& 128 : Nat) : Int) := u8_and_nat v 128 hv (by decide)
  have eb : bits .and .u8 (v : Int) 1 = ((v &&& 1 : Nat) : Int) := u8_and_nat v 1 hv (by decide)
  have ta : (((v &&& 128 : Nat) : Int) != 0) = hasP v 128 := bne_has v 128
  have tb : (((v &&& 1 : Nat) : Int) != 0) = hasP v 1 := bne_has v 1
  have H0 := Lib.hid (And.intro h (Kp.refl K w))
  have Ha := put_any 1 1 rfl (hasP v 128) h (by decide)
  have Hb := put_any 1 1 rfl (hasP v 1) h (by decide)
  unfold Turns at Ha Hb ⊢
  dsimp only at Ha Hb ⊢
  have hq := Lib.hid (Nat.mod_lt rP (show 0 < 2 by decide))
  have e2 : IntKind.u8.wrap (2 * (v : Int)) = ((2 * v % 256 : Nat) : Int) := by simp only [IntKind.wrap_u8]; omega
  replace Ha := Lib.hid Ha
  replace Hb := Lib.hid Hb
  obtain rfl | rfl | rfl | rfl | rfl | rfl : k = 0 ∨ k = 1 ∨ k = 2 ∨ k = 3 ∨ k = 4 ∨ k = 5 := by omega
  all_goals
    unfold changeN at c10
    unfold changeV changeR
    try dsimp only at c10 ⊢
    generalize hasP v 128 = oa at *
    generalize hasP v 1 = ob at *
    generalize v &&& 128 = va at *
    generalize v &&& 1 = vb at *
  · have e3 : IntKind.u8.wrap ((v : Int) + 1) = (((v + 1) % 256 : Nat) : Int) := by simp only [IntKind.wrap_u8]; omega
    generalize (v + 1) % 256 = x at *
    clear h Ha Hb
    go_enter Tryz.func116, Tryz.ntmps116
    go_wp2_with fail
    go_ret
    exact ⟨rfl, H0.out⟩
  · have e3 : IntKind.u8.wrap ((v : Int) - 1) = (((v + 255) % 256 : Nat) : Int) := by simp only [IntKind.wrap_u8]; omega
    generalize (v + 255) % 256 = x at *
    clear h Ha Hb
    go_enter Tryz.func116, Tryz.ntmps116
    go_wp2_with fail
    go_ret
    exact ⟨rfl, H0.out⟩
  · have e3 : IntKind.u8.wrap ((v : Int) * 2) = ((2 * v % 256 : Nat) : Int) := by simp only [IntKind.wrap_u8]; omega
    generalize 2 * v % 256 = x at *
    clear h H0 Hb
    go_enter Tryz.func116, Tryz.ntmps116
    go_wp2_with fail
    with_reducible refine Ha.out.mono ?_
    rintro e w1 ⟨rfl, t1, k1⟩
    have hf := Lib.hid (And.intro t1 k1)
    clear Ha t1 k1
    go_wp2_with fail
    go_ret
    exact ⟨rfl, hf.out⟩
  · have e3 : IntKind.u8.wrap ((v : Int) * 2) = ((2 * v % 256 : Nat) : Int) := by simp only [IntKind.wrap_u8]; omega
    have e4 : bits .or .u8 ((2 * v % 256 : Nat) : Int) ((rP % 2 : Nat) : Int) = ((2 * v % 256 + rP % 2 : Nat) : Int) := by
      rw [u8_or_nat _ _ (Nat.mod_lt _ (by decide)) (by omega), show 2 * v % 256 = (v % 128) <<< 1 from by rw [Nat.shiftLeft_eq]; omega, ← Nat.shiftLeft_add_eq_or_of_lt (show rP % 2 < 2 ^ 1 from Nat.mod_lt _ (by decide))]
    generalize 2 * v % 256 + rP % 2 = y at *
    generalize 2 * v % 256 = x at *
    generalize rP % 2 = cc at *
    clear h H0 Hb
    go_enter Tryz.func116, Tryz.ntmps116
    go_wp2_with fail
    with_reducible refine Ha.out.mono ?_
    rintro e w1 ⟨rfl, t1, k1⟩
    have hf := Lib.hid (And.intro t1 k1)
    clear Ha t1 k1
    go_wp2_with fail
    go_ret
    exact ⟨rfl, hf.out⟩
  · have e3 : (v : Int) / 2 = ((v / 2 : Nat) : Int) := by omega
    generalize v / 2 = x at *
    clear h H0 Ha
    go_enter Tryz.func116, Tryz.ntmps116
    go_wp2_with fail
    with_reducible refine Hb.out.mono ?_
    rintro e w1 ⟨rfl, t1, k1⟩
    have hf := Lib.hid (And.intro t1 k1)
    clear Hb t1 k1
    go_wp2_with fail
    go_ret
    exact ⟨rfl, hf.out⟩
  · have e3 : (v : Int) / 2 = ((v / 2 : Nat) : Int) := by omega
    have e5 : IntKind.u8.wrap (((rP % 2 : Nat) : Int) * 128) = ((rP % 2 * 128 : Nat) : Int) := by simp only [IntKind.wrap_u8]; omega
    have e4 : bits .or .u8 ((v / 2 : Nat) : Int) ((rP % 2 * 128 : Nat) : Int) = ((v / 2 + 128 * (rP % 2) : Nat) : Int) := by
      rw [u8_or_nat _ _ (by omega) (by omega), Nat.or_comm, show rP % 2 * 128 = (rP % 2) <<< 7 from by rw [Nat.shiftLeft_eq], ← Nat.shiftLeft_add_eq_or_of_lt (show v / 2 < 2 ^ 7 by omega), Nat.shiftLeft_eq]
      omega
    generalize v / 2 + 128 * (rP % 2) = y at *
    generalize rP % 2 * 128 = x7 at *
    generalize v / 2 = x at *
    generalize rP % 2 = cc at *
    clear h H0 Ha
    go_enter Tryz.func116, Tryz.ntmps116
    go_wp2_with fail
    with_reducible refine Hb.out.mono ?_
    rintro e w1 ⟨rfl, t1, k1⟩
    have hf := Lib.hid (And.intro t1 k1)
    clear Hb t1 k1
    go_wp2_with fail
    go_ret
    exact ⟨rfl, hf.out⟩
end
end Go.Proofs.YthecghmhohkcmaaGreatDoor
