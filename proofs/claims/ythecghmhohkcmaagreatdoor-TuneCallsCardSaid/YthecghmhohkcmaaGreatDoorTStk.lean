/-
  The program's next byte, the stack, words, idle cycles.
-/
import Derived.Test.YthecghmhohkcmaaGreatDoorTFl
namespace Go.Proofs.YthecghmhohkcmaaGreatDoor
open Go.RowKit Go.Shelf
set_option maxRecDepth 100000
set_option maxHeartbeats 1000000
set_option linter.unusedVariables false

section
variable {K : Cx} {z : Zs} {s : Ts} {w : World}
theorem write_any (a v : Nat) (h : Tk K z s w) (ha : a < 65536) (hv : v < 256) (hl : s.l.length ≤ 99) :
    Calls Tryz.prog 112 #[.pointer (some ⟨K.b, 0, none⟩), .int .u16 a, .int .u8 v] w fun e w' => e = .returned (.tuple #[]) ∧ Tk K z { s with l := s.l ++ [(2, a, v)] } w' ∧ Kp K w w' := by
  obtain ⟨la, lc, gg, cap, w1, c8, hr, ⟨u, d8⟩, f8, hh⟩ := h.push 2 a v (by omega)
  have e2 : IntKind.u32.wrap (a : Int) = (a : Int) := by simp only [IntKind.wrap_u32]; omega
  generalize s.l.length = L at *
  clear h hl
  simp only [show ((2 : Nat) : Int) = 2 from rfl] at hr
  go_enter Tryz.func112, Tryz.ntmps112
  go_wp2_with (at_builtin; refine wpList_append_ran rfl _ _ 26 rfl _ _ _ w1 rfl rfl hr ?_)
  go_end0
  exact ⟨rfl, hh.out⟩
def fetchM : M Nat := M.get fun r => M.bind (M.read r.Pc) fun v => M.bind (M.set fun r => { r with Pc := (r.Pc + 1) % 65536 }) fun _ => M.pure v
theorem fetch_any (h : Tk K z s w) (hl : s.l.length ≤ 99) :
    Calls Tryz.prog 49 #[.pointer (some ⟨K.b, 0, none⟩)] w (Post K z s w fetchM byteV (fun v => v < 256) 1) := by
  have c5 := h.look.2.1.1
  have H1 := Lib.hid (read_any s.r.Pc h h.ok.Pc hl)
  clear hl
  obtain ⟨Q, hQ, F⟩ := post_name (Post K z s w fetchM byteV (fun v => v < 256) 1)
  rw [hQ]
  clear h hQ
  replace F : ∀ e w', Post K z s w (M.bind (M.read s.r.Pc) fun v => M.bind (M.set fun r => { r with Pc := (r.Pc + 1) % 65536 }) fun _ => M.pure v) byteV (fun v => v < 256) 1 e w' → Q e w' := F
  replace F := Lib.hid F
  generalize s.r.Pc = a at *
  go_enter Tryz.func49, Tryz.ntmps49
  go_wp2_with fail
  with_reducible refine H1.out.mono ?_
  rintro e w1 ⟨s1, t1, k1, l1, (⟨v, r1, hv, rfl⟩ | ⟨g1, rfl⟩)⟩
  · have d5 := t1.look.2.1.1
    have f5 := t1.look.2.2 5
    have e5 : IntKind.u16.wrap ((s1.r.Pc : Int) + 1) = (((s1.r.Pc + 1) % 65536 : Nat) : Int) := by simp only [IntKind.wrap_u16]; omega
    have t2 := t1.toPc ((s1.r.Pc + 1) % 65536) (Nat.mod_lt _ (by decide))
    have hfin := Lib.hid (F.out (.returned (byteV v)) _ (Post.done (r1.bind (Ran.bind (Ran.set (fun r => { r with Pc := (r.Pc + 1) % 65536 }) s1) (Ran.pure v _))) t2 (k1.set 5 _) hv l1))
    unfold byteV at hfin ⊢
    generalize s1.r.Pc = P at *
    generalize (P + 1) % 65536 = P' at *
    clear H1 F t1 t2 k1 l1 r1 hv
    go_wp2_with fail
    exact hfin.out
  · have hfin := Lib.hid (F.out lackE _ (Post.gave g1 t1 k1 l1))
    clear H1 F t1 k1 l1 g1
    unfold lackE at hfin ⊢
    go_wp2_with fail
    first | exact hfin.out | exact ⟨rfl, hfin.out⟩
def pushM (v : Nat) : M Unit := M.get fun r => M.bind (M.write (256 + r.S) v) fun _ => M.set fun r => { r with S := (r.S + 255) % 256 }
theorem stack_or (v : Nat) (hv : v < 256) : bits .or .u16 256 (v : Int) = ((256 + v : Nat) : Int) :=
  (u16_or_nat 256 v (by decide) (by omega)).trans (by rw [show (256 : Nat) = 1 <<< 8 from rfl, Nat.shiftLeft_add_eq_or_of_lt (show v < 2 ^ 8 from hv)])
theorem Ran.push (v : Nat) (s : Ts) (hS : s.r.S < 256) (hv : v < 256) : Ran (pushM v) s () { s with l := s.l ++ [(2, 256 + s.r.S, v)], r := { s.r with S := (s.r.S + 255) % 256 } } :=
  Ran.get (k := fun r => M.bind (M.write (256 + r.S) v) fun _ => M.set fun r => { r with S := (r.S + 255) % 256 }) ((Ran.write (256 + s.r.S) v s (by omega) hv).bind (Ran.set (fun r => { r with S := (r.S + 255) % 256 }) _))
theorem push_any (v : Nat) (h : Tk K z s w) (hv : v < 256) (hl : s.l.length ≤ 99) :
    Calls Tryz.prog 147 #[.pointer (some ⟨K.b, 0, none⟩), .int .u8 v] w fun e w' => e = .returned (.tuple #[]) ∧ Tk K z { s with l := s.l ++ [(2, 256 + s.r.S, v)], r := { s.r with S := (s.r.S + 255) % 256 } } w' ∧ Kp K w w' := by
  have c3 := h.look.1.2.2.2.1
  have hS := h.ok.S
  have e1 := stack_or s.r.S hS
  have e2 : IntKind.u16.wrap (s.r.S : Int) = (s.r.S : Int) := by simp only [IntKind.wrap_u16]; omega
  have e3 : IntKind.u8.wrap ((s.r.S : Int) - 1) = (((s.r.S + 255) % 256 : Nat) : Int) := by simp only [IntKind.wrap_u8]; omega
  have H1 := Lib.hid (write_any (256 + s.r.S) v h (by omega) hv hl)
  have hx : (s.r.S + 255) % 256 < 256 := Nat.mod_lt _ (by decide)
  have HL := Lib.hid fun (W : World) (hW : Tk K z { s with l := s.l ++ [(2, 256 + s.r.S, v)] } W) => And.intro hW.look.1.2.2.2.1 (And.intro (hW.look.2.2 3) (hW.toS _ hx))
  dsimp only at HL
  generalize (s.r.S + 255) % 256 = S' at *
  generalize 256 + s.r.S = A at *
  clear h hl hv hS hx
  generalize s.r.S = S at *
  go_enter Tryz.func147, Tryz.ntmps147
  go_wp2_with fail
  with_reducible refine H1.out.mono ?_
  rintro e w1 ⟨rfl, t1, k1⟩
  obtain ⟨d3, f3, t2⟩ := HL.out _ t1
  have hfin := Lib.hid (And.intro t2 (k1.set 3 (.int .u8 (S' : Nat))))
  clear H1 HL t1 k1 t2 c3
  go_wp2_with fail
  go_end0
  exact ⟨rfl, hfin.out⟩
def popM : M Nat := M.bind (M.set fun r => { r with S := (r.S + 1) % 256 }) fun _ => M.get fun r => M.read (256 + r.S)
theorem pop_any (h : Tk K z s w) (hl : s.l.length ≤ 99) :
    Calls Tryz.prog 148 #[.pointer (some ⟨K.b, 0, none⟩)] w (Post K z s w popM byteV (fun v => v < 256) 1) := by
  have c3 := h.look.1.2.2.2.1
  have f3 := h.look.2.2 3
  have hS := h.ok.S
  have hx : (s.r.S + 1) % 256 < 256 := Nat.mod_lt _ (by decide)
  have e1 := stack_or _ hx
  have e2 : IntKind.u16.wrap (((s.r.S + 1) % 256 : Nat) : Int) = (((s.r.S + 1) % 256 : Nat) : Int) := by simp only [IntKind.wrap_u16]; omega
  have e3 : IntKind.u8.wrap ((s.r.S : Int) + 1) = (((s.r.S + 1) % 256 : Nat) : Int) := by simp only [IntKind.wrap_u8]; omega
  have t1 := h.toS _ hx
  have d3 := t1.look.1.2.2.2.1
  have H1 := read_any (256 + (s.r.S + 1) % 256) t1 (by omega) hl
  have hfin : ∀ e w', Post K z { s with r := { s.r with S := (s.r.S + 1) % 256 } } (w.setCell ⟨K.b, 3, none⟩ (.int .u8 (((s.r.S + 1) % 256 : Nat) : Int))) (M.read (256 + (s.r.S + 1) % 256)) byteV (fun v => v < 256) 1 e w' → Post K z s w popM byteV (fun v => v < 256) 1 e w' := fun e w' hp =>
    Post.after (c := 0) (d := 1) (k := fun _ => M.get fun r => M.read (256 + r.S)) (Ran.set (fun r => { r with S := (r.S + 1) % 256 }) s) ((Kp.refl K w).set 3 _) (Nat.le_refl _) hp (Nat.le_refl _)
  replace hfin := Lib.hid hfin
  dsimp only at d3
  replace H1 := Lib.hid H1
  clear t1 h hl
  generalize 256 + (s.r.S + 1) % 256 = A at *
  generalize (s.r.S + 1) % 256 = S' at *
  generalize s.r.S = S at *
  go_enter Tryz.func148, Tryz.ntmps148
  go_wp2_with fail
  with_reducible refine H1.out.mono ?_
  intro e w1 hp
  have hf := Lib.hid (hfin.out _ _ hp)
  obtain ⟨s1, _, _, _, (⟨v, _, _, rfl⟩ | ⟨_, rfl⟩)⟩ := hp
  · clear H1 hfin
    unfold byteV at hf ⊢
    go_wp2_with fail
    go_ret
    exact hf.out
  · clear H1 hfin
    unfold lackE at hf ⊢
    go_wp2_with fail
    exact ⟨rfl, hf.out⟩
def readWordM (a b : Nat) : M Nat := M.bind (M.read a) fun x => M.bind (M.read b) fun y => M.pure (y * 256 + x)
theorem word_or (x y : Nat) (hx : x < 256) (hy : y < 256) : bits .or .u16 (x : Int) ((y : Int) * 256) = ((y * 256 + x : Nat) : Int) := by
  rw [show (y : Int) * 256 = ((y * 256 : Nat) : Int) from by omega, u16_or_nat x (y * 256) (by omega) (by omega), Nat.or_comm, show y * 256 ||| x = y * 256 + x from by rw [show y * 256 = y <<< 8 from (Nat.shiftLeft_eq y 8).symm, ← Nat.shiftLeft_add_eq_or_of_lt (show x < 2 ^ 8 from hx)]]
theorem readWord_any (a b : Nat) (h : Tk K z s w) (ha : a < 65536) (hb : b < 65536) (hl : s.l.length ≤ 98) :
    Calls Tryz.prog 157 #[.pointer (some ⟨K.b, 0, none⟩), .int .u16 a, .int .u16 b] w (Post K z s w (readWordM a b) wordV (fun v => v < 65536) 2) := by
  have H1 := Lib.hid (read_any a h ha (by omega))
  obtain ⟨Q, hQ, F⟩ := post_name (Post K z s w (readWordM a b) wordV (fun v => v < 65536) 2)
  rw [hQ]
  clear h hQ
  replace F := Lib.hid F
  replace hl := Lib.hid hl
  go_enter Tryz.func157, Tryz.ntmps157
  go_wp2_with fail
  with_reducible refine H1.out.mono ?_
  rintro e w1 ⟨s1, t1, k1, l1, (⟨x, r1, hx, rfl⟩ | ⟨g1, rfl⟩)⟩
  · have H2 := Lib.hid (read_any b t1 hb (by have := hl.out; omega))
    have hx2 := Lib.hid hx
    replace r1 := Lib.hid r1
    replace k1 := Lib.hid k1
    replace l1 := Lib.hid l1
    have ex : IntKind.u16.wrap (x : Int) = (x : Int) := by simp only [IntKind.wrap_u16]; omega
    clear H1 t1 ha hb
    unfold byteV
    go_wp2_with fail
    with_reducible refine H2.out.mono ?_
    rintro e w2 ⟨s2, t2, k2, l2, (⟨y, r2, hy, rfl⟩ | ⟨g2, rfl⟩)⟩
    · have ey : IntKind.u16.wrap (y : Int) = (y : Int) := by simp only [IntKind.wrap_u16]; omega
      have eo := word_or x y hx2.out hy
      have hfin := Lib.hid (F.out (.returned (wordV (y * 256 + x))) _ (Post.done (r1.out.bind (r2.bind (Ran.pure (y * 256 + x) _))) t2 (k1.out.trans k2) (by have := hx2.out; omega) (by have := l1.out; omega)))
      unfold wordV at hfin
      unfold byteV
      clear H2 F t2 k2 l2 r2 hx k1 l1 r1
      go_wp2_with fail
      exact hfin.out
    · have hfin := Lib.hid (F.out lackE _ (Post.after r1.out k1.out l1.out (Post.gave g2 t2 k2 l2) (Nat.le_refl 2)))
      clear H2 F t2 k2 l2 g2 k1 l1 r1
      unfold lackE at hfin ⊢
      go_wp2_with fail
      first | exact hfin.out | exact ⟨rfl, hfin.out⟩
  · have hfin := Lib.hid (F.out lackE _ (Post.gave g1 t1 k1 (Nat.le_trans l1 (Nat.le_succ _))))
    clear H1 t1 k1 l1 g1
    unfold lackE at hfin ⊢
    go_wp2_with fail
    first | exact hfin.out | exact ⟨rfl, hfin.out⟩
end
end Go.Proofs.YthecghmhohkcmaaGreatDoor
