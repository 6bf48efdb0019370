/-
  What answers a read; reads, writes, idle cycles, the program's next byte.
-/
import Derived.Test.YthecghmhohkcmaaGreatDoorTK
import Derived.Laws.EntriesVeiled
namespace Go.Proofs.YthecghmhohkcmaaGreatDoor
open Go.RowKit Go.Shelf
set_option maxRecDepth 100000
set_option maxHeartbeats 1000000
set_option linter.unusedVariables false

/-- What answers, by the bytes that are left: no byte. -/
theorem course1_no {K : Cx} {w : World} (a : Nat) {p : Option Addr} {c : Nat} (hx : Whole w K.x 25 #[.slice p 0 c]) :
    Calls Tryz.prog 24 #[.int .u16 a, .pointer (some ⟨K.x, 0, none⟩)] w fun e w' => e = lackE ∧ w' = w := by
  have c0 := hx.cell 0
  simp only [List.getElem?_toArray, List.getElem?_cons_zero] at c0
  clear hx
  go_enter Tryz.func24, Tryz.ntmps24
  go_wp2_with fail
  exact ⟨rfl, by rfl, rfl⟩
theorem course1_ok {K : Cx} {w : World} (a : Nat) {g o m c : Nat} {v : Nat} (hx : Whole w K.x 25 #[.slice (some ⟨g, o, none⟩) (m + 1) (c + 1)]) (hv : w.cell? ⟨g, o, none⟩ = some (.int .u8 (v : Nat))) (hmc : m ≤ c) :
    Calls Tryz.prog 24 #[.int .u16 a, .pointer (some ⟨K.x, 0, none⟩)] w fun e w' => e = .returned (.int .u8 (v : Nat)) ∧ ∃ p, (m = 0 ∨ p = some ⟨g, o + 1, none⟩) ∧ w' = w.setCell ⟨K.x, 0, none⟩ (.slice p m c) := by
  have c0 := hx.cell 0
  have f0 := hx.free 0
  simp only [List.getElem?_toArray, List.getElem?_cons_zero] at c0
  have i1 : (((m + 1 : Nat) : Int) == 0) = false := by rw [beq_eq_false_iff_ne]; omega
  have hmcH := Lib.hid hmc
  clear hx
  by_cases hc0 : c = 0
  · subst hc0
    obtain rfl : m = 0 := by omega
    go_enter Tryz.func24, Tryz.ntmps24
    go_wp2_with fail
    go_ret
    exact ⟨rfl, some ⟨g, o, none⟩, .inl (by trivial), rfl⟩
  · go_enter Tryz.func24, Tryz.ntmps24
    go_wp2_with fail
    go_ret
    exact ⟨rfl, some ⟨g, o + 1, none⟩, .inr rfl, rfl⟩
theorem run1_any {K : Cx} {w : World} (a : Nat) {g o c : Nat} {v : Nat} (ha : a < 65536) (hx : Whole w K.x 25 #[.slice (some ⟨g, o, none⟩) 65536 c]) (hv : w.cell? ⟨g, o + a, none⟩ = some (.int .u8 (v : Nat))) :
    Calls Tryz.prog 27 #[.int .u16 a, .pointer (some ⟨K.x, 0, none⟩)] w fun e w' => e = .returned (.int .u8 (v : Nat)) ∧ w' = w := by
  have c0 := hx.cell 0
  simp only [List.getElem?_toArray, List.getElem?_cons_zero] at c0
  have ha' : (a : Int) < 65536 := by omega
  clear hx
  go_enter Tryz.func27, Tryz.ntmps27
  go_wp2_with fail
  go_ret
  exact ⟨rfl, rfl⟩
/-- One byte is taken. -/
theorem Tk.took {K : Cx} {z : Zs} {s : Ts} {w : World} {q' : Sc} {p : Option Addr} {m c : Nat} {f : Nat → Nat} (h : Tk K z s w) (hq : q'.Ok) (hm : q'.mem = K.mem) (hmc : m ≤ c) (hR : Row K.W0 p m f) (hF : Fits K.mem q'.seen m f) : Tk K z { s with q := q' } (w.setCell ⟨K.x, 0, none⟩ (.slice p m c)) := by
  obtain ⟨lv, h1, h4⟩ := h.cells
  obtain ⟨a, n, c', f', h5, h6⟩ := h.box
  exact ⟨h.ok, hq, hm, ⟨lv, h1.away (p := ⟨K.x, 0, none⟩) h.apart _, row_put h4 (p := ⟨K.x, 0, none⟩) (own_apart h4 h5 (by decide)) _⟩, ⟨p, m, c, f, h5.put 0 _, hmc, hR, hF⟩, h.here, h.hex, h.bel.setCell (p := ⟨K.x, 0, none⟩) h.hex _, h.base⟩
def ansF (K : Cx) : Nat := if K.mem.isSome then 27 else 24
theorem ans_any {K : Cx} {z : Zs} {s : Ts} {w : World} (a : Nat) (h : Tk K z s w) (ha : a < 65536) :
    Calls Tryz.prog (ansF K) #[.int .u16 a, .pointer (some ⟨K.x, 0, none⟩)] w fun e w' => Kp K w w' ∧ ((∃ v q', s.q.take a = some (v, q') ∧ v < 256 ∧ Tk K z { s with q := q' } w' ∧ e = .returned (.int .u8 (v : Nat))) ∨ (s.q.take a = none ∧ Tk K z s w' ∧ e = lackE)) := by
  obtain ⟨p, n, c, f, hx, hnc, hR, hF⟩ := h.box
  have hok := h.qok
  have hm := h.mem
  unfold ansF
  cases hK : K.mem with
  | some g =>
    rw [hK] at hm hF
    obtain ⟨rfl, rfl⟩ := hF
    rcases hR with ⟨hb, h0 | ⟨G, o, rfl, hg, hcell⟩⟩
    · omega
    have hv := (h.bel.cell (p := ⟨G, o + a, none⟩) (by have := h.base; show G < K.B; omega)).trans (hcell a ha)
    have ht : s.q.take a = some (f a, s.q) := by unfold Sc.take; rw [hm]
    refine (run1_any a ha hx hv).mono ?_
    rintro e w' ⟨rfl, rfl⟩
    exact ⟨Kp.refl _ _, .inl ⟨f a, s.q, ht, (hok.take ha ht).1, h, rfl⟩⟩
  | none =>
    rw [hK] at hm hF
    obtain ⟨hn, hf⟩ := hF
    cases hs : s.q.seen with
    | nil =>
      rw [hs] at hn
      obtain rfl : n = 0 := hn
      have ht : s.q.take a = none := by unfold Sc.take; rw [hm, hs]
      refine (course1_no a hx).mono ?_
      rintro e w' ⟨rfl, rfl⟩
      exact ⟨Kp.refl _ _, .inr ⟨ht, h, rfl⟩⟩
    | cons v t =>
      rw [hs] at hn hf
      obtain ⟨m, rfl⟩ : ∃ m, n = m + 1 := ⟨n - 1, by simp at hn; omega⟩
      obtain ⟨c', rfl⟩ : ∃ c', c = c' + 1 := ⟨c - 1, by omega⟩
      have hml : m = t.length := by simpa using hn
      have ht : s.q.take a = some (v, ⟨s.q.mem, t⟩) := by unfold Sc.take; rw [hm, hs]
      rcases hR with ⟨hb, h0 | ⟨G, o, rfl, hg, hcell⟩⟩
      · omega
      have hv := (h.bel.cell (p := ⟨G, o + 0, none⟩) (by have := h.base; show G < K.B; omega)).trans (hcell 0 (by omega))
      rw [hf 0 (by omega), Nat.add_zero] at hv
      have h2 := hok.take ha ht
      refine (course1_ok a hx hv (by omega)).mono ?_
      rintro e w' ⟨rfl, p', hp', rfl⟩
      refine ⟨(Kp.refl _ _).setx 0 _, .inl ⟨v, _, ht, h2.1, ?_, rfl⟩⟩
      refine h.took (f := fun i => f (i + 1)) h2.2 (hm.trans hK.symm) (by omega) ?_ ?_
      · refine ⟨fun i hi => hb (i + 1) (by omega), ?_⟩
        rcases hp' with h0 | h0
        · exact .inl h0
        · exact .inr ⟨G, o + 1, h0, hg, fun i hi => by rw [Nat.add_assoc, Nat.add_comm 1 i]; exact hcell (i + 1) (by omega)⟩
      · rw [hK]
        exact ⟨hml, fun i hi => hf (i + 1) (by omega)⟩
theorem ansV_eq (K : Cx) : ansV K = .func (.func (ansF K)) #[] #[.pointer (some ⟨K.x, 0, none⟩)] := by
  unfold ansV ansF
  split <;> rfl
def byteV (v : Nat) : Value := .int .u8 (v : Nat)
def wordV (v : Nat) : Value := .int .u16 (v : Nat)
def unitV (_ : Unit) : Value := .tuple #[]
theorem read_any {K : Cx} {z : Zs} {s : Ts} {w : World} (a : Nat) (h : Tk K z s w) (ha : a < 65536) (hl : s.l.length ≤ 99) :
    Calls Tryz.prog 74 #[.pointer (some ⟨K.b, 0, none⟩), .int .u16 a] w (Post K z s w (M.read a) byteV (fun v => v < 256) 1) := by
  obtain ⟨la, lc, gg, cap, w1, c8, hr, ⟨u, d8⟩, f8, hh⟩ := h.push 1 a 0 (by omega)
  have hd := Lib.hid fun (W : World) (hW : Tk K z { s with l := s.l ++ [(1, a, 0)] } W) => And.intro (hW.look.2.1.2.2.trans (by rw [ansV_eq])) (ans_any a hW ha)
  have hen : ∀ (args : Array Value) (W : World), (callFunc (ansF K) args).run Tryz.prog W = .ok (.enter (ansF K) args) W := fun args W => by unfold ansF; split <;> rfl
  have hfin := Lib.hid fun (w' : World) (e : Ending) (hk : Kp K w w') (hq : (∃ v q', s.q.take a = some (v, q') ∧ v < 256 ∧ Tk K z { ({ s with l := s.l ++ [(1, a, 0)] } : Ts) with q := q' } w' ∧ e = .returned (.int .u8 (v : Nat))) ∨ (s.q.take a = none ∧ Tk K z { s with l := s.l ++ [(1, a, 0)] } w' ∧ e = lackE)) => (show Post K z s w (M.read a) byteV (fun v => v < 256) 1 e w' from by
    rcases hq with ⟨v, q', h1, h2, h3, rfl⟩ | ⟨h1, h3, rfl⟩
    · exact ⟨_, h3, hk, by simp, .inl ⟨v, Ran.read a s ha h1, h2, rfl⟩⟩
    · exact ⟨_, h3, hk, by simp, .inr ⟨Gave.read a s ha h1, rfl⟩⟩)
  have e2 : IntKind.u32.wrap (a : Int) = (a : Int) := by simp only [IntKind.wrap_u32]; omega
  generalize s.l.length = L at *
  generalize ansF K = kf at *
  clear h hl
  simp only [show ((1 : Nat) : Int) = 1 from rfl, show ((0 : Nat) : Int) = 0 from rfl] at hr
  go_enter Tryz.func74, Tryz.ntmps74
  go_upto_region 2 with (at_builtin; refine wpList_append_ran rfl _ _ 26 rfl _ _ _ w1 rfl rfl hr ?_)
  obtain ⟨hT, hK⟩ := hh.out
  obtain ⟨c7, HA⟩ := hd.out _ hT
  generalize w1.setCell ⟨K.b, 8, none⟩ (.slice (some ⟨gg, 0, none⟩) (L + 1) cap) = W at *
  clear hh hd hr d8 f8 c8 hT
  replace hK := Lib.hid hK
  replace HA := Lib.hid HA
  go_wp2_with fail
  refine HA.out.mono ?_
  rintro e w' ⟨k2, hq⟩
  have hf := hfin.out w' e (hK.out.trans k2) hq
  replace hf := Lib.hid hf
  clear HA hfin
  rcases hq with ⟨v, q', h1, h2, h3, rfl⟩ | ⟨h1, h3, rfl⟩
  · clear h1 h2 h3 k2
    go_wp2_with fail
    go_ret
    exact hf.out
  · clear h1 h3 k2
    unfold lackE at hf ⊢
    go_wp2_with fail
    exact ⟨rfl, hf.out⟩
end Go.Proofs.YthecghmhohkcmaaGreatDoor
