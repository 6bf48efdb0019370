/-
  A walker fetches numbers; the byte that says where something lies; what is at the stack's place.
-/
import Derived.Test.YtkbieadebfpjdaaWk4
namespace Go.Proofs.Ytkbieadebfpjdaa
open Go.RowKit Go.Shelf
set_option maxRecDepth 100000
set_option maxHeartbeats 1000000
set_option linter.unusedVariables false

theorem makeF : ∀ (fn : Fn) (first cap : Array Value) (w : World), (Instr.makeFunc fn first cap).run Try.prog w = .ok (.func fn first cap) w := fun _ _ _ _ => rfl
theorem Good.fetch1 : Good fetch1M 1 := Good.bind (c := 0) Good.get fun r => Good.bind (c := 1) (d := 0) (Good.read _) fun v => Good.bind (c := 0) (d := 0) Good.inc fun _ => Good.pure _
theorem fetch_any {W0 w : World} {B b m : Nat} {s : Ws} (h : Wk W0 B b s w) (hm : m ≤ 3) (hl : s.l.length + m ≤ 100) :
    Calls Try.prog 25 #[.pointer (some ⟨b, 0, none⟩), .int .u32 (m : Nat)] w fun e w' => e = .returned (.int .u32 ((fetchM m s).1 : Nat)) ∧ Wk W0 B b (fetchM m s).2 w' ∧ Keeps b w w' ∧ (fetchM m s).1 < 256 ^ m := by
  have hmf := makeF
  have hW := h.alloc (.cells #[.pointer (some ⟨b, 0, none⟩)] 62)
  have hX := Whole.fresh w 62 #[.pointer (some ⟨b, 0, none⟩)]
  have hK := (Keeps.refl b w).alloc (.cells #[.pointer (some ⟨b, 0, none⟩)] 62)
  have hne : w.heap.size ≠ b := by have := h.lt; omega
  have HN := number_any (k := 34) (F := fun _ => fetch1M) (caps := #[.pointer (some ⟨w.heap.size, 0, none⟩)]) (Q := fun W => Whole W w.heap.size 62 #[.pointer (some ⟨b, 0, none⟩)]) hm
    (fun i s w _ hW q hl => fetch1_any (i := i) hW q hl) (fun w w' q k => k _ _ _ hne (by decide) q) (fun _ => Good.fetch1) (enters_of Try.func34 (by kernel_rfl) rfl) hW hX hl
  change Calls _ _ _ _ (fun e w' => e = .returned (.int .u32 ((fetchM m s).1 : Nat)) ∧ Wk W0 B b (fetchM m s).2 w' ∧ Keeps b _ w' ∧ (fetchM m s).1 < 256 ^ m) at HN
  replace HN := Lib.hid HN
  replace hK := Lib.hid hK
  clear h hX hW hl hm
  go_enter Try.func25, Try.ntmps25
  go_wp2_with fail
  refine HN.out.mono ?_
  rintro e w' ⟨rfl, h1, h2, h3⟩
  clear HN
  go_wp2_with fail
  go_ret
  exact ⟨rfl, h1, hK.out.trans h2, h3⟩
theorem offset_eq (s : Ws) : offsetM s = ((fetchM 1 s).1, if (fetchM 1 s).2.r.D % 256 = 0 then (fetchM 1 s).2 else (idleM (fetchM 1 s).2).2) := by
  unfold offsetM bindM getM pureM
  dsimp only
  by_cases h : (fetchM 1 s).2.r.D % 256 = 0
  · rw [if_pos h, if_neg (by simpa using h)]
  · rw [if_neg h, if_pos h]
theorem offset_any {W0 w : World} {B b : Nat} {s : Ws} (h : Wk W0 B b s w) (hl : s.l.length ≤ 98) :
    Calls Try.prog 19 #[.pointer (some ⟨b, 0, none⟩)] w fun e w' => e = .returned (.int .u32 ((offsetM s).1 : Nat)) ∧ Wk W0 B b (offsetM s).2 w' ∧ Keeps b w w' ∧ (offsetM s).1 < 256 := by
  have HF := fetch_any (m := 1) h (by decide) (by omega)
  have hc := (Good.fetch 1).cost s
  rw [offset_eq]
  generalize fetchM 1 s = p at *
  obtain ⟨o, s1⟩ := p
  dsimp only at *
  have hl1 : s1.l.length ≤ 100 := by omega
  replace HF := Lib.hid HF
  clear h hc hl
  by_cases hd : s1.r.D % 256 = 0
  · rw [if_pos hd]
    go_enter Try.func19, Try.ntmps19
    go_wp2_with fail
    refine HF.out.mono ?_
    rintro e w1 ⟨rfl, h1, h2, h3⟩
    clear HF
    obtain ⟨sa, c, lv, hc, _⟩ := h1.cells
    have c4 := hc.cell 4
    unfold wkC at c4
    simp only [List.getElem?_toArray, List.getElem?_cons_zero, List.getElem?_cons_succ] at c4
    have q := and8u16 s1.r.D h1.ok.D
    rw [hd] at q
    replace h3 := Lib.hid h3
    clear hc hl1 hd
    go_wp2_with fail
    go_ret
    exact ⟨rfl, h1, h2, by simpa using h3.out⟩
  · rw [if_neg hd]
    have HI := Lib.hid (fun W (hW : Wk W0 B b s1 W) => idle_any hW hl1)
    generalize (idleM s1).2 = s2 at *
    go_enter Try.func19, Try.ntmps19
    go_wp2_with fail
    refine HF.out.mono ?_
    rintro e w1 ⟨rfl, h1, h2, h3⟩
    clear HF
    obtain ⟨sa, c, lv, hc, _⟩ := h1.cells
    have c4 := hc.cell 4
    unfold wkC at c4
    simp only [List.getElem?_toArray, List.getElem?_cons_zero, List.getElem?_cons_succ] at c4
    have q := and8u16 s1.r.D h1.ok.D
    have t : (((s1.r.D % 256 : Nat) : Int) != 0) = true := by rw [bne_iff_ne]; omega
    generalize s1.r.D % 256 = dd at *
    replace h3 := Lib.hid h3
    clear hc hl1 hd
    go_wp2_with fail
    refine (HI.out _ h1).mono ?_
    rintro e w2 ⟨rfl, h4, h5⟩
    clear HI c4
    go_wp2_with fail
    go_ret
    exact ⟨rfl, h4, h2.trans h5, by simpa using h3.out⟩
theorem offsetBy_any {W0 w : World} {B b x : Nat} {s : Ws} (h : Wk W0 B b s w) (hl : s.l.length ≤ 97) (hx : x < 65536) :
    Calls Try.prog 20 #[.pointer (some ⟨b, 0, none⟩), .int .u16 (x : Nat)] w fun e w' => e = .returned (.int .u32 ((offsetByM x s).1 : Nat)) ∧ Wk W0 B b (offsetByM x s).2 w' ∧ Keeps b w w' ∧ (offsetByM x s).1 < 65792 := by
  have HF := offset_any h (by omega)
  have hc := Good.offset.cost s
  rw [show offsetByM x s = ((offsetM s).1 + x, (idleM (offsetM s).2).2) from rfl]
  generalize offsetM s = p at *
  obtain ⟨o, s1⟩ := p
  dsimp only at *
  have HI := Lib.hid (fun W (hW : Wk W0 B b s1 W) => idle_any hW (by omega))
  generalize (idleM s1).2 = s2 at *
  replace HF := Lib.hid HF
  clear h hc hl
  go_enter Try.func20, Try.ntmps20
  go_wp2_with fail
  refine HF.out.mono ?_
  rintro e w1 ⟨rfl, h1, h2, h3⟩
  clear HF
  go_wp2_with fail
  refine (HI.out _ h1).mono ?_
  rintro e w2 ⟨rfl, h4, h5⟩
  clear HI
  obtain ⟨z, hz⟩ : ∃ z, o + x = z := ⟨_, rfl⟩
  have hlt : z < 65792 := by omega
  have e0 : IntKind.u32.wrap (x : Int) = (x : Int) := by simp only [IntKind.wrap_u32]; omega
  have e1 : (o : Int) + (x : Int) = (z : Int) := by omega
  have e2 : (z : Int) % 4294967296 = (z : Int) := by omega
  replace hz := Lib.hid hz
  replace hlt := Lib.hid hlt
  clear h3 hx
  go_wp2_with fail
  go_ret
  have hz2 := hz.out
  subst hz2
  exact ⟨rfl, h4, h2.trans h5, hlt.out⟩
theorem stack_any {W0 w : World} {B b : Nat} {s : Ws} (h : Wk W0 B b s w) (hl : s.l.length ≤ 97) :
    Calls Try.prog 27 #[.pointer (some ⟨b, 0, none⟩)] w fun e w' => e = .returned (.int .u32 ((stackM s).1 : Nat)) ∧ Wk W0 B b (stackM s).2 w' ∧ Keeps b w w' ∧ (stackM s).1 < 65792 := by
  have HF := fetch_any (m := 1) h (by decide) (by omega)
  have hc := (Good.fetch 1).cost s
  rw [show stackM s = ((idleM (fetchM 1 s).2).2.r.S + (fetchM 1 s).1, (idleM (fetchM 1 s).2).2) from rfl]
  generalize fetchM 1 s = p at *
  obtain ⟨o, s1⟩ := p
  dsimp only at *
  have HI := Lib.hid (fun W (hW : Wk W0 B b s1 W) => idle_any hW (by omega))
  generalize (idleM s1).2 = s2 at *
  replace HF := Lib.hid HF
  clear h hc hl
  go_enter Try.func27, Try.ntmps27
  go_wp2_with fail
  refine HF.out.mono ?_
  rintro e w1 ⟨rfl, h1, h2, h3⟩
  clear HF
  go_wp2_with fail
  refine (HI.out _ h1).mono ?_
  rintro e w2 ⟨rfl, h4, h5⟩
  clear HI
  obtain ⟨sa, c, lv, hc, _⟩ := h4.cells
  have c3 := hc.cell 3
  unfold wkC at c3
  simp only [List.getElem?_toArray, List.getElem?_cons_zero, List.getElem?_cons_succ] at c3
  have hS := h4.ok.S
  have h3' : o < 256 := by simpa using h3
  obtain ⟨z, hz⟩ : ∃ z, s2.r.S + o = z := ⟨_, rfl⟩
  have hlt : z < 65792 := by omega
  have e0 : IntKind.u32.wrap (s2.r.S : Int) = (s2.r.S : Int) := by simp only [IntKind.wrap_u32]; omega
  have e1 : (s2.r.S : Int) + (o : Int) = (z : Int) := by omega
  have e2 : (z : Int) % 4294967296 = (z : Int) := by omega
  replace hz := Lib.hid hz
  replace hlt := Lib.hid hlt
  clear h3 h3' hS hc
  go_wp2_with fail
  go_ret
  have hz2 := hz.out
  subst hz2
  exact ⟨rfl, h4, h2.trans h5, hlt.out⟩
end Go.Proofs.Ytkbieadebfpjdaa
