/-
  The document's turn in memory: flags, stack, words.
-/
import Derived.Test.YtnacdaodjgdnnaaGreatXPlA
namespace Go.Proofs.YtnacdaodjgdnnaaGreat
open Go.RowKit Go.Shelf
set_option maxRecDepth 100000
set_option maxHeartbeats 1000000
set_option linter.unusedVariables false

def dtC (b : Nat) (cd : Cd5) (wide : Bool) (af : Nat) : Array Value := #[.pointer (some ⟨b, 0, none⟩), .int .u8 cd.1, .string cd.2.1, .int .u8 cd.2.2.1, .int .u8 cd.2.2.2.1, .int .u8 cd.2.2.2.2, .bool wide, .int .u8 af]
/-- A turn of the document's in block t, with its plan in block b. -/
structure Dk (W0 : World) (B b t : Nat) (cd : Cd5) (wide : Bool) (s : Ds) (w : World) : Prop where
  pk : Pk W0 B b s w
  tn : Whole w t 112 (dtC b cd wide s.af)
  le : B ≤ t
section
variable {W0 w w' : World} {B b t : Nat} {cd : Cd5} {wide : Bool} {s s' : Ds}
theorem Dk.ne (h : Dk W0 B b t cd wide s w) : t ≠ b := fun e => by
  obtain ⟨_, _, _, hc, _⟩ := h.pk.cells
  have h1 := h.tn
  subst e
  have := (show w.heap[t]? = _ from h1).symm.trans hc
  injection this with this
  injection this with h1 h2
  cases h2
theorem Dk.of (h : Dk W0 B b t cd wide s w) (p : Pk W0 B b s' w') (k : Keeps b w w') (e : s'.af = s.af) : Dk W0 B b t cd wide s' w' :=
  ⟨p, by rw [e]; exact k _ _ _ h.ne (by decide) h.tn, h.le⟩
theorem Dk.below (h : Dk W0 B b t cd wide s w) (hb : Below w.heap.size w w') : Dk W0 B b t cd wide s w' := h.of (h.pk.below hb) (Keeps.below hb) rfl
theorem Dk.drew (h : Dk W0 B b t cd wide s w) : Dk W0 B b t cd wide s w.drew := h.below (Below.drew (Below.refl _ _))
theorem Dk.reg (h : Dk W0 B b t cd wide s w) (i : Nat) (v : Value) (r' : Rg) (hok : r'.Ok) (he : ∀ sv lv, (plC s.r sv lv s.c).setIfInBounds i v = plC r' sv lv s.c) :
    Dk W0 B b t cd wide { s with r := r' } (w.setCell ⟨b, i, none⟩ v) := h.of (h.pk.reg i v r' hok he) ((Keeps.refl b w).set i v) rfl
theorem Dk.ptr (h : Dk W0 B b t cd wide s w) : w.cell? ⟨t, 0, none⟩ = some (.pointer (some ⟨b, 0, none⟩)) := by rw [h.tn.cell]; rfl
end
theorem dread_any {W0 w : World} {B b t a : Nat} {cd : Cd5} {wide : Bool} {s : Ds} (h : Dk W0 B b t cd wide s w) (hl : s.l.length ≤ 100) :
    Calls Tryz.prog 133 #[.pointer (some ⟨b, 0, none⟩), .int .u32 (a : Nat)] w fun e w' => e = .returned (.int .u32 ((readD a s).1 : Nat)) ∧ Dk W0 B b t cd wide (readD a s).2 w' ∧ (readD a s).1 < 256 :=
  (pread_any h.pk hl).mono fun e w' ⟨h1, h2, h3, h4⟩ => ⟨h1, h.of h2 h3 rfl, h4⟩
theorem dwrite_any {W0 w : World} {B b t a v : Nat} {cd : Cd5} {wide : Bool} {s : Ds} (h : Dk W0 B b t cd wide s w) (hl : s.l.length ≤ 100) :
    Calls Tryz.prog 219 #[.pointer (some ⟨b, 0, none⟩), .int .u32 (a : Nat), .int .u32 (v : Nat)] w fun e w' => e = .returned (.tuple #[]) ∧ Dk W0 B b t cd wide (s.put 2 (a % 16777216) (v % 256)) w' :=
  (pwrite_any h.pk hl).mono fun e w' ⟨h1, h2, h3⟩ => ⟨h1, h.of h2 h3 rfl⟩
theorem idlesD_af : ∀ (n : Nat) (s : Ds), (wd (idlesW n) s).2.af = s.af
  | 0, s => rfl
  | n + 1, s => by
    rw [idlesD_succ]
    exact idlesD_af n s
theorem didle_any {W0 w : World} {B b t n : Nat} {cd : Cd5} {wide : Bool} {s : Ds} (h : Dk W0 B b t cd wide s w) (hl : s.l.length + n ≤ 100) :
    Calls Tryz.prog 71 #[.pointer (some ⟨b, 0, none⟩), .int .i64 (n : Nat)] w fun e w' => e = .returned (.tuple #[]) ∧ Dk W0 B b t cd wide (wd (idlesW n) s).2 w' :=
  (pidle_any h.pk hl).mono fun e w' ⟨h1, h2, h3⟩ => ⟨h1, h.of h2 h3 (idlesD_af _ _)⟩
theorem dflag_any {W0 w : World} {B b t f : Nat} {cd : Cd5} {wide : Bool} {s : Ds} (h : Dk W0 B b t cd wide s w) (hf : 0 < f) (hf2 : f < 256) :
    Calls Tryz.prog 74 #[.pointer (some ⟨t, 0, none⟩), .int .u8 (f : Nat)] w fun e w' => e = .returned (.bool (s.r.P / f % 2 == 1)) ∧ w = w' := by
  have c0 := h.ptr
  have c8 := h.pk.look.2.1.2.2.2.1
  have hP := h.pk.ok.P
  have hf0 : (f : Int) ≠ 0 := by omega
  have e0 : (s.r.P : Int) / (f : Int) = ((s.r.P / f : Nat) : Int) := (Int.natCast_ediv _ _).symm
  have hd : s.r.P / f ≤ s.r.P := Nat.div_le_self _ _
  clear h
  generalize s.r.P / f = q at *
  have e2 : (q : Int) % 256 = (q : Int) := by omega
  have e3 : IntKind.u8.wrap (q : Int) = (q : Int) := by simp only [IntKind.wrap_u8]; omega
  have e1 : ((q : Int) % 2 == 1) = (q % 2 == 1) := by
    rcases (show q % 2 = 0 ∨ q % 2 = 1 by omega) with h | h
    · rw [h, show (q : Int) % 2 = 0 by omega]; rfl
    · rw [h, show (q : Int) % 2 = 1 by omega]; rfl
  generalize (q % 2 == 1) = F at *
  generalize s.r.P = P at *
  clear hd hP
  go_enter Tryz.func74, Tryz.ntmps74
  go_wp2_with fail
  go_ret
  exact ⟨rfl, rfl⟩
/-- A flag made 1 or 0: by taking away and putting to. -/
theorem set_flag : ∀ P, P < 256 → ∀ f, (f = 1 ∨ f = 2 ∨ f = 4 ∨ f = 8 ∨ f = 16 ∨ f = 32 ∨ f = 64 ∨ f = 128) → ∀ on : Bool, (if P / f % 2 == 1 then P - f else P) + (if on then f else 0) = flagP P f on ∧ ((P / f % 2 == 1) = true → f ≤ P) := by
  have h : ∀ P, P < 256 → ∀ f, f ∈ [1, 2, 4, 8, 16, 32, 64, 128] → ∀ on : Bool, (if P / f % 2 == 1 then P - f else P) + (if on then f else 0) = flagP P f on ∧ ((P / f % 2 == 1) = true → f ≤ P) := by decide +kernel
  intro P hP f hf on
  exact h P hP f (by simpa using hf) on
def Rg.p (r : Rg) (x : Nat) : Rg := ⟨r.A, r.X, r.Y, r.S, r.D, r.PC, r.B, r.K, x, r.E⟩
def Ds.rr (s : Ds) (r : Rg) : Ds := ⟨r, s.n, s.f, s.l, s.c, s.af⟩
theorem Dk.setP {W0 w : World} {B b t : Nat} {cd : Cd5} {wide : Bool} {s : Ds} {y : Nat} (h : Dk W0 B b t cd wide (s.rr (s.r.p y)) w) (x : Nat) (hx : x < 256) : Dk W0 B b t cd wide (s.rr (s.r.p x)) (w.setCell ⟨b, 8, none⟩ (.int .u8 (x : Nat))) := by
  have ok := h.pk.ok
  exact h.reg 8 (.int .u8 (x : Nat)) (s.r.p x) ⟨ok.A, ok.X, ok.Y, ok.S, ok.D, ok.PC, ok.B, ok.K, hx⟩ (fun _ _ => rfl)
theorem dset_any {W0 w : World} {B b t f : Nat} {cd : Cd5} {wide on : Bool} {s : Ds} (h : Dk W0 B b t cd wide s w) (hf : f = 1 ∨ f = 2 ∨ f = 4 ∨ f = 8 ∨ f = 16 ∨ f = 32 ∨ f = 64 ∨ f = 128) :
    Calls Tryz.prog 72 #[.pointer (some ⟨t, 0, none⟩), .int .u8 (f : Nat), .bool on] w fun e w' => e = .returned (.tuple #[]) ∧ Dk W0 B b t cd wide (s.rr (s.r.p (flagP s.r.P f on))) w' := by
  have hP := h.pk.ok.P
  have hf0 : 0 < f := by omega
  have hf2 : f < 256 := by omega
  have HF := dflag_any h hf0 hf2
  obtain ⟨hv, hle⟩ := set_flag s.r.P hP f hf on
  have hlt := flagP_lt s.r.P f on hP hf2
  generalize flagP s.r.P f on = v at *
  have hfacts := fun (W : World) (y : Nat) (hW : Dk W0 B b t cd wide (s.rr (s.r.p y)) W) => (show W.cell? ⟨t, 0, none⟩ = some (.pointer (some ⟨b, 0, none⟩)) ∧ W.cell? ⟨b, 8, none⟩ = some (.int .u8 (y : Nat)) ∧ W.frozen? ⟨b, 8, none⟩ = false from ⟨hW.ptr, hW.pk.look.2.1.2.2.2.1, hW.pk.look.2.2 8⟩)
  have h0 : Dk W0 B b t cd wide (s.rr (s.r.p s.r.P)) w := h
  replace hfacts := Lib.hid hfacts
  clear h hf hf0
  generalize (s.r.P / f % 2 == 1) = F at *
  generalize s.r.P = P at *
  replace HF := Lib.hid HF
  cases F with
  | true =>
    rw [if_pos rfl] at hv
    have hle2 := hle rfl
    obtain ⟨q, hq⟩ : ∃ q, P - f = q := ⟨_, rfl⟩
    rw [hq] at hv
    have hql : q < 256 := by omega
    have e1 : (P : Int) - (f : Int) = (q : Int) := by omega
    have e2 : IntKind.u8.wrap (q : Int) = (q : Int) := by simp only [IntKind.wrap_u8]; omega
    have hd := Lib.hid h0.drew
    obtain ⟨d0, d8, df⟩ := hfacts.out _ _ h0
    clear hle hle2 h0 hq
    go_enter Tryz.func72, Tryz.ntmps72
    go_wp2_with fail
    refine HF.out.mono ?_
    rintro e W ⟨rfl, rfl⟩
    go_upto_region 1 with (fail)
    go_still_tail 17, (by kernel_rfl)
    show wpList _ _ _ _ _ w.drew
    generalize w.drew = W1 at *
    have h1 := Lib.hid (hd.out.setP q hql)
    obtain ⟨g0, g8, gf⟩ := hfacts.out _ _ hd.out
    clear hd d0 d8 df e1 HF
    cases on with
    | false =>
      have hqv : q = v := hv
      subst hqv
      clear hv hfacts
      go_wp2_with fail
      go_end0
      exact ⟨rfl, h1.out⟩
    | true =>
      have hqv : q + f = v := hv
      have e3 : (q : Int) + (f : Int) = (v : Int) := by omega
      have e4 : IntKind.u8.wrap (v : Int) = (v : Int) := by simp only [IntKind.wrap_u8]; omega
      clear hv hqv
      go_upto_region 3 with (fail)
      generalize W1.setCell ⟨b, 8, none⟩ (.int .u8 (q : Nat)) = W2 at *
      obtain ⟨k0, k8, kf⟩ := hfacts.out _ _ h1.out
      have h2 := Lib.hid (h1.out.drew.setP v hlt)
      obtain ⟨m0, m8, mf⟩ := hfacts.out _ _ h1.out.drew
      clear h1 hfacts g0 g8 gf
      go_still_tail 17, (by kernel_rfl)
      show wpList _ _ _ _ _ W2.drew
      generalize W2.drew = W3 at *
      go_wp2_with fail
      go_end0
      exact ⟨rfl, h2.out⟩
  | false =>
    rw [if_neg (by decide)] at hv
    clear hle
    cases on with
    | false =>
      have hqv : P = v := hv
      subst hqv
      replace h0 := Lib.hid h0
      clear hv hfacts
      go_enter Tryz.func72, Tryz.ntmps72
      go_wp2_with fail
      refine HF.out.mono ?_
      rintro e W ⟨rfl, rfl⟩
      go_wp2_with fail
      go_end0
      exact ⟨rfl, h0.out⟩
    | true =>
      have hqv : P + f = v := hv
      have e3 : (P : Int) + (f : Int) = (v : Int) := by omega
      have e4 : IntKind.u8.wrap (v : Int) = (v : Int) := by simp only [IntKind.wrap_u8]; omega
      obtain ⟨k0, k8, kf⟩ := hfacts.out _ _ h0
      have h2 := Lib.hid (h0.drew.setP v hlt)
      obtain ⟨m0, m8, mf⟩ := hfacts.out _ _ h0.drew
      clear hv hqv h0 hfacts
      go_enter Tryz.func72, Tryz.ntmps72
      go_wp2_with fail
      refine HF.out.mono ?_
      rintro e W ⟨rfl, rfl⟩
      go_upto_region 3 with (fail)
      go_still_tail 17, (by kernel_rfl)
      show wpList _ _ _ _ _ w.drew
      generalize w.drew = W3 at *
      clear HF
      go_wp2_with fail
      go_end0
      exact ⟨rfl, h2.out⟩
end Go.Proofs.YtnacdaodjgdnnaaGreat
namespace Go.Proofs.YtnacdaodjgdnnaaGreat
open Go.RowKit Go.Shelf
set_option maxRecDepth 100000
set_option maxHeartbeats 1000000
set_option linter.unusedVariables false

def Rg.s (r : Rg) (x : Nat) : Rg := ⟨r.A, r.X, r.Y, x, r.D, r.PC, r.B, r.K, r.P, r.E⟩
def moveW (d : Nat) : Wp Unit := setW fun r => { r with S := stackF r.S d r.E }
theorem Is.move (d : Nat) : Is (moveX d) (moveW d) := Is.set _
def pushW (v : Nat) : Wp Unit := bindW getW fun r => bindW (writeAtW 0 r.S v) fun _ => moveW 65535
theorem Is.push (v : Nat) : Is (pushX v) (pushW v) := Is.bind Is.get fun r => Is.bind (Is.writeAt _ _ _) fun _ => Is.move _
theorem Fine.push (v : Nat) : Fine (pushW v) := Fine.bind Fine.get fun r => Fine.bind (Fine.writeAt _ _ _) fun _ => Fine.set _
theorem pushD (v : Nat) (s : Ds) : (wd (pushW v) s).2 = (s.put 2 (0 * 65536 + s.r.S % 65536) v).rr (s.r.s (stackF s.r.S 65535 s.r.E)) := by
  unfold pushW moveW writeAtW
  rw [wd_bind, wd_get, wd_bind, wd_put, wd_set]
  rfl
theorem Dk.setS {W0 w : World} {B b t : Nat} {cd : Cd5} {wide : Bool} {s : Ds} {y : Nat} (h : Dk W0 B b t cd wide (s.rr (s.r.s y)) w) (x : Nat) (hx : x < 65536) : Dk W0 B b t cd wide (s.rr (s.r.s x)) (w.setCell ⟨b, 3, none⟩ (.int .u16 (x : Nat))) := by
  have ok := h.pk.ok
  exact h.reg 3 (.int .u16 (x : Nat)) (s.r.s x) ⟨ok.A, ok.X, ok.Y, hx, ok.D, ok.PC, ok.B, ok.K, ok.P⟩ (fun _ _ => rfl)
theorem dpush_any {W0 w : World} {B b t v : Nat} {cd : Cd5} {wide : Bool} {s : Ds} (h : Dk W0 B b t cd wide s w) (hl : s.l.length ≤ 100) (hv : v < 256) :
    Calls Tryz.prog 151 #[.pointer (some ⟨t, 0, none⟩), .int .u16 (v : Nat)] w fun e w' => e = .returned (.tuple #[]) ∧ Dk W0 B b t cd wide (wd (pushW v) s).2 w' := by
  have ok := h.pk.ok
  have hS := ok.S
  have HW := fun (W : World) (hW : Dk W0 B b t cd wide (s.rr (s.r.s s.r.S)) W) => dwrite_any (s := s) (a := s.r.S) (v := v) hW hl
  rw [pushD]
  rw [Nat.mod_eq_of_lt hv, Nat.mod_eq_of_lt (show s.r.S < 16777216 by omega)] at HW
  rw [show 0 * 65536 + s.r.S % 65536 = s.r.S by omega]
  have hfacts := fun (W : World) (y : Nat) (q : Ds) (hW : Dk W0 B b t cd wide (q.rr (s.r.s y)) W) => (show W.cell? ⟨t, 0, none⟩ = some (.pointer (some ⟨b, 0, none⟩)) ∧ W.cell? ⟨b, 3, none⟩ = some (.int .u16 (y : Nat)) ∧ W.cell? ⟨b, 9, none⟩ = some (.bool s.r.E) ∧ W.frozen? ⟨b, 3, none⟩ = false from ⟨hW.ptr, hW.pk.look.1.2.2.2.1, hW.pk.look.2.1.2.2.2.2, hW.pk.look.2.2 3⟩)
  have hstep := fun (W : World) (hW : Dk W0 B b t cd wide (s.put 2 s.r.S v) W) => (show Dk W0 B b t cd wide ((s.put 2 s.r.S v).rr (s.r.s s.r.S)) W from hW)
  have hset := fun (W : World) (y x : Nat) (hx : x < 65536) (hW : Dk W0 B b t cd wide ((s.put 2 s.r.S v).rr (s.r.s y)) W) => (show Dk W0 B b t cd wide ((s.put 2 s.r.S v).rr (s.r.s x)) (W.setCell ⟨b, 3, none⟩ (.int .u16 (x : Nat))) from Dk.setS (s := s.put 2 s.r.S v) hW x hx)
  have h0 : Dk W0 B b t cd wide (s.rr (s.r.s s.r.S)) w.drew := h.drew
  obtain ⟨c0, c3, c9, cf⟩ := hfacts w s.r.S s h
  obtain ⟨x, hx⟩ : ∃ x, (s.r.S + 65535) % 65536 = x := ⟨_, rfl⟩
  have hxl : x < 65536 := by omega
  have e1 : IntKind.u16.wrap ((s.r.S : Int) - 1) = (x : Int) := by rw [IntKind.wrap_u16]; omega
  have e2 : IntKind.u32.wrap (s.r.S : Int) = (s.r.S : Int) := by simp only [IntKind.wrap_u32]; omega
  have e3 : IntKind.u32.wrap (v : Int) = (v : Int) := by simp only [IntKind.wrap_u32]; omega
  have hst : stackF s.r.S 65535 s.r.E = if s.r.E then 256 + x % 256 else x := by unfold stackF; rw [hx]
  rw [hst]
  obtain ⟨R, hR⟩ : ∃ R, (if s.r.E = true then 256 + x % 256 else x) = R := ⟨_, rfl⟩
  rw [hR]
  replace HW := Lib.hid HW
  replace hfacts := Lib.hid hfacts
  replace hstep := Lib.hid hstep
  replace hset := Lib.hid hset
  replace h0 := Lib.hid h0
  clear h ok hl hst hx hS
  generalize s.put 2 s.r.S v = q at *
  generalize s.r.S = S at *
  generalize s.r.E = E at *
  go_enter Tryz.func151, Tryz.ntmps151
  go_upto_region 1 with (fail)
  go_still_tail 11, (by kernel_rfl)
  show wpList _ _ _ _ _ w.drew
  obtain ⟨d0, d3, d9, df⟩ := hfacts.out _ _ _ h0.out
  generalize w.drew = W1 at *
  clear c0 c3 c9 cf
  go_wp2_with fail
  refine (HW.out _ h0.out).mono ?_
  rintro e W2 ⟨rfl, h1⟩
  have h2 := hstep.out _ h1
  obtain ⟨g0, g3, g9, gf⟩ := hfacts.out _ _ _ h2
  have h3 := hset.out _ _ x hxl h2
  clear HW h0 h1 d0 d3 d9 df hstep
  cases E with
  | false =>
    rw [if_neg (by decide)] at hR
    subst hR
    replace h3 := Lib.hid h3
    clear hfacts hset h2
    go_wp2_with fail
    go_end0
    exact ⟨rfl, h3.out⟩
  | true =>
    rw [if_pos rfl] at hR
    obtain ⟨k0, k3, k9, kf⟩ := hfacts.out _ _ _ h3
    obtain ⟨z, hz⟩ : ∃ z, 256 + x % 256 = z := ⟨_, rfl⟩
    have hzl : z < 65536 := by omega
    have hzR : z = R := by rw [← hz, hR]
    subst hzR
    clear hR
    have h4 := Lib.hid (hset.out _ _ z hzl h3)
    have e4 : (x : Int) % 256 + 256 = (z : Int) := by omega
    have e5 : 256 + (x : Int) % 256 = (z : Int) := by omega
    have e6 : IntKind.u16.wrap (256 + (x : Int) % 256) = (z : Int) := by rw [IntKind.wrap_u16]; omega
    clear hfacts hset h2 h3 hz
    go_wp2_with fail
    go_end0
    exact ⟨rfl, h4.out⟩
end Go.Proofs.YtnacdaodjgdnnaaGreat
namespace Go.Proofs.YtnacdaodjgdnnaaGreat
open Go.RowKit Go.Shelf
set_option maxRecDepth 100000
set_option maxHeartbeats 1000000
set_option linter.unusedVariables false

theorem pushD_len (v : Nat) (s : Ds) : (wd (pushW v) s).2.l.length = s.l.length + 1 := by
  rw [pushD]
  show (s.l ++ [_]).length = _
  simp
def push2W (v : Nat) : Wp Unit := bindW (pushW (v / 256)) fun _ => pushW (v % 256)
theorem Is.push2 (v : Nat) : Is (pushWordX v) (push2W v) := Is.bind (Is.push _) fun _ => Is.push _
theorem Fine.push2 (v : Nat) : Fine (push2W v) := Fine.bind (Fine.push _) fun _ => Fine.push _
theorem push2D (v : Nat) (s : Ds) : (wd (push2W v) s).2 = (wd (pushW (v % 256)) (wd (pushW (v / 256)) s).2).2 := by
  unfold push2W
  rw [wd_bind]
theorem push2D_len (v : Nat) (s : Ds) : (wd (push2W v) s).2.l.length = s.l.length + 2 := by
  rw [push2D, pushD_len, pushD_len]
theorem dpush2_any {W0 w : World} {B b t v : Nat} {cd : Cd5} {wide : Bool} {s : Ds} (h : Dk W0 B b t cd wide s w) (hl : s.l.length ≤ 98) (hv : v < 65536) :
    Calls Tryz.prog 152 #[.pointer (some ⟨t, 0, none⟩), .int .u16 (v : Nat)] w fun e w' => e = .returned (.tuple #[]) ∧ Dk W0 B b t cd wide (wd (push2W v) s).2 w' := by
  have H1 := dpush_any (v := v / 256) h (by omega) (by omega)
  have H2 := fun (W : World) (hW : Dk W0 B b t cd wide (wd (pushW (v / 256)) s).2 W) => dpush_any (v := v % 256) hW (by have := pushD_len (v / 256) s; omega) (by omega)
  rw [push2D]
  generalize (wd (pushW (v / 256)) s).2 = s1 at *
  generalize (wd (pushW (v % 256)) s1).2 = s2 at *
  have e1 : (v : Int) / 256 % 65536 = ((v / 256 : Nat) : Int) := by omega
  have e2 : (v : Int) % 256 = ((v % 256 : Nat) : Int) := by omega
  have e3 : (v : Int) / 256 = ((v / 256 : Nat) : Int) := by omega
  have e4 : IntKind.u16.wrap ((v / 256 : Nat) : Int) = ((v / 256 : Nat) : Int) := by rw [IntKind.wrap_u16]; omega
  have e5 : ((v / 256 : Nat) : Int) % 65536 = ((v / 256 : Nat) : Int) := by omega
  replace H1 := Lib.hid H1
  replace H2 := Lib.hid H2
  clear h hl
  generalize v / 256 = x at *
  generalize v % 256 = y at *
  go_enter Tryz.func152, Tryz.ntmps152
  go_wp2_with fail
  refine H1.out.mono ?_
  rintro e W1 ⟨rfl, h1⟩
  go_wp2_with fail
  refine (H2.out _ h1).mono ?_
  rintro e W2 ⟨rfl, h2⟩
  go_wp2_with fail
  go_end0
  exact ⟨rfl, h2⟩
theorem readAtD (bk n : Nat) (s : Ds) : wd (readAtW bk n 2) s = ((readD (bk * 65536 + n % 65536) s).1 + (readD (bk * 65536 + (n + 1) % 65536) (readD (bk * 65536 + n % 65536) s).2).1 * 256, (readD (bk * 65536 + (n + 1) % 65536) (readD (bk * 65536 + n % 65536) s).2).2) := by
  have e : readAtW bk n 2 = bindW (bindW (pureW 0) fun m => bindW (at1W bk n 0) fun v => pureW (m + v * 256 ^ 0)) fun m => bindW (at1W bk n 1) fun v => pureW (m + v * 256 ^ 1) := rfl
  rw [e, wd_bind, wd_bind, wd_bind, wd_bind]
  unfold at1W
  rw [wd_read, wd_read]
  simp only [wd_pure, Nat.add_zero, Nat.pow_zero, Nat.mul_one, Nat.zero_add, Nat.pow_one]
theorem readD_len (a : Nat) (s : Ds) : (readD a s).2.l.length = s.l.length + 1 := by
  show (s.l ++ [_]).length = _
  simp
theorem dword_any {W0 w : World} {B b t bk n : Nat} {cd : Cd5} {wide : Bool} {s : Ds} (h : Dk W0 B b t cd wide s w) (hl : s.l.length ≤ 98) (hb : bk < 256) (hn : n < 100000000) :
    Calls Tryz.prog 73 #[.pointer (some ⟨t, 0, none⟩), .int .u8 (bk : Nat), .int .u32 (n : Nat)] w fun e w' => e = .returned (.int .u16 ((wd (readAtW bk n 2) s).1 : Nat)) ∧ Dk W0 B b t cd wide (wd (readAtW bk n 2) s).2 w' ∧ (wd (readAtW bk n 2) s).1 < 65536 := by
  rw [readAtD]
  obtain ⟨a, ha⟩ : ∃ a, bk * 65536 + n % 65536 = a := ⟨_, rfl⟩
  obtain ⟨a', ha'⟩ : ∃ a', bk * 65536 + (n + 1) % 65536 = a' := ⟨_, rfl⟩
  rw [ha, ha']
  have H1 := dread_any (a := a) h (by omega)
  have H2 := fun (W : World) (hW : Dk W0 B b t cd wide (readD a s).2 W) => dread_any (a := a') hW (by have := readD_len a s; omega)
  have c0 := h.ptr
  have hp := fun (W : World) (q : Ds) (hW : Dk W0 B b t cd wide q W) => hW.ptr
  generalize readD a s = p at *
  obtain ⟨x, s1⟩ := p
  dsimp only at *
  generalize readD a' s1 = p at *
  obtain ⟨y, s2⟩ := p
  dsimp only at *
  have e1 : (bk : Int) * 65536 % 4294967296 = ((bk * 65536 : Nat) : Int) := by omega
  have e1' : IntKind.u32.wrap ((bk : Int) * 65536) = ((bk * 65536 : Nat) : Int) := by simp only [IntKind.wrap_u32]; omega
  have e0 : IntKind.u32.wrap (bk : Int) = (bk : Int) := by simp only [IntKind.wrap_u32]; omega
  have e2 : (n : Int) % 65536 = ((n % 65536 : Nat) : Int) := by omega
  have e3 : IntKind.u32.wrap (((bk * 65536 : Nat) : Int) + ((n % 65536 : Nat) : Int)) = (a : Int) := by simp only [IntKind.wrap_u32]; omega
  have e4 : IntKind.u32.wrap ((n : Int) + 1) = ((n + 1 : Nat) : Int) := by simp only [IntKind.wrap_u32]; omega
  have e5 : ((n + 1 : Nat) : Int) % 65536 = (((n + 1) % 65536 : Nat) : Int) := by omega
  have e6 : IntKind.u32.wrap (((bk * 65536 : Nat) : Int) + (((n + 1) % 65536 : Nat) : Int)) = (a' : Int) := by simp only [IntKind.wrap_u32]; omega
  replace H1 := Lib.hid H1
  replace H2 := Lib.hid H2
  replace hp := Lib.hid hp
  clear h hl ha ha'
  generalize bk * 65536 = bb at *
  generalize n % 65536 = n1 at *
  generalize (n + 1) % 65536 = n2 at *
  generalize n + 1 = n3 at *
  clear hb hn
  go_enter Tryz.func73, Tryz.ntmps73
  go_wp2_with fail
  refine H1.out.mono ?_
  rintro e W1 ⟨rfl, h1, hx⟩
  have d0 := hp.out _ _ h1
  clear c0 H1
  go_wp2_with fail
  refine (H2.out _ h1).mono ?_
  rintro e W2 ⟨rfl, h2, hy⟩
  have f1 : IntKind.u32.wrap (256 * (y : Int)) = ((256 * y : Nat) : Int) := by simp only [IntKind.wrap_u32]; omega
  have f2 : IntKind.u32.wrap ((x : Int) + ((256 * y : Nat) : Int)) = ((x + 256 * y : Nat) : Int) := by simp only [IntKind.wrap_u32]; omega
  have f3 : IntKind.u16.wrap ((x + 256 * y : Nat) : Int) = ((x + y * 256 : Nat) : Int) := by rw [IntKind.wrap_u16]; omega
  have hlt : x + y * 256 < 65536 := by omega
  replace h2 := Lib.hid h2
  obtain ⟨z, hz⟩ : ∃ z, x + y * 256 = z := ⟨_, rfl⟩
  rw [hz] at f3 hlt
  replace hz := Lib.hid hz
  generalize x + 256 * y = z1 at *
  generalize 256 * y = z2 at *
  clear h1 hx hy d0 H2
  go_wp2_with fail
  go_ret
  exact ⟨by rw [hz.out]; rfl, h2.out, by rw [hz.out]; exact hlt⟩

/-- A register's setter. -/
def Rg.k (r : Rg) (x : Nat) : Rg := ⟨r.A, r.X, r.Y, r.S, r.D, r.PC, r.B, x, r.P, r.E⟩
def Rg.pc (r : Rg) (x : Nat) : Rg := ⟨r.A, r.X, r.Y, r.S, r.D, x, r.B, r.K, r.P, r.E⟩
theorem Dk.setK {W0 w : World} {B b t : Nat} {cd : Cd5} {wide : Bool} {s : Ds} (h : Dk W0 B b t cd wide s w) (x : Nat) (hx : x < 256) : Dk W0 B b t cd wide (s.rr (s.r.k x)) (w.setCell ⟨b, 7, none⟩ (.int .u8 (x : Nat))) := by
  have ok := h.pk.ok
  exact h.reg 7 (.int .u8 (x : Nat)) (s.r.k x) ⟨ok.A, ok.X, ok.Y, ok.S, ok.D, ok.PC, ok.B, hx, ok.P⟩ (fun _ _ => rfl)
theorem Dk.setPC {W0 w : World} {B b t : Nat} {cd : Cd5} {wide : Bool} {s : Ds} (h : Dk W0 B b t cd wide s w) (x : Nat) (hx : x < 65536) : Dk W0 B b t cd wide (s.rr (s.r.pc x)) (w.setCell ⟨b, 5, none⟩ (.int .u16 (x : Nat))) := by
  have ok := h.pk.ok
  exact h.reg 5 (.int .u16 (x : Nat)) (s.r.pc x) ⟨ok.A, ok.X, ok.Y, ok.S, ok.D, hx, ok.B, ok.K, ok.P⟩ (fun _ _ => rfl)
def bankW : Wp Unit := bindW getW fun r => if r.E then pureW () else pushW r.K
theorem Is.bank : Is bankX bankW := by
  have e : bankX = bindX getX fun r => if r.E then pureX () else pushX r.K := funext fun s => by
    unfold bankX bindX getX pureX
    dsimp only
    split <;> rfl
  rw [e]
  exact Is.bind Is.get fun r => Is.ite (Is.pure _) (Is.push _)
theorem Fine.bank : Fine bankW := Fine.bind Fine.get fun r => Fine.ite (Fine.pure _) (Fine.push _)
theorem bankD (s : Ds) : (wd bankW s).2 = if s.r.E then s else (wd (pushW s.r.K) s).2 := by
  unfold bankW
  rw [wd_bind, wd_get]
  dsimp only
  split <;> rfl
def flagW (f : Nat) (on : Bool) : Wp Unit := setW fun r => { r with P := flagP r.P f on }
theorem Is.flag (f : Nat) (on : Bool) : Is (flagX f on) (flagW f on) := Is.set _
def farW (a : Nat) : Wp Unit := setW fun r => { r with PC := a % 65536, K := a / 65536 % 256 }
theorem Is.far (a : Nat) : Is (farX a) (farW a) := Is.set _
def intoW (vec fl : Nat) : Wp Unit := bindW bankW fun _ => bindW getW fun r => bindW (push2W r.PC) fun _ => bindW (pushW fl) fun _ => bindW (flagW 4 true) fun _ => bindW (flagW 8 false) fun _ => bindW (readAtW 0 vec 2) farW
theorem Is.enter (vec fl : Nat) : Is (enterX vec fl) (intoW vec fl) := Is.bind Is.bank fun _ => Is.bind Is.get fun r => Is.bind (Is.push2 _) fun _ => Is.bind (Is.push _) fun _ => Is.bind (Is.flag _ _) fun _ => Is.bind (Is.flag _ _) fun _ => Is.bind (Is.readAt _ _ _) fun a => Is.far a
theorem Fine.enter (vec fl : Nat) : Fine (intoW vec fl) := Fine.bind Fine.bank fun _ => Fine.bind Fine.get fun r => Fine.bind (Fine.push2 _) fun _ => Fine.bind (Fine.push _) fun _ => Fine.bind (Fine.set _) fun _ => Fine.bind (Fine.set _) fun _ => Fine.bind (Fine.readAt _ _ _) fun a => Fine.set _
theorem intoD (vec fl : Nat) (s s1 s2 s3 : Ds) (h1 : (wd bankW s).2 = s1) (h2 : (wd (push2W s1.r.PC) s1).2 = s2) (h3 : (wd (pushW fl) s2).2 = s3) :
    (wd (intoW vec fl) s).2 = (wd (readAtW 0 vec 2) (s3.rr (s3.r.p (flagP (flagP s3.r.P 4 true) 8 false)))).2.rr (((wd (readAtW 0 vec 2) (s3.rr (s3.r.p (flagP (flagP s3.r.P 4 true) 8 false)))).2.r.pc ((wd (readAtW 0 vec 2) (s3.rr (s3.r.p (flagP (flagP s3.r.P 4 true) 8 false)))).1 % 65536)).k ((wd (readAtW 0 vec 2) (s3.rr (s3.r.p (flagP (flagP s3.r.P 4 true) 8 false)))).1 / 65536 % 256)) := by
  unfold intoW flagW farW
  rw [wd_bind, wd_bind, wd_get, h1]
  dsimp only
  rw [wd_bind, h2, wd_bind, h3, wd_bind, wd_set, wd_bind, wd_set, wd_bind, wd_set]
  rfl
theorem readAtD_rr (bk n : Nat) (s : Ds) (r : Rg) : wd (readAtW bk n 2) (s.rr r) = ((wd (readAtW bk n 2) s).1, (wd (readAtW bk n 2) s).2.rr r) := by
  rw [readAtD, readAtD]
  rfl
end Go.Proofs.YtnacdaodjgdnnaaGreat
namespace Go.Proofs.YtnacdaodjgdnnaaGreat
open Go.RowKit Go.Shelf
set_option maxRecDepth 100000
set_option maxHeartbeats 1000000
set_option linter.unusedVariables false

theorem readAtD_r (bk n : Nat) (s : Ds) : (wd (readAtW bk n 2) s).2.r = s.r := by rw [readAtD]; rfl
theorem bankD_len (s : Ds) : (wd bankW s).2.l.length ≤ s.l.length + 1 := by
  rw [bankD]
  split
  · omega
  · rw [pushD_len]; exact Nat.le_refl _
attribute [local irreducible] bankW push2W pushW readAtW
theorem dinto_any {W0 w : World} {B b t vec fl : Nat} {cd : Cd5} {wide : Bool} {s : Ds} (h : Dk W0 B b t cd wide s w) (hl : s.l.length ≤ 90) (hv : vec < 65536) (hfl : fl < 256) :
    Calls Tryz.prog 75 #[.pointer (some ⟨t, 0, none⟩), .int .u32 (vec : Nat), .int .u8 (fl : Nat)] w fun e w' => e = .returned (.tuple #[]) ∧ Dk W0 B b t cd wide (wd (intoW vec fl) s).2 w' := by
  have c0 := h.ptr
  have c9 := h.pk.look.2.1.2.2.2.2
  have c7 := h.pk.look.2.1.2.2.1
  have hK := h.pk.ok.K
  have lb := bankD_len s
  have hbk := bankD s
  have HB := dpush_any (v := s.r.K) h (by omega) hK
  obtain ⟨s1, h1⟩ : ∃ s1, (wd bankW s).2 = s1 := ⟨_, rfl⟩
  rw [h1] at lb hbk
  have H1 := fun (W : World) (hW : Dk W0 B b t cd wide s1 W) => dpush2_any (v := s1.r.PC) hW (by omega) hW.pk.ok.PC
  have hpc := fun (W : World) (hW : Dk W0 B b t cd wide s1 W) => hW.pk.look.2.1.1
  have l2 := push2D_len s1.r.PC s1
  obtain ⟨s2, h2⟩ : ∃ s2, (wd (push2W s1.r.PC) s1).2 = s2 := ⟨_, rfl⟩
  rw [h2] at H1 l2
  have H2 := fun (W : World) (hW : Dk W0 B b t cd wide s2 W) => dpush_any (v := fl) hW (by omega) hfl
  have l3 := pushD_len fl s2
  obtain ⟨s3, h3⟩ : ∃ s3, (wd (pushW fl) s2).2 = s3 := ⟨_, rfl⟩
  rw [h3] at H2 l3
  rw [intoD vec fl s s1 s2 s3 h1 h2 h3]
  have H3 := fun (W : World) (hW : Dk W0 B b t cd wide s3 W) => dset_any (f := 4) (on := true) hW (by decide)
  have H4 := fun (W : World) (hW : Dk W0 B b t cd wide (s3.rr (s3.r.p (flagP s3.r.P 4 true))) W) => (show Calls Tryz.prog 72 #[.pointer (some ⟨t, 0, none⟩), .int .u8 ((8 : Nat) : Int), .bool false] W fun e w' => e = .returned (.tuple #[]) ∧ Dk W0 B b t cd wide (s3.rr (s3.r.p (flagP (flagP s3.r.P 4 true) 8 false))) w' from dset_any (f := 8) (on := false) hW (by decide))
  have l4 : (s3.rr (s3.r.p (flagP (flagP s3.r.P 4 true) 8 false))).l.length = s3.l.length := rfl
  generalize s3.rr (s3.r.p (flagP (flagP s3.r.P 4 true) 8 false)) = s4 at *
  have hk4 := fun (W : World) (hW : Dk W0 B b t cd wide s4 W) => And.intro hW.pk.look.2.1.2.2.1 (And.intro (hW.pk.look.2.2 7) (hW.setK 0 (by decide)))
  have H5 := fun (W : World) (hW : Dk W0 B b t cd wide (s4.rr (s4.r.k 0)) W) => dword_any (bk := 0) (n := vec) hW (by show s4.l.length ≤ 98; omega) (by decide) (by omega)
  rw [readAtD_rr] at H5
  have hr := readAtD_r 0 vec s4
  generalize wd (readAtW 0 vec 2) s4 = p at *
  obtain ⟨v, s5⟩ := p
  dsimp only at *
  have hk5 := fun (W : World) (hv : v < 65536) (hW : Dk W0 B b t cd wide (s5.rr (s4.r.k 0)) W) => (show W.cell? ⟨b, 5, none⟩ = some (.int .u16 (s4.r.PC : Nat)) ∧ W.frozen? ⟨b, 5, none⟩ = false ∧ Dk W0 B b t cd wide (s5.rr ((s5.r.pc (v % 65536)).k (v / 65536 % 256))) (W.setCell ⟨b, 5, none⟩ (.int .u16 (v : Nat))) from
    ⟨hW.pk.look.2.1.1, hW.pk.look.2.2 5, by
      have h6 := hW.setPC v hv
      rw [hr, Nat.mod_eq_of_lt hv, Nat.div_eq_of_lt hv]
      exact h6⟩)
  generalize s5.rr ((s5.r.pc (v % 65536)).k (v / 65536 % 256)) = s6 at *
  have hp2 := fun (W : World) (q : Ds) (hW : Dk W0 B b t cd wide q W) => hW.ptr
  simp only [show ((0 : Nat) : Int) = 0 from rfl, show ((4 : Nat) : Int) = 4 from rfl, show ((8 : Nat) : Int) = 8 from rfl] at H3 H4 H5 hk4
  have efl : IntKind.u16.wrap (fl : Int) = (fl : Int) := by rw [IntKind.wrap_u16]; omega
  have eK : IntKind.u16.wrap (s.r.K : Int) = (s.r.K : Int) := by rw [IntKind.wrap_u16]; omega
  replace H1 := Lib.hid H1
  replace H2 := Lib.hid H2
  replace H3 := Lib.hid H3
  replace H4 := Lib.hid H4
  replace H5 := Lib.hid H5
  replace HB := Lib.hid HB
  replace hk4 := Lib.hid hk4
  replace hk5 := Lib.hid hk5
  replace hpc := Lib.hid hpc
  have hh := Lib.hid h
  clear h lb l2 l3 l4 h2 h3 hl hv hfl hr hK hp2
  generalize s3.rr (s3.r.p (flagP s3.r.P 4 true)) = s34 at *
  generalize s1.r.PC = PC at *
  have tail : ∀ (W1 : World), Dk W0 B b t cd wide s1 W1 → W1.cell? ⟨b, 5, none⟩ = some (.int .u16 (PC : Nat)) ∧ Hid (Dk W0 B b t cd wide s1 W1) := fun W1 hW => ⟨hpc.out W1 hW, Lib.hid hW⟩
  clear hpc
  replace tail := Lib.hid tail
  cases hE : s.r.E with
  | true =>
    rw [hE, if_pos rfl] at hbk
    rw [hE] at c9
    subst hbk
    obtain ⟨d5, hk1⟩ := tail.out w hh.out
    clear HB tail hh h1 hE
    generalize s1.r.K = K at *
    go_enter Tryz.func75, Tryz.ntmps75
    go_wp2_with fail
    refine (H1.out _ hk1.out).mono ?_
    rintro e W2 ⟨rfl, h2⟩
    replace h2 := Lib.hid h2
    clear H1 hk1 d5 c0 c7 c9
    go_wp2_with fail
    refine (H2.out _ h2.out).mono ?_
    rintro e W3 ⟨rfl, h3⟩
    replace h3 := Lib.hid h3
    clear H2 h2
    go_wp2_with fail
    refine (H3.out _ h3.out).mono ?_
    rintro e W4 ⟨rfl, h4⟩
    replace h4 := Lib.hid h4
    clear H3 h3
    go_wp2_with fail
    refine (H4.out _ h4.out).mono ?_
    rintro e W5 ⟨rfl, h5⟩
    obtain ⟨g7, gf, g8⟩ := hk4.out _ h5
    clear H4 h4 h5 hk4
    replace g8 := Lib.hid g8
    go_upto_region 8 with (fail)
    generalize W5.setCell ⟨b, 7, none⟩ (.int .u8 0) = W6 at *
    clear g7 gf
    go_wp2_with fail
    refine (H5.out _ g8.out).mono ?_
    rintro e W7 ⟨rfl, h7, hv⟩
    obtain ⟨k5, kf, k6⟩ := hk5.out _ hv h7
    replace k6 := Lib.hid k6
    clear H5 g8 h7 hk5
    go_wp2_with fail
    go_end0
    exact ⟨rfl, k6.out⟩
  | false =>
    rw [hE, if_neg (by decide)] at hbk
    rw [hE] at c9
    rw [← hbk] at HB
    clear hh h1 hE hbk
    generalize s.r.K = K at *
    go_enter Tryz.func75, Tryz.ntmps75
    go_wp2_with fail
    refine HB.out.mono ?_
    rintro e W1 ⟨rfl, h1⟩
    obtain ⟨d5, hk1⟩ := tail.out W1 h1
    clear h1 tail HB c0 c7 c9
    go_wp2_with fail
    refine (H1.out _ hk1.out).mono ?_
    rintro e W2 ⟨rfl, h2⟩
    replace h2 := Lib.hid h2
    clear H1 hk1 d5
    go_wp2_with fail
    refine (H2.out _ h2.out).mono ?_
    rintro e W3 ⟨rfl, h3⟩
    replace h3 := Lib.hid h3
    clear H2 h2
    go_wp2_with fail
    refine (H3.out _ h3.out).mono ?_
    rintro e W4 ⟨rfl, h4⟩
    replace h4 := Lib.hid h4
    clear H3 h3
    go_wp2_with fail
    refine (H4.out _ h4.out).mono ?_
    rintro e W5 ⟨rfl, h5⟩
    obtain ⟨g7, gf, g8⟩ := hk4.out _ h5
    clear H4 h4 h5 hk4
    replace g8 := Lib.hid g8
    go_upto_region 8 with (fail)
    generalize W5.setCell ⟨b, 7, none⟩ (.int .u8 0) = W6 at *
    clear g7 gf
    go_wp2_with fail
    refine (H5.out _ g8.out).mono ?_
    rintro e W7 ⟨rfl, h7, hv⟩
    obtain ⟨k5, kf, k6⟩ := hk5.out _ hv h7
    replace k6 := Lib.hid k6
    clear H5 g8 h7 hk5
    go_wp2_with fail
    go_end0
    exact ⟨rfl, k6.out⟩
end Go.Proofs.YtnacdaodjgdnnaaGreat
