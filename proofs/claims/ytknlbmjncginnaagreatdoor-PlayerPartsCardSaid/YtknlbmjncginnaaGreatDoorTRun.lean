/-
  An instruction carried out, given what its name does.
-/
import Derived.Test.YtknlbmjncginnaaGreatDoorPJ
import Derived.Deep.RegionWith
namespace Go.Proofs.YtknlbmjncginnaaGreatDoor
open Go.RowKit Go.Shelf
set_option maxRecDepth 100000
set_option maxHeartbeats 2000000
set_option linter.unusedVariables false

/-- How many cycles pass in which nothing is touched. -/
def idleN (c : Nat) : Nat := cyF c - szF c - toF (nmF c).toList (fmL c)
def runM (A : Nat → Nat → Nat → M Unit) : M Unit := M.bind (M.ask fun r => r.H) fun hh => if hh = true then M.idles 1 else M.bind fetchM fun c => M.bind (opsM (fmL c)) fun p => M.bind (M.idles (idleN c)) fun _ => A c p.1 p.2
/-- What a code's name does is known. -/
def ActOk (K : Cx) (c : Nat) (A : Nat → Nat → Nat → M Unit) : Prop := ∀ z s w nd no, Tk K z s w → Zd K z w c (nmF c) (bsOf (fmL c)) (cdF (fmL c)) nd (coF (fmL c)) no → s.l.length ≤ 60 →
  ∃ mf, (Calls Tryz.prog 96 #[.pointer (some ⟨K.b, 0, none⟩)] w fun e w' => e = .returned (.func (.func mf) #[.pointer (some ⟨K.b, 0, none⟩)] #[]) ∧ w' = w) ∧ (∀ (args : Array Value) (W : World), (callFunc mf args).run Tryz.prog W = .ok (.enter mf args) W) ∧
    Calls Tryz.prog mf #[.pointer (some ⟨K.b, 0, none⟩)] w (Post K z s w (A c nd no) unitV (fun _ => True) 12)
/-- A plan with a known number of accesses. -/
def Just {α : Type} (m : M α) (k : Nat) : Prop := ∀ r, Has (m r) k k
theorem Just.pure {α : Type} (a : α) : Just (M.pure a) 0 := fun r => .ret _
theorem Just.bind {α β : Type} {m : M α} {k : α → M β} {a b : Nat} (h : Just m a) (h2 : ∀ x, Just (k x) b) : Just (M.bind m k) (a + b) := fun r => (h r).bind fun x => h2 x.1 x.2
theorem Just.read (a : Nat) : Just (M.read a) 1 := fun r => .read fun v => .ret _
theorem Just.set (g : Rp → Rp) : Just (M.set g) 0 := fun r => .ret _
theorem Just.get {α : Type} {k : Rp → M α} {n : Nat} (h : ∀ r, Just (k r) n) : Just (M.get k) n := fun r => h r r
theorem Just.fetch : Just fetchM 1 := Just.get (k := fun r => M.bind (M.read r.Pc) fun v => M.bind (M.set fun r => { r with Pc := (r.Pc + 1) % 65536 }) fun _ => M.pure v) fun r => (Just.read _).bind fun v => (Just.set _).bind fun _ => Just.pure _
theorem Just.num : ∀ k, Just (numM k) k
  | 0 => Just.pure 0
  | k + 1 => (Just.num k).bind fun n => Just.fetch.bind fun v => Just.pure _
theorem Just.len {α : Type} {m : M α} {k : Nat} (h : Just m k) {s s' : Ts} {a : α} (r : Ran m s a s') : s'.l.length = s.l.length + k := by
  have h1 := (h s.r).most s.l s.q
  have h2 := (h s.r).least s.l s.q _ _ _ r
  rw [show (go (m s.r) s.l s.q).1 = s'.l from by rw [r]] at h1
  omega
theorem Just.ops (fm : List Nat) (h : fm.length ≤ 2) : Just (opsM fm) (byL fm) := by
  match fm, h with
  | [], _ => exact Just.pure _
  | [x], _ =>
    have h1 := (Just.num (wdF x)).bind (k := fun n => M.pure (n, n)) fun n => Just.pure _
    have e : byL [x] = wdF x + 0 := by simp [byL]
    rw [e]; exact h1
  | [x, y], _ =>
    by_cases hy : y = 114
    · subst hy
      have h1 := (Just.num (wdF x)).bind (k := fun nd => M.bind (numM (wdF 114)) fun no => M.pure (nd, no)) fun nd => (Just.num (wdF 114)).bind fun no => Just.pure _
      have e : byL [x, 114] = wdF x + (wdF 114 + 0) := by simp [byL]
      rw [e]; exact h1
    · rw [opsM_two x y hy]
      have h1 := (Just.num (wdF y)).bind (k := fun no => M.bind (numM (wdF x)) fun nd => M.pure (nd, no)) fun no => (Just.num (wdF x)).bind fun nd => Just.pure _
      have e : byL [x, y] = wdF y + (wdF x + 0) := by simp [byL]; omega
      rw [e]; exact h1
/-- What carrying an instruction out comes to. -/
def PostR (K : Cx) (s : Ts) (w : World) (m : M Unit) (e : Ending) (w' : World) : Prop := ∃ z, Post K z s w m unitV (fun _ => True) 40 e w'
section
variable {K : Cx} {z : Zs} {s : Ts} {w w' : World}
theorem run_halt (A : Nat → Nat → Nat → M Unit) (h : Tk K z s w) (hl : s.l = []) (hh : s.r.H = true) :
    Calls Tryz.prog 50 #[.pointer (some ⟨K.b, 0, none⟩)] w (PostR K s w (runM A)) := by
  have c6 := h.look.2.1.2.1
  rw [hh] at c6
  have H1 := Lib.hid (idles_any 1 1 rfl h (by rw [hl]; decide))
  have hR : Ran (runM A) s () (idleS s 1) := Ran.bind (a := true) (by rw [← hh]; exact Ran.ask (fun r => r.H) s) (by rw [if_pos rfl]; exact Ran.idles s 1)
  have hle : (idleS s 1).l.length ≤ s.l.length + 40 := by unfold idleS; simp
  obtain ⟨Q, hQ, F⟩ := post_name (PostR K s w (runM A))
  rw [hQ]
  clear h hQ
  go_enter Tryz.func50, Tryz.ntmps50
  go_wp2_with fail
  with_reducible refine H1.out.mono ?_
  rintro e w1 ⟨rfl, t1, k1⟩
  have hf := Lib.hid (F (.returned (unitV ())) _ ⟨z, Post.done hR t1 k1 trivial hle⟩)
  unfold unitV at hf
  clear H1 F t1 k1 hR hle
  go_wp2_with fail
  first | exact hf.out | (go_end0; exact hf.out) | exact bodyPost_ret (results_none rfl _ _ _) rfl hf.out
theorem Tk.putN (h : Tk K z s w) (a b f g i : Value) : Tk K { z with n0 := a, n1 := b, n2 := f, n3 := g, n4 := i } s (((((w.setCell ⟨K.b, 9, none⟩ a).setCell ⟨K.b, 10, none⟩ b).setCell ⟨K.b, 11, none⟩ f).setCell ⟨K.b, 12, none⟩ g).setCell ⟨K.b, 13, none⟩ i) :=
  ((((h.turn 9 a s.r { z with n0 := a } h.ok fun _ => rfl).turn 10 b s.r { z with n0 := a, n1 := b } h.ok fun _ => rfl).turn 11 f s.r { z with n0 := a, n1 := b, n2 := f } h.ok fun _ => rfl).turn 12 g s.r { z with n0 := a, n1 := b, n2 := f, n3 := g } h.ok fun _ => rfl).turn 13 i s.r { z with n0 := a, n1 := b, n2 := f, n3 := g, n4 := i } h.ok fun _ => rfl
set_option maxHeartbeats 8000000 in
theorem run_go (A : Nat → Nat → Nat → M Unit) (h : Tk K z s w) (hb : Bare z) (hl : s.l = []) (hh : s.r.H = false) (HA : ∀ s1 c, Ran fetchM s c s1 → ActOk K c A) :
    Calls Tryz.prog 50 #[.pointer (some ⟨K.b, 0, none⟩)] w (PostR K s w (runM A)) := by
  have c6 := h.look.2.1.2.1
  rw [hh] at c6
  have H1 := Lib.hid (fetch_any h (by rw [hl]; decide))
  have a0 := Lib.hid (show Ran (M.ask fun r => r.H) s false s from by rw [← hh]; exact Ran.ask (fun r => r.H) s)
  obtain ⟨Q, hQ, F⟩ := post_name (PostR K s w (runM A))
  rw [hQ]
  replace F : ∀ e w', (∃ z, Post K z s w (M.bind (M.ask fun r => r.H) fun hh => if hh = true then M.idles 1 else M.bind fetchM fun c => M.bind (opsM (fmL c)) fun p => M.bind (M.idles (idleN c)) fun _ => A c p.1 p.2) unitV (fun _ => True) 40 e w') → Q e w' := F
  have F1 : ∀ e w', (∃ z, Post K z s w (M.bind fetchM fun c => M.bind (opsM (fmL c)) fun p => M.bind (M.idles (idleN c)) fun _ => A c p.1 p.2) unitV (fun _ => True) 40 e w') → Q e w' := fun e w' ⟨z, hp⟩ => F e w' ⟨z, (Post.after (c := 0) (k := fun hh => if hh = true then M.idles 1 else M.bind fetchM fun c => M.bind (opsM (fmL c)) fun p => M.bind (M.idles (idleN c)) fun _ => A c p.1 p.2) a0.out (Kp.refl _ _) (Nat.le_refl _) (by rw [if_neg (by decide)]; exact hp) (by omega))⟩
  clear F hQ
  replace F1 := Lib.hid F1
  replace HA := Lib.hid HA
  replace hb := Lib.hid hb
  have hll := Lib.hid hl
  clear h hl
  go_enter Tryz.func50, Tryz.ntmps50
  go_wp2_with fail
  with_reducible refine H1.out.mono ?_
  rintro e w1 ⟨s1, t1, k1, l1, (⟨c, r1, hc, rfl⟩ | ⟨g1, rfl⟩)⟩
  rotate_left
  · have hf := Lib.hid (F1.out lackE _ ⟨z, s1, t1, k1, by omega, .inr ⟨Gave.bind g1, rfl⟩⟩)
    clear H1 F1 t1 k1 g1
    unfold lackE at hf ⊢
    go_wp2_with fail
    first | exact hf.out | exact ⟨rfl, hf.out⟩
  · have HO := Lib.hid (of_any c w1 hc)
    have hA := HA.out s1 c r1
    have hlen1 := Just.fetch.len r1
    rw [hll.out] at hlen1
    replace hA := Lib.hid hA
    replace t1 := Lib.hid t1
    replace k1 := Lib.hid k1
    replace r1 := Lib.hid r1
    replace hlen1 := Lib.hid hlen1
    clear H1 HA c6 l1
    unfold byteV
    go_wp2_with fail
    with_reducible refine HO.out.mono ?_
    rintro e w2 ⟨rfl, b2⟩
    have t2 := t1.out.below b2
    have k2 := Lib.hid (k1.out.trans (Kp.below b2))
    obtain ⟨d9, d10, d11, d12, d13⟩ := t2.lookN
    have f9 := t2.look.2.2 9
    have f10 := t2.look.2.2 10
    have f11 := t2.look.2.2 11
    have f12 := t2.look.2.2 12
    have f13 := t2.look.2.2 13
    have t3 := Lib.hid (t2.putN (.int .u8 (c : Nat)) (.string (nmF c)) (.string (fmF c)) (.int .i64 (szF c : Nat)) (.int .i64 (cyF c : Nat)))
    have k3 := Lib.hid (((((k2.out.set 9 (.int .u8 (c : Nat))).set 10 (.string (nmF c))).set 11 (.string (fmF c))).set 12 (.int .i64 (szF c : Nat))).set 13 (.int .i64 (cyF c : Nat)))
    clear HO t2 b2 t1 k1
    unfold ntV
    have hbare := hb.out
    have HFO := Lib.hid (fo_any (nm := nmF c) t3.out ⟨hbare.d0, hbare.d1, hbare.d2, hbare.d3, hbare.o0, hbare.o1, hbare.o2, hbare.o3⟩ rfl rfl rfl hc (by have := hlen1.out; simp at this; omega))
    go_upto_region 3 with (fail)
    clear d9 d10 d11 d12 d13 f9 f10 f11 f12 f13 hbare
    generalize hz3 : ({ n0 := Value.int IntKind.u8 (c : Nat), n1 := Value.string (nmF c), n2 := Value.string (fmF c), n3 := Value.int IntKind.i64 (szF c : Nat), n4 := Value.int IntKind.i64 (cyF c : Nat), d0 := z.d0, d1 := z.d1, d2 := z.d2, d3 := z.d3, o0 := z.o0, o1 := z.o1, o2 := z.o2, o3 := z.o3 } : Zs) = z3 at *
    have n3 : z3.n3 = .int .i64 (szF c : Nat) := by rw [← hz3]
    have n4 : z3.n4 = .int .i64 (cyF c : Nat) := by rw [← hz3]
    generalize (((((w2.setCell ⟨K.b, 9, none⟩ (.int .u8 (c : Nat))).setCell ⟨K.b, 10, none⟩ (.string (nmF c))).setCell ⟨K.b, 11, none⟩ (.string (fmF c))).setCell ⟨K.b, 12, none⟩ (.int .i64 (szF c : Nat))).setCell ⟨K.b, 13, none⟩ (.int .i64 (cyF c : Nat))) = W3 at *
    clear hz3 k2
    replace n3 := Lib.hid n3
    replace n4 := Lib.hid n4
    go_wp2_with fail
    with_reducible refine HFO.out.mono ?_
    rintro e w4 ⟨s4, z4, t4, k4, l4, (⟨nd, no, r4, hz4, e3, e4, rfl⟩ | ⟨g4, rfl⟩)⟩
    rotate_left
    · have hf := Lib.hid (F1.out lackE _ ⟨z4, s4, t4, k3.out.trans k4, by have := hlen1.out; rw [hll.out]; simp at this ⊢; omega, .inr ⟨Gave.then r1.out (Gave.bind g4), rfl⟩⟩)
      clear HFO F1 t4 k4 g4
      unfold lackE at hf ⊢
      go_wp2_with fail
      first | exact hf.out | exact ⟨rfl, hf.out⟩
    · have hlen4 := (Just.ops (fmL c) (fmL_le c hc)).len r4
      rw [hlen1.out] at hlen4
      have hL : s4.l.length = szF c := by rw [hlen4]; unfold szF; simp
      obtain ⟨p0, p1, p2, p3, p4⟩ := (t4.drew).lookN
      rw [hz4.n0] at p0
      rw [hz4.n1] at p1
      rw [hz4.n2] at p2
      rw [e3, n3.out] at p3
      rw [e4, n4.out] at p4
      obtain ⟨la, lc, p8⟩ := t4.drew.list
      rw [hL] at p8
      have hto := toF_le (nmF c).toList (fmL c) (fmL_le c hc)
      have HT := Lib.hid (touches_any c (szF c) (cyF c) (nmF c) (fmL c) w4.drew (fun x hx => all_lt x (forms_ok c hc x hx)) (fmL_le c hc))
      have HI := Lib.hid fun (n : Int) (W : World) (tW : Tk K z4 s4 W) (hn : n.toNat = idleN c) => idles_any n (idleN c) hn tW (by have := fm_all c hc; rw [hL]; unfold idleN; omega)
      have hall := fm_all c hc
      have hcy := hall.2.2.2.1
      have hsz3 := hall.2.2.2.2.1
      have hid : ((cyF c : Int) - (szF c : Int) - (toF (nmF c).toList (fmL c) : Int)).toNat = idleN c := by unfold idleN; omega
      have hS := Lib.hid fun (W : World) (b : Below w4.drew.heap.size w4.drew W) => And.intro ((t4.drew.below b).lookN.1.trans (by rw [hz4.n0])) (And.intro ((t4.drew.below b).lookN.2.1.trans (by rw [hz4.n1])) (And.intro ((t4.drew.below b).lookN.2.2.1.trans (by rw [hz4.n2])) (And.intro ((t4.drew.below b).lookN.2.2.2.1.trans (by rw [e3, n3.out])) (And.intro ((t4.drew.below b).lookN.2.2.2.2.trans (by rw [e4, n4.out])) (And.intro ((b.cell (p := ⟨K.b, 8, none⟩) t4.drew.lt).trans p8) (t4.drew.below b))))))
      have kd4 := Lib.hid ((k3.out.trans k4).drew)
      have td4 := Lib.hid t4.drew
      have hz4d := Lib.hid (hz4.stay t4 ((Kp.refl K w4).drew))
      replace r4 := Lib.hid r4
      replace hL := Lib.hid hL
      have hall2 := Lib.hid hall
      clear HFO t4 k4 l4 hz4 e3 e4 hlen4 n3 n4 k3 t3 hall
      unfold fmF at *
      generalize hcyg : cyF c = cy at *
      generalize hszg : szF c = sz at *
      generalize htog : toF (nmF c).toList (fmL c) = tt at *
      have ew1 : IntKind.i64.wrap ((cy : Int) - (sz : Int)) = (cy : Int) - (sz : Int) := by simp only [IntKind.wrap_i64]; omega
      have ew2 : IntKind.i64.wrap ((cy : Int) - (sz : Int) - (tt : Int)) = (cy : Int) - (sz : Int) - (tt : Int) := by simp only [IntKind.wrap_i64]; omega
      go_upto_region 4 with (fail)
      go_cut [] (fun W => Hid (Tk K z4 (idleS s4 (idleN c)) W) ∧ Hid (Kp K w W) ∧ Hid (Zd K z4 W c (nmF c) (bsOf (fmL c)) (cdF (fmL c)) nd (coF (fmL c)) no))
      case first =>
          clear F1 hA a0 hb r1 r4 hL hall2 hlen1 hcy hsz3 hto hcyg hszg htog
          go_region_with (first
            | (go_at_call 95; (with_reducible refine HT.out.mono ?_); rintro e w5 ⟨rfl, b5⟩; have y := hS.out _ b5; have y9 := y.1; have y10 := y.2.1; have y11 := y.2.2.1; have y12 := y.2.2.2.1; have y13 := y.2.2.2.2.1; have y8 := y.2.2.2.2.2.1; have t5 := Lib.hid y.2.2.2.2.2.2; have k5 := Lib.hid (kd4.out.trans (Kp.below b5)); have z5 := Lib.hid (hz4d.out.stay td4.out (Kp.below b5)); clear y b5)
            | (go_at_call 91; (with_reducible refine (HI.out _ _ t5.out (by first | exact hid | omega)).mono ?_); rintro e w6 ⟨rfl, t6, k6⟩; have z6 := Lib.hid (z5.out.stay t5.out k6); replace k6 := Lib.hid (k5.out.trans k6); replace t6 := Lib.hid t6))
          all_goals
            go_wp2_with fail
            go_meet
            exact ⟨t6, k6, z6⟩
      case rest =>
        obtain ⟨t6, k6, z6⟩ := hcut
        have hl6 : (idleS s4 (idleN c)).l.length ≤ 20 := by
          unfold idleS
          rw [List.length_append, List.length_replicate, hL.out]
          have hii : idleN c ≤ 12 := by unfold idleN; have := hall2.out; omega
          omega
        obtain ⟨mf, HC, hen, HM⟩ := hA.out z4 _ _ nd no t6.out z6.out (by omega)
        have hfin := Lib.hid fun (e : Ending) (W : World) (hp : Post K z4 (idleS s4 (idleN c)) wc (A c nd no) unitV (fun _ => True) 12 e W) => F1.out e W ⟨z4, by
          obtain ⟨s9, t9, k9, l9, h9⟩ := hp
          refine ⟨s9, t9, k6.out.trans k9, by omega, ?_⟩
          rcases h9 with ⟨u, r9, _, rfl⟩ | ⟨g9, rfl⟩
          · exact .inl ⟨u, r1.out.bind (r4.out.bind ((Ran.idles s4 (idleN c)).bind r9)), trivial, rfl⟩
          · exact .inr ⟨Gave.then r1.out (Gave.then r4.out (Gave.then (Ran.idles s4 (idleN c)) g9)), rfl⟩⟩
        replace HC := Lib.hid HC
        replace HM := Lib.hid HM
        clear F1 t6 k6 z6 HI HT hS td4 kd4 hz4d
        go_wp2_with fail
        with_reducible refine HC.out.mono ?_
        rintro e w7 ⟨rfl, hw7⟩
        rw [hw7]
        clear HC hw7
        go_wp2_with fail
        with_reducible refine HM.out.mono ?_
        intro e w8 hp
        have hf := Lib.hid (hfin.out _ _ hp)
        obtain ⟨s9, _, _, _, (⟨u, _, _, rfl⟩ | ⟨_, rfl⟩)⟩ := hp
        · clear HM hfin
          unfold unitV at hf ⊢
          go_wp2_with fail
          first | exact hf.out | (go_end0; exact hf.out)
        · clear HM hfin
          unfold lackE at hf ⊢
          go_wp2_with fail
          first | exact hf.out | exact ⟨rfl, hf.out⟩
end
end Go.Proofs.YtknlbmjncginnaaGreatDoor
