/-
  What a writer's other methods do within their attempts.
-/
import Derived.Test.YtbdhdedlemndeaaDoorSvGB
import Derived.Deep.RegionHeld3
import Derived.Deep.DeepCutAuto
import Derived.StillTailTactics
import Derived.Laws.IdiomCopy
import Derived.Test.YtbdhdedlemndeaaDoorSvGA
namespace Go.Proofs.YtbdhdedlemndeaaDoor
open Go.RowKit Go.Shelf
set_option maxRecDepth 100000
set_option maxHeartbeats 1000000

theorem open1_full {b p0 p1 : Nat} {v : Value} {s : St} (w : World) (h : Wr w b v s) (q0 : w.cell? ⟨p0, 0, none⟩ = some (.pointer (some ⟨b, 0, none⟩))) (hop : s.op = 16) :
    Calls Tryd.prog 79 #[.pointer (some ⟨p0, 0, none⟩), .pointer (some ⟨p1, 0, none⟩)] w fun e w' => e = fault 4 ∧ w' = w := by
  have c17 := h.head.c17
  rw [hop] at c17
  clear h hop
  go_enter Tryd.func79, Tryd.ntmps79
  go_wp2_with fail
  refine (refuse_yes _ _).mono ?_
  rintro e w' ⟨rfl, rfl⟩
  unfold fault
  go_wp2_with fail
  exact ⟨rfl, by rfl, rfl⟩
theorem open1_no {b p0 p1 x : Nat} {v : Value} {s : St} (w : World) (h : Wr w b v s) (q0 : w.cell? ⟨p0, 0, none⟩ = some (.pointer (some ⟨b, 0, none⟩))) (q1 : w.cell? ⟨p1, 0, none⟩ = some (.int .u8 x)) (hop : s.op ≠ 16) (hn : 16777216 < s.n + 5) :
    Calls Tryd.prog 79 #[.pointer (some ⟨p0, 0, none⟩), .pointer (some ⟨p1, 0, none⟩)] w fun e w' => e = fault 4 ∧ ∃ q, w' = w.drewN q := by
  have c17 := h.head.c17
  have t1 : ((s.op : Int) == 16) = false := by rw [beq_eq_false_iff_ne]; omega
  have HR := Lib.hid (room_no b 5 v s w.drew (h.below (Below.drew (Below.refl _ _))) (by decide) hn)
  clear h hop hn
  go_enter Tryd.func79, Tryd.ntmps79
  go_wp2_with fail
  refine (refuse_no _ _).mono ?_
  rintro e w' ⟨rfl, hw⟩
  subst hw
  go_wp2_with fail
  refine wp_region_any (by kernel_rfl) ?_
  change wpAny _ _ _ _ _ _ _ (World.drew _)
  have d0 : w'.drew.cell? ⟨p0, 0, none⟩ = some (.pointer (some ⟨b, 0, none⟩)) := q0
  have d1 : w'.drew.cell? ⟨p1, 0, none⟩ = some (.int .u8 x) := q1
  refine wpAny_ready (rs := [0, 2]) (by kernel_rfl) (by simp) ?_
  refine AllReady.cons rfl (fun K hK => ?_) (AllReady.cons rfl (fun K hK => ?_) AllReady.nil)
  · go_simp
    refine hK _ _ ?_
    clear hK K
    refine wpAny_ready (rs := [1, 2]) (by kernel_rfl) (by simp) ?_
    refine AllReady.cons rfl (fun K hK => ?_) (AllReady.cons rfl (fun K hK => ?_) AllReady.nil)
    · go_simp
      refine HR.out.mono ?_
      rintro e w1 ⟨rfl, rfl⟩
      unfold fault
      go_wp2_with fail
      exact ⟨rfl, by rfl, 1, rfl⟩
    · go_simp
      refine hK _ _ ?_
      clear hK K
      refine wpAny_ready (rs := [1]) (by kernel_rfl) (by simp) ?_
      refine AllReady.cons rfl (fun K hK => ?_) AllReady.nil
      go_simp
      refine HR.out.mono ?_
      rintro e w1 ⟨rfl, rfl⟩
      unfold fault
      go_wp2_with fail
      exact ⟨rfl, by rfl, 1, rfl⟩
  · go_simp
    refine hK _ _ ?_
    clear hK K
    refine wpAny_ready (rs := [0]) (by kernel_rfl) (by simp) ?_
    refine AllReady.cons rfl (fun K hK => ?_) AllReady.nil
    go_simp
    refine hK _ _ ?_
    clear hK K
    refine wpAny_ready (rs := [1]) (by kernel_rfl) (by simp) ?_
    refine AllReady.cons rfl (fun K hK => ?_) AllReady.nil
    go_simp
    refine HR.out.mono ?_
    rintro e w1 ⟨rfl, rfl⟩
    unfold fault
    go_wp2_with fail
    exact ⟨rfl, by rfl, 1, rfl⟩
end Go.Proofs.YtbdhdedlemndeaaDoor
namespace Go.Proofs.YtbdhdedlemndeaaDoor
open Go.RowKit Go.Shelf
set_option maxRecDepth 100000
set_option maxHeartbeats 1000000

theorem Owns.away {w : World} {v : Value} {n : Nat} {f : Nat → Nat} (h : Owns w v n f) {x : Nat} (hx : v.ownBlock ≠ some x) (i : Nat) (u : Value) : Owns (w.setCell ⟨x, i, Option.none⟩ u) v n f :=
  h.kept (row := some x) ⟨rfl, rfl, rfl, by simp [World.setCell], fun k _ hk => Below.heap_setCell _ _ _ _ (fun e => hk (by rw [e]))⟩ (.inr hx)
theorem Wr.opened {w : World} {b q : Nat} {v : Value} {s : St} (h : Wr w b v s) (hop : s.op < 16) (hq : 4 ≤ q ∧ q ≤ s.n) :
    Wr ((w.setCell ⟨b, 1 + s.op, none⟩ (.int .i64 (q : Nat))).setCell ⟨b, 17, none⟩ (.int .i64 ((s.op + 1 : Nat) : Int))) b v { s with ps := upd s.ps s.op q, op := s.op + 1 } :=
  ⟨(h.head.setp s.op q hop).set17 (s.op + 1), (h.body.away h.far _ _).away h.far _ _, h.far, by show s.op + 1 ≤ 16; omega, h.good.n, fun i hi => by
    show 4 ≤ upd s.ps s.op q i ∧ upd s.ps s.op q i ≤ s.n
    have hi : i < s.op + 1 := hi
    unfold upd
    split
    · exact hq
    · exact h.good.ps i (by omega)⟩
/-- Behind Open. -/
def St.openOk (s : St) (x : Nat) : St := { s with n := s.n + 5, f := fun i => if i < s.n then s.f i else if i = s.n then x else 0, ps := upd s.ps s.op (s.n + 5), op := s.op + 1 }
theorem open1_ok {b p0 p1 x : Nat} {v : Value} {s : St} (w : World) (h : Wr w b v s) (q0 : w.cell? ⟨p0, 0, none⟩ = some (.pointer (some ⟨b, 0, none⟩))) (q1 : w.cell? ⟨p1, 0, none⟩ = some (.int .u8 x))
    (n0 : p0 ≠ b ∧ v.ownBlock ≠ some p0) (n1 : p1 ≠ b ∧ v.ownBlock ≠ some p1) (hop : s.op < 16) (hx : x < 256) (hn : s.n + 5 ≤ 16777216) :
    Calls Tryd.prog 79 #[.pointer (some ⟨p0, 0, none⟩), .pointer (some ⟨p1, 0, none⟩)] w fun e w' => e = .returned (.tuple #[]) ∧ ∃ v', Wr w' b v' (s.openOk x) ∧ Only2 b v.ownBlock w w' ∧ NewOwn v v' w := by
  have c17 := h.head.c17
  have t1 : ((s.op : Int) == 16) = false := by rw [beq_eq_false_iff_ne]; omega
  have hd := h.below (Below.drew (Below.refl w.heap.size w))
  have HR := Lib.hid (room_ok b 5 v s w.drew hd (by decide) hn)
  have l0 := World.block_lt_of_cell? w _ q0
  have l1 := World.block_lt_of_cell? w _ q1
  have d0 : w.drew.cell? ⟨p0, 0, none⟩ = some (.pointer (some ⟨b, 0, none⟩)) := q0
  have d1 : w.drew.cell? ⟨p1, 0, none⟩ = some (.int .u8 x) := q1
  have hnx := Lib.hid (show x < 256 ∧ s.op < 16 ∧ s.n + 5 ≤ 16777216 from ⟨hx, hop, hn⟩)
  have keep : ∀ (W1 : World) (g : Nat), Only2 b v.ownBlock w.drew W1 → W1.cell? ⟨p0, 0, none⟩ = some (.pointer (some ⟨b, 0, none⟩)) ∧ W1.cell? ⟨p1, 0, none⟩ = some (.int .u8 x) := fun W1 g hO =>
    ⟨(World.cell?_of_block (hO.block p0 l0 n0.1 (fun e => n0.2 e.symm))).trans d0, (World.cell?_of_block (hO.block p1 l1 n1.1 (fun e => n1.2 e.symm))).trans d1⟩
  replace keep := Lib.hid keep
  have hdn := Lib.hid (show Only2 b v.ownBlock w w.drew from Only2.of_below (Below.drew (Below.refl _ _)))
  clear h hop hn hx hd
  go_enter Tryd.func79, Tryd.ntmps79
  go_wp2_with fail
  refine (refuse_no _ _).mono ?_
  rintro e w' ⟨rfl, hw⟩
  subst hw
  go_wp2_with fail
  go_region_held3 (fun W => W.cell? ⟨p0, 0, none⟩ = some (.pointer (some ⟨b, 0, none⟩)) ∧ W.cell? ⟨p1, 0, none⟩ = some (.int .u8 x))
    (first | exact ⟨d0, d1⟩ | exact k1 | exact k2 | go_keep)
    (first
      | (go_at_call 81; refine HR.out.mono ?_; rintro e w1 ⟨g, cap, rfl, hW1, hO1, hg1⟩; have k1 := keep.out w1 g hO1)
      | (go_at_call 80; obtain ⟨cs, hcs, hsz, _, hcap, _, _⟩ := hW1.cs; refine (lay_uint8 g s.n 5 (cap - s.n) x cs w1 hcs hnx.out.1 (by decide) (by omega)).mono ?_; rintro e w2 ⟨rfl, hL2⟩; have hO2 := hO1.trans (Only2.laid (b := b) hL2) (hg1.imp id (fun h y hy => by injection hy with hy; exact hy ▸ h)); have k2 := keep.out w2 g hO2))
  have hW2 := hW1.laid hcs hL2 (by show s.n + 1 ≤ s.n + 5; omega)
  have hno : NewOwn v (.slice (some ⟨g, 0, none⟩) (s.n + 5) cap) w' := hg1.imp (fun h => h) (fun h y hy => Nat.le_trans h (Nat.le_of_eq (by simpa [Value.ownBlock] using hy)))
  have hO3 := hdn.out.trans hO2 (.inl rfl)
  obtain ⟨k20, k21⟩ := k2
  have hgb : some g ≠ some b := hW2.far
  clear HR hW1 hO1 hg1 k1 hcs hsz hcap hL2 hO2 keep hdn d0 d1 q0 q1 c17 l0 l1
  have hO4 := hO3.trans (Only2.of_below (Below.drew (Below.refl w2.heap.size w2))) (o' := v.ownBlock) (.inl rfl)
  have hW3 := hW2.below (Below.drew (Below.refl w2.heap.size w2))
  have e17 := hW3.head.c17
  have e0 := hW3.head.c0
  have ep := hW3.head.cp s.op hnx.out.2.1
  have fp := hW3.head.free (1 + s.op)
  have r0 : w2.drew.cell? ⟨p0, 0, none⟩ = some (.pointer (some ⟨b, 0, none⟩)) := k20
  have hop : (s.op : Int) < 16 := by have := hnx.out; omega
  have e5 : ((s.n + 5 : Nat) : Int) = (s.n : Int) + 5 := by omega
  have e1 : ((s.op + 1 : Nat) : Int) = (s.op : Int) + 1 := by omega
  have hWo := hW3.opened (q := s.n + 5) hnx.out.2.1 ⟨by omega, Nat.le_refl _⟩
  have f17 := (hW3.head.setp s.op (s.n + 5) hnx.out.2.1).free 17
  rw [e5] at hWo f17
  have hO5 := (hO4.trans (Only2.of_set (o := v.ownBlock) w2.drew (1 + s.op) (.int .i64 ((s.n : Int) + 5))) (.inl rfl)).trans (Only2.of_set (o := v.ownBlock) _ 17 (.int .i64 ((s.op + 1 : Nat) : Int))) (.inl rfl)
  rw [show (({ n := s.n + 5, f := overSv (zeroed s.f s.n) s.n 1 (byteAt x), ps := s.ps, op := s.op, e := s.e } : St)).op = s.op from rfl, e1] at hWo
  rw [e1] at hO5
  replace hWo := Lib.hid hWo
  replace hO5 := Lib.hid hO5
  clear e5 e1 hO4 hO3 hW2 hW3
  go_wp2_with fail
  go_still_tail 13, (by kernel_rfl)
  show wpList _ _ _ _ _ w2.drew
  generalize w2.drew = W2 at *
  go_wp2_with fail
  go_end0
  refine ⟨rfl, _, hWo.out.congr rfl rfl rfl rfl (fun i hi => ?_), hO5.out, hno⟩
  show (if i < s.n then s.f i else if i = s.n then x else 0) = overSv (zeroed s.f s.n) s.n 1 (byteAt x) i
  unfold overSv zeroed
  by_cases h1 : i < s.n
  · rw [if_pos h1, if_neg (by omega), if_pos h1]
  · rw [if_neg h1]
    by_cases h2 : i = s.n
    · subst h2
      rw [if_pos rfl, if_pos (by omega), Nat.sub_self]
      unfold byteAt
      rw [Nat.mul_zero, Nat.pow_zero, Nat.div_one, Nat.mod_eq_of_lt hnx.out.1]
    · rw [if_neg h2, if_neg (by omega), if_neg h1]
end Go.Proofs.YtbdhdedlemndeaaDoor
namespace Go.Proofs.YtbdhdedlemndeaaDoor
open Go.RowKit Go.Shelf
set_option maxRecDepth 100000
set_option maxHeartbeats 1000000

theorem close1_no {b p0 : Nat} {v : Value} {s : St} (w : World) (h : Wr w b v s) (q0 : w.cell? ⟨p0, 0, none⟩ = some (.pointer (some ⟨b, 0, none⟩))) (hop : s.op = 0) :
    Calls Tryd.prog 84 #[.pointer (some ⟨p0, 0, none⟩)] w fun e w' => e = fault 2 ∧ w' = w := by
  have c17 := h.head.c17
  rw [hop] at c17
  clear h hop
  go_enter Tryd.func84, Tryd.ntmps84
  go_wp2_with fail
  refine (refuse_yes _ _).mono ?_
  rintro e w' ⟨rfl, rfl⟩
  unfold fault
  go_wp2_with fail
  exact ⟨rfl, by rfl, rfl⟩
/-- Behind Close. -/
def St.closeOk (s : St) (q : Nat) : St := { s with op := q, f := overSv s.f (s.ps q - 4) 4 (byteAt (s.n - s.ps q)) }
theorem Wr.closed {w : World} {b q : Nat} {v : Value} {s : St} (h : Wr w b v s) (hop : s.op = q + 1) : Wr (w.setCell ⟨b, 17, none⟩ (.int .i64 (q : Nat))) b v { s with op := q } :=
  ⟨h.head.set17 q, h.body.away h.far _ _, h.far, by have := h.good.op; show q ≤ 16; omega, h.good.n, fun i hi => h.good.ps i (by have hi : i < q := hi; omega)⟩
theorem close1_ok {b p0 q : Nat} {v : Value} {s : St} (w : World) (h : Wr w b v s) (q0 : w.cell? ⟨p0, 0, none⟩ = some (.pointer (some ⟨b, 0, none⟩))) (n0 : p0 ≠ b ∧ v.ownBlock ≠ some p0) (hop : s.op = q + 1) :
    Calls Tryd.prog 84 #[.pointer (some ⟨p0, 0, none⟩)] w fun e w' => e = .returned (.tuple #[]) ∧ ∃ v', Wr w' b v' (s.closeOk q) ∧ Only2 b v.ownBlock w w' ∧ NewOwn v v' w := by
  have c17 := h.head.c17
  have f17 := h.head.free 17
  rw [hop] at c17
  have hq : q < 16 := by have := h.good.op; omega
  have hps := h.good.ps q (by omega)
  have hsn := h.good.n
  obtain ⟨g, cap, rfl⟩ : ∃ g cap, v = .slice (some ⟨g, 0, none⟩) s.n cap := by
    rcases h.body.2 with ⟨_, h0⟩ | ⟨g, cap, cs, rfl, _⟩
    · omega
    · exact ⟨g, cap, rfl⟩
  have t1 : (((q + 1 : Nat) : Int) == 0) = false := by rw [beq_eq_false_iff_ne]; omega
  have hW := h.closed hop
  have hOn := (Only2.of_set (o := (Value.slice (some ⟨g, 0, none⟩) s.n cap).ownBlock) w 17 (.int .i64 (q : Nat)) : Only2 b _ w _)
  have r0 : (w.setCell ⟨b, 17, none⟩ (.int .i64 (q : Nat))).cell? ⟨p0, 0, none⟩ = some (.pointer (some ⟨b, 0, none⟩)) := (World.cell?_of_block (Below.heap_setCell _ _ _ _ n0.1)).trans q0
  clear h
  go_enter Tryd.func84, Tryd.ntmps84
  go_wp2_with fail
  refine (refuse_no _ _).mono ?_
  rintro e w' ⟨rfl, hw⟩
  subst hw
  go_upto_region 2 with (fail)
  generalize w'.setCell ⟨b, 17, none⟩ (.int .i64 (q : Nat)) = W2 at *
  have e17 := hW.head.c17
  have ep := hW.head.cp q hq
  have hqi : (q : Int) < 16 := by omega
  have hps2 := Lib.hid hps
  replace hW := Lib.hid hW
  obtain ⟨G, hF⟩ : ∃ G, s.ps q = G + 4 := ⟨s.ps q - 4, by omega⟩
  rw [hF] at hps hps2 ep
  clear c17 f17 q0 t1
  go_quiet (fail)
  have hbN := below_drewN (Below.refl W2.heap.size W2) nq
  replace hW := hW.out.below hbN
  have hOn1 := hOn.trans (Only2.of_below (b := b) (o := (Value.slice (some ⟨g, 0, none⟩) s.n cap).ownBlock) hbN) (.inl rfl)
  have r1 : (W2.drewN nq).cell? ⟨p0, 0, none⟩ = some (.pointer (some ⟨b, 0, none⟩)) := r0
  generalize W2.drewN nq = W3 at *
  replace hbN := Below.drew (Below.refl W3.heap.size W3)
  replace hW := hW.below hbN
  have hOn2 := hOn1.trans (Only2.of_below (b := b) (o := (Value.slice (some ⟨g, 0, none⟩) s.n cap).ownBlock) hbN) (.inl rfl)
  replace r1 : W3.drew.cell? ⟨p0, 0, none⟩ = some (.pointer (some ⟨b, 0, none⟩)) := r1
  have e0 := hW.head.c0
  obtain ⟨cs, hcs, hsz, _, hcap, hmax, _⟩ := hW.cs
  have HL := lay_uint32 g G (s.n - G) (cap - G) (s.n - (G + 4)) cs _ hcs (by omega) (by omega) (by omega)
  have i2 : (G : Int) ≤ s.n := by omega
  have i3 : ((s.n - (G + 4) : Nat) : Int) = (s.n : Int) - ((G : Int) + 4) := by omega
  rw [i3] at HL
  replace HL := Lib.hid HL
  have i7 : s.n ≤ cap := hcap
  have i8 : ¬ cap = G := by omega
  have i9 : G ≤ s.n := by omega
  have i6 : (s.n : Int) ≤ (cap : Int) := by omega
  have w6 : IntKind.i64.wrap (G : Int) = (G : Int) := by simp only [IntKind.wrap_i64]; omega
  have w7 : IntKind.i64.wrap ((s.n : Int) - ((G : Int) + 4)) = ((s.n - (G + 4) : Nat) : Int) := by simp only [IntKind.wrap_i64]; omega
  have w8 : IntKind.u32.wrap ((s.n - (G + 4) : Nat) : Int) = ((s.n - (G + 4) : Nat) : Int) := by simp only [IntKind.wrap_u32]; omega
  have w3 : wrap64 ((s.n : Int) - ((G : Int) + 4)) = ((s.n - (G + 4) : Nat) : Int) := by unfold wrap64; omega
  have w4 : IntKind.u32.wrap ((s.n : Int) - ((G : Int) + 4)) = ((s.n - (G + 4) : Nat) : Int) := by simp only [IntKind.wrap_u32]; omega
  have w5 : ((s.n : Int) - ((G : Int) + 4)) % 4294967296 = ((s.n - (G + 4) : Nat) : Int) := by omega
  clear hOn hOn1 r0 e17 ep hps hqi hbN
  go_upto_region 3 with (fail)
  go_region_held3 (fun W => W.cell? ⟨p0, 0, none⟩ = some (.pointer (some ⟨b, 0, none⟩)) ∧ W.cell? ⟨b, 0, none⟩ = some (.slice (some ⟨g, 0, none⟩) s.n cap))
    (first | exact ⟨r1, e0⟩ | (exact ⟨k0, k1⟩) | go_keep)
    (first
      | (go_at_call 70; (with_reducible refine HL.out.mono ?_); rintro e w3 ⟨rfl, hL⟩; have k0 : w3.cell? ⟨p0, 0, none⟩ = some (.pointer (some ⟨b, 0, none⟩)) := (World.cell?_of_block (hL.only.block p0 (World.block_lt_of_cell? _ _ r1) (fun e => n0.2 e.symm))).trans r1; have k1 : w3.cell? ⟨b, 0, none⟩ = some (.slice (some ⟨g, 0, none⟩) s.n cap) := (World.cell?_of_block (hL.only.block b hW.head.lt (fun e => hW.far e.symm))).trans e0))
  have hW4 := hW.laid hcs hL (by omega)
  have hO4 := hOn2.trans (Only2.laid (b := b) hL) (.inl rfl)
  clear HL k0 k1
  go_wp2_with fail
  go_end0
  refine ⟨rfl, _, hW4.congr rfl rfl rfl rfl (fun i hi => ?_), hO4, NewOwn.refl _ _⟩
  show overSv s.f (s.ps q - 4) 4 (byteAt (s.n - s.ps q)) i = overSv s.f G 4 (byteAt (s.n - (G + 4))) i
  rw [hF, Nat.add_sub_cancel]
end Go.Proofs.YtbdhdedlemndeaaDoor
namespace Go.Proofs.YtbdhdedlemndeaaDoor
open Go.RowKit Go.Shelf
set_option maxRecDepth 100000
set_option maxHeartbeats 1000000

/-- Block g: as it was in cs, but for the k cells from o on, which hold the bytes F. -/
structure Over (w : World) (g o k : Nat) (F : Nat → Nat) (cs : Array Value) (W : World) : Prop where
  now : ∃ ds, Whole W g 5 ds ∧ ds.size = cs.size ∧ (∀ i, i < k → ds[o + i]? = some (.int .u8 (F i : Nat))) ∧ ∀ j, j < o ∨ o + k ≤ j → ds[j]? = cs[j]?
  only : w.grownBy W (some g)
theorem Laid.over {w W : World} {g o k v : Nat} {cs : Array Value} (h : Laid w g o k v cs W) : Over w g o k (byteAt v) cs W := ⟨h.now, h.only⟩
theorem Wr.written {w w' : World} {b g N cap o k : Nat} {F : Nat → Nat} {s : St} {cs : Array Value} (h : Wr w b (.slice (some ⟨g, 0, none⟩) N cap) s) (hcs : Whole w g 5 cs) (hL : Over w g o k F cs w') (hF : ∀ i, i < k → F i < 256) :
    Wr w' b (.slice (some ⟨g, 0, none⟩) N cap) { s with f := overSv s.f o k F } := by
  obtain ⟨cs', h1, h2, h3, h4, h5, h6⟩ := h.cs
  have e : cs = cs' := by
    have := Option.some.inj ((show w.heap[g]? = _ from hcs).symm.trans h1)
    injection this
  subst e
  obtain ⟨⟨ds, hd, hs, l1, l2⟩, hO⟩ := hL
  have hgb : g ≠ b := by have := h.far; simpa [Value.ownBlock] using this
  refine ⟨h.head.kept (hO.block b h.head.lt (fun e => hgb (by injection e with e; exact e.symm))), ⟨fun i hi => ?_, .inr ⟨g, cap, ds, by rw [← h3], hd, by rw [h3]; exact h4, h5, by omega, fun i hi => ?_⟩⟩, h.far, h.good.op, h.good.n, h.good.ps⟩
  · show overSv s.f o k F i < 256
    unfold overSv
    split
    · exact hF _ (by omega)
    · exact h.body.1 i hi
  · show ds[i]? = some (.int .u8 (overSv s.f o k F i : Nat))
    unfold overSv
    split
    · rename_i hc
      have := l1 (i - o) (by omega)
      rw [show o + (i - o) = i by omega] at this
      exact this
    · rename_i hc
      rw [l2 i (by omega)]
      exact h6 i (by rw [← h3]; exact hi)
theorem run_copy_bytes (W : World) (g o cap len c : Nat) (cs : Array Value) (a : Option Addr) (f : Nat → Nat) (hW : Whole W g 5 cs) (hR : Row W a len f) (h0 : 0 < len) (hfit : o + len ≤ cs.size) :
    ∃ W', (∀ ty, (Builtin.copy_ #[46, 46] ty #[.slice (some ⟨g, o, none⟩) len cap, .slice a len c]).run Tryd.prog W = .ok (goInt len) W') ∧ Over W g o len f cs W' := by
  rcases hR.2 with h | ⟨x, p, rfl, hx, hc⟩
  · omega
  have hl : ((List.range len).map fun i => Value.int .u8 (f i : Nat)).length = len := by simp
  have hsrc : ∀ (j : Nat) (v : Value), ((List.range len).map fun i => Value.int .u8 (f i : Nat))[j]? = some v → W.cell? ((⟨x, p, none⟩ : Addr).add j) = some v := fun j v hv => by
    have hj : j < len := by have := (List.getElem?_eq_some_iff.1 hv).1; simpa using this
    rw [Addr.add_lit, hc j hj]
    simpa [List.getElem?_map, List.getElem?_range hj] using hv
  refine ⟨_, fun ty => by
    have := run_copy_row (P := Tryd.prog) W 46 46 ty 5 g o len cap ⟨x, p, none⟩ len c cs 5 ((List.range len).map fun i => Value.int .u8 (f i : Nat)) Tryd.underlying46 (by kernel_rfl) hW (by rw [hl]; exact (Nat.min_self len).symm) hsrc (by rw [hl]; exact hfit) (fun v hv => by obtain ⟨i, _, rfl⟩ := List.mem_map.1 hv; rfl)
    rw [hl] at this
    exact this, ⟨⟨_, setRow_heap W g cs _ 5 _ hW, ?_, fun i hi => ?_, fun j hj => ?_⟩, ⟨rfl, rfl, rfl, by simp, fun k _ hk => setRow_other W g k _ (fun e => hk (by rw [e]))⟩⟩⟩
  · simp
    omega
  · simp only [List.getElem?_toArray, List.append_assoc]
    rw [List.getElem?_append_right (by simp; omega), List.getElem?_append_left (by simp; omega)]
    have : o + i - (List.take o cs.toList).length = i := by simp; omega
    rw [this]
    simp [List.getElem?_range hi]
  · simp only [List.getElem?_toArray, List.append_assoc]
    by_cases h1 : j < o
    · rw [List.getElem?_append_left (by simp; omega), List.getElem?_take, if_pos h1]
      simp
    · rw [List.getElem?_append_right (by simp; omega), List.getElem?_append_right (by simp; omega), List.getElem?_drop]
      simp
      congr 1
      omega
/-- A row's bytes, as they are put. -/
def rowB (len : Nat) (f : Nat → Nat) : Nat → Nat := fun i => if i < 4 then byteAt len i else f (i - 4)
/-- a leads neither to b nor to o. -/
def Far (a : Option Addr) (b : Nat) (o : Option Nat) : Prop := ∀ ad, a = some ad → ad.block ≠ b ∧ o ≠ some ad.block
theorem Row.only2 {w w' : World} {a : Option Addr} {n b : Nat} {o : Option Nat} {f : Nat → Nat} (h : Row w a n f) (hf : Far a b o) (ho : Only2 b o w w') : Row w' a n f := by
  rcases h.2 with h0 | ⟨x, p, rfl, hx, hc⟩
  · exact ⟨h.1, .inl h0⟩
  · have hk := ho.block x hx (hf _ rfl).1 (fun e => (hf _ rfl).2 e.symm)
    exact ⟨h.1, .inr ⟨x, p, rfl, Nat.lt_of_lt_of_le hx ho.size, fun i hi => (World.cell?_of_block (a := ⟨x, p + i, none⟩) hk).trans (hc i hi)⟩⟩
theorem Row.grown1 {w w' : World} {a : Option Addr} {n g : Nat} {f : Nat → Nat} (h : Row w a n f) (hf : ∀ ad, a = some ad → ad.block ≠ g) (ho : w.grownBy w' (some g)) : Row w' a n f := by
  rcases h.2 with h0 | ⟨x, p, rfl, hx, hc⟩
  · exact ⟨h.1, .inl h0⟩
  · have hk := ho.block x hx (fun e => hf _ rfl (by injection e))
    exact ⟨h.1, .inr ⟨x, p, rfl, Nat.lt_of_lt_of_le hx ho.size, fun i hi => (World.cell?_of_block (a := ⟨x, p + i, none⟩) hk).trans (hc i hi)⟩⟩
end Go.Proofs.YtbdhdedlemndeaaDoor
namespace Go.Proofs.YtbdhdedlemndeaaDoor
open Go.RowKit Go.Shelf
set_option maxRecDepth 100000
set_option maxHeartbeats 1000000
set_option linter.unusedVariables false

/-- s', unless something went wrong before. -/
def St.when (s s' : St) : St := if s.e = 0 then s' else s
/-- What is asked of what an attempt does: it goes well whatever the world is, or goes wrong. -/
def Does (w : World) (b k : Nat) (caps : Array Value) (v : Value) (s s' : St) (Q : World → Prop) : Prop :=
  (s'.e = 0 ∧ ∀ V, Below w.heap.size w V → Wr V b v s → Q V → Calls Tryd.prog k caps V fun e w' => e = .returned (.tuple #[]) ∧ ∃ v', Wr w' b v' s' ∧ Only2 b v.ownBlock V w' ∧ NewOwn v v' V) ∨
  ∃ c, s' = { s with e := c } ∧ ∀ V, Below w.heap.size w V → Wr V b v s → Q V → Calls Tryd.prog k caps V fun e w' => e = fault c ∧ Below V.heap.size V w'
theorem meth_any {b k : Nat} {caps : Array Value} {v : Value} {s s' : St} {Q : World → Prop} (w W : World) (h : Wr w b v s) (hB : Below w.heap.size w W) (hq : Q (W.alloc (.cells #[.int .i64 0] 40)))
    (hen : ∀ (args : Array Value) (W : World), (callFunc k args).run Tryd.prog W = .ok (.enter k args) W) (hd : s.e = 0 → Does w b k caps v s s' Q) :
    Calls Tryd.prog 78 #[.pointer (some ⟨b, 0, none⟩), .func (.func k) #[] caps] W fun e w' => e = .returned (.tuple #[]) ∧ ∃ v', Wr w' b v' (s.when s') ∧ Only2 b v.ownBlock w w' ∧ NewOwn v v' w := by
  have hW := h.below hB
  have hO : Only2 b v.ownBlock w W := Only2.of_below hB
  have hB1 : Below w.heap.size w (W.alloc (.cells #[.int .i64 0] 40)) := hB.alloc hB.size _
  unfold St.when
  by_cases he : s.e = 0
  · rw [if_pos he]
    rcases hd he with ⟨he', hd2⟩ | ⟨c, rfl, hd2⟩
    · refine (wattempt_ok W hW he he' hen (hd2 _ hB1 (hW.alloc _) hq)).mono ?_
      rintro e w' ⟨rfl, v', h1, h2, h3⟩
      exact ⟨rfl, v', h1, hO.trans h2 (.inl rfl), h3.imp id (fun h y hy => Nat.le_trans hB.size (h y hy))⟩
    · refine (wattempt_no W hW he hen ((hd2 _ hB1 (hW.alloc _) hq).mono (by rintro e w' ⟨rfl, hb⟩; exact ⟨rfl, by rw [World.size_alloc] at hb; exact hb⟩))).mono ?_
      rintro e w' ⟨rfl, h1, h2⟩
      exact ⟨rfl, v, h1, hO.trans h2 (.inl rfl), NewOwn.refl _ _⟩
  · rw [if_neg he]
    refine (wattempt_skip _ W hW he).mono ?_
    rintro e w' ⟨rfl, rfl⟩
    exact ⟨rfl, v, hW, hO, NewOwn.refl _ _⟩
/-- The two boxes that a method makes. -/
def Boxes (w : World) (b : Nat) (x : Value) (V : World) : Prop := V.cell? ⟨w.heap.size, 0, none⟩ = some (.pointer (some ⟨b, 0, none⟩)) ∧ V.cell? ⟨w.heap.size + 1, 0, none⟩ = some x
theorem boxes_any (w : World) (b : Nat) (x : Value) (T : TypeId) (hx : ∀ V : World, (V.alloc (.cells #[x] T)).cell? ⟨V.heap.size, 0, none⟩ = some x) :
    Below w.heap.size w ((w.alloc (.cells #[.pointer (some ⟨b, 0, none⟩)] 76)).alloc (.cells #[x] T)) ∧ Boxes w b x (((w.alloc (.cells #[.pointer (some ⟨b, 0, none⟩)] 76)).alloc (.cells #[x] T)).alloc (.cells #[.int .i64 0] 40)) := by
  refine ⟨((Below.refl _ w).alloc (Nat.le_refl _) _).alloc (by simp) _, ?_, ?_⟩
  · exact (((Whole.fresh w 76 #[.pointer (some ⟨b, 0, none⟩)]).alloc (.cells #[x] T)).alloc (.cells #[.int .i64 0] 40)).cell 0
  · have := ((Whole.fresh (w.alloc (.cells #[.pointer (some ⟨b, 0, none⟩)] 76)) T #[x]).alloc (.cells #[.int .i64 0] 40)).cell 0
    rw [World.size_alloc] at this
    exact this
/-- A box is neither the writer nor its body. -/
theorem Wr.boxes {w : World} {b : Nat} {v : Value} {s : St} (h : Wr w b v s) : (w.heap.size ≠ b ∧ v.ownBlock ≠ some w.heap.size) ∧ (w.heap.size + 1 ≠ b ∧ v.ownBlock ≠ some (w.heap.size + 1)) := by
  have h1 := h.head.lt
  have h2 := h.body.lt
  exact ⟨⟨by omega, fun e => by have := h2 _ e; omega⟩, ⟨by omega, fun e => by have := h2 _ e; omega⟩⟩
def St.openW (s : St) (x : Nat) : St := if s.op = 16 then { s with e := 4 } else if 16777216 < s.n + 5 then { s with e := 4 } else s.openOk x
def St.closeW (s : St) : St := if s.op = 0 then { s with e := 2 } else s.closeOk (s.op - 1)
theorem byte_put {b x : Nat} {v : Value} {s : St} (w : World) (h : Wr w b v s) (he : s.e = 0) (hx : x < 256) : Does w b 82 #[.pointer (some ⟨w.heap.size, 0, none⟩), .pointer (some ⟨w.heap.size + 1, 0, none⟩)] v s (s.putW 1 (byteAt x)) (Boxes w b (.int .u8 x)) := by
  unfold St.putW
  by_cases hn : 16777216 < s.n + 1
  · rw [if_pos hn]
    refine .inr ⟨4, rfl, fun V _ hV hq => ?_⟩
    obtain ⟨q0, q1⟩ := hq
    have HP := Lib.hid (put_no_uint8 b x v s V hV hn)
    clear hn hV h
    go_enter Tryd.func82, Tryd.ntmps82
    go_wp2_with fail
    refine HP.out.mono ?_
    rintro e w' ⟨rfl, rfl⟩
    unfold fault
    go_wp2_with fail
    exact ⟨rfl, by rfl, Below.refl _ _⟩
  · rw [if_neg hn]
    refine .inl ⟨he, fun V _ hV hq => ?_⟩
    obtain ⟨q0, q1⟩ := hq
    have HP := Lib.hid (put_ok_uint8 b x v s V hV hx (by omega))
    clear hn hV h hx
    go_enter Tryd.func82, Tryd.ntmps82
    go_wp2_with fail
    refine HP.out.mono ?_
    rintro e w' ⟨rfl, h2⟩
    clear HP
    go_wp2_with fail
    go_end0
    exact ⟨rfl, h2⟩
theorem open_put1 {b x : Nat} {v : Value} {s : St} (w : World) (h : Wr w b v s) (hx : x < 256) (he : s.e = 0) : Does w b 79 #[.pointer (some ⟨w.heap.size, 0, none⟩), .pointer (some ⟨w.heap.size + 1, 0, none⟩)] v s (s.openW x) (Boxes w b (.int .u8 x)) := by
  obtain ⟨n0, n1⟩ := h.boxes
  have hop := h.good.op
  unfold St.openW
  by_cases h16 : s.op = 16
  · rw [if_pos h16]
    exact .inr ⟨4, rfl, fun V _ hV hq => (open1_full V hV hq.1 h16).mono (by rintro e w' ⟨rfl, rfl⟩; exact ⟨rfl, Below.refl _ _⟩)⟩
  · rw [if_neg h16]
    by_cases hn : 16777216 < s.n + 5
    · rw [if_pos hn]
      exact .inr ⟨4, rfl, fun V _ hV hq => (open1_no V hV hq.1 hq.2 h16 hn).mono (by rintro e w' ⟨rfl, q, rfl⟩; exact ⟨rfl, below_drewN (Below.refl _ _) q⟩)⟩
    · rw [if_neg hn]
      exact .inl ⟨he, fun V _ hV hq => open1_ok V hV hq.1 hq.2 n0 n1 (by omega) hx (by omega)⟩
theorem close_put {b : Nat} {v : Value} {s : St} (w : World) (h : Wr w b v s) (he : s.e = 0) : Does w b 84 #[.pointer (some ⟨w.heap.size, 0, none⟩)] v s s.closeW (fun V => V.cell? ⟨w.heap.size, 0, none⟩ = some (.pointer (some ⟨b, 0, none⟩))) := by
  obtain ⟨n0, n1⟩ := h.boxes
  unfold St.closeW
  by_cases h0 : s.op = 0
  · rw [if_pos h0]
    exact .inr ⟨2, rfl, fun V _ hV hq => (close1_no V hV hq h0).mono (by rintro e w' ⟨rfl, rfl⟩; exact ⟨rfl, Below.refl _ _⟩)⟩
  · rw [if_neg h0]
    exact .inl ⟨he, fun V _ hV hq => close1_ok V hV hq n0 (by omega)⟩
theorem mbyte {b : Nat} {v : Value} {s : St} {x : Nat} (w : World) (h : Wr w b v s) (hx : x < 256) :
    Calls Tryd.prog 68 #[.pointer (some ⟨b, 0, none⟩), .int .u8 x] w fun e w' => e = .returned (.tuple #[]) ∧ ∃ v', Wr w' b v' (s.when (s.putW 1 (byteAt x))) ∧ Only2 b v.ownBlock w w' ∧ NewOwn v v' w := by
  have hmf := makeF
  obtain ⟨hB, hQ⟩ := boxes_any w b (.int .u8 x) 5 (fun V => (Whole.fresh V _ _).cell 0)
  have hen := enters_of Tryd.func82 (by kernel_rfl) rfl
  have HM := Lib.hid (meth_any (Q := Boxes w b (.int .u8 x)) (s' := s.putW 1 (byteAt x)) (caps := #[.pointer (some ⟨w.heap.size, 0, none⟩), .pointer (some ⟨w.heap.size + 1, 0, none⟩)]) w _ h hB hQ hen (fun he => byte_put w h he hx))
  clear h hB hQ hen
  go_enter Tryd.func68, Tryd.ntmps68
  go_wp2_with fail
  refine HM.out.mono ?_
  rintro e w' ⟨rfl, h2⟩
  clear HM
  go_wp2_with fail
  go_end0
  exact ⟨rfl, h2⟩
theorem mopen {b : Nat} {v : Value} {s : St} {x : Nat} (w : World) (h : Wr w b v s) (hx : x < 256) :
    Calls Tryd.prog 67 #[.pointer (some ⟨b, 0, none⟩), .int .u8 x] w fun e w' => e = .returned (.tuple #[]) ∧ ∃ v', Wr w' b v' (s.when (s.openW x)) ∧ Only2 b v.ownBlock w w' ∧ NewOwn v v' w := by
  have hmf := makeF
  obtain ⟨hB, hQ⟩ := boxes_any w b (.int .u8 x) 5 (fun V => (Whole.fresh V _ _).cell 0)
  have hen := enters_of Tryd.func79 (by kernel_rfl) rfl
  have HM := Lib.hid (meth_any (Q := Boxes w b (.int .u8 x)) (s' := s.openW x) (caps := #[.pointer (some ⟨w.heap.size, 0, none⟩), .pointer (some ⟨w.heap.size + 1, 0, none⟩)]) w _ h hB hQ hen (fun he => open_put1 w h hx he))
  clear h hB hQ hen
  go_enter Tryd.func67, Tryd.ntmps67
  go_wp2_with fail
  refine HM.out.mono ?_
  rintro e w' ⟨rfl, h2⟩
  clear HM
  go_wp2_with fail
  go_end0
  exact ⟨rfl, h2⟩
theorem mclose {b : Nat} {v : Value} {s : St} (w : World) (h : Wr w b v s) :
    Calls Tryd.prog 69 #[.pointer (some ⟨b, 0, none⟩)] w fun e w' => e = .returned (.tuple #[]) ∧ ∃ v', Wr w' b v' (s.when s.closeW) ∧ Only2 b v.ownBlock w w' ∧ NewOwn v v' w := by
  have hmf := makeF
  have hB := (Below.refl w.heap.size w).alloc (Nat.le_refl _) (.cells #[.pointer (some ⟨b, 0, none⟩)] 76)
  have hQ := ((Whole.fresh w 76 #[.pointer (some ⟨b, 0, none⟩)]).alloc (.cells #[.int .i64 0] 40)).cell 0
  have hen := enters_of Tryd.func84 (by kernel_rfl) rfl
  have HM := Lib.hid (meth_any (Q := fun V => V.cell? ⟨w.heap.size, 0, none⟩ = some (.pointer (some ⟨b, 0, none⟩))) (s' := s.closeW) (caps := #[.pointer (some ⟨w.heap.size, 0, none⟩)]) w _ h hB hQ hen (fun he => close_put w h he))
  clear h hB hQ hen
  go_enter Tryd.func69, Tryd.ntmps69
  go_wp2_with fail
  refine HM.out.mono ?_
  rintro e w' ⟨rfl, h2⟩
  clear HM
  go_wp2_with fail
  go_end0
  exact ⟨rfl, h2⟩
end Go.Proofs.YtbdhdedlemndeaaDoor
namespace Go.Proofs.YtbdhdedlemndeaaDoor
open Go.RowKit Go.Shelf
set_option maxRecDepth 100000
set_option maxHeartbeats 1000000
set_option linter.unusedVariables false

/-- What a writer is behind a call, if nothing went wrong before. -/
def St.step (s : St) (what n : Int) (len : Nat) (f : Nat → Nat) : St :=
  if what = 0 then s.putW 1 (byteAt (n % 256).toNat) else if what = 1 then s.putW 2 (byteAt (n % 65536).toNat) else if what = 2 then s.putW 4 (byteAt (n % 4294967296).toNat) else
  if what = 3 then s.putW 8 (byteAt (n % 18446744073709551616).toNat) else if what = 4 then s.putW 1 (byteAt (n % 2).toNat) else if what = 5 then s.putW (4 + len) (rowB len f) else
  if what = 6 then s.openW (n % 256).toNat else s.closeW
theorem and_one_i64 (n : Int) : bits BinOp.and IntKind.i64 n 1 = n % 2 := by
  have h : (BitVec.ofInt 64 n &&& BitVec.ofInt 64 1).toNat = (n % 2).toNat := by
    rw [BitVec.toNat_and, BitVec.toNat_ofInt, BitVec.toNat_ofInt, show ((1 : Int) % (2 ^ 64 : Nat)).toNat = 1 by decide, Nat.and_one_is_mod]
    omega
  show IntKind.i64.wrap ((BitVec.ofInt 64 n &&& BitVec.ofInt 64 1).toNat : Nat) = n % 2
  rw [h]
  simp only [IntKind.wrap_i64]
  omega
end Go.Proofs.YtbdhdedlemndeaaDoor
