/-
  Close and Bytes within their attempts.
-/
import Derived.Test.YtacnmnodbmbplaaClo2
namespace Go.Proofs.Ytacnmnodbmbplaa
open Go.RowKit Go.Shelf
set_option maxRecDepth 100000
set_option maxHeartbeats 1000000

theorem close1_no {b p0 : Nat} {v : Value} {s : St} (w : World) (h : Wr w b v s) (q0 : w.cell? ⟨p0, 0, none⟩ = some (.pointer (some ⟨b, 0, none⟩))) (hop : s.op = 0) :
    Calls Try.prog 57 #[.pointer (some ⟨p0, 0, none⟩)] w fun e w' => e = fault 2 ∧ w' = w := by
  have c17 := h.head.c17
  rw [hop] at c17
  clear h hop
  go_enter Try.func57, Try.ntmps57
  go_wp2_with fail
  refine (refuse_yes _ _).mono ?_
  rintro e w' ⟨rfl, rfl⟩
  unfold fault
  go_wp2_with fail
  exact ⟨rfl, by rfl, rfl⟩
/-- Behind Close. -/
def St.closeOk (s : St) (q : Nat) : St := { s with op := q, f := over s.f (s.ps q - 4) 4 (byteAt (s.n - s.ps q)) }
theorem Wr.closed {w : World} {b q : Nat} {v : Value} {s : St} (h : Wr w b v s) (hop : s.op = q + 1) : Wr (w.setCell ⟨b, 17, none⟩ (.int .i64 (q : Nat))) b v { s with op := q } :=
  ⟨h.head.set17 q, h.body.away h.far _ _, h.far, by have := h.good.op; show q ≤ 16; omega, h.good.n, fun i hi => h.good.ps i (by have hi : i < q := hi; omega)⟩
theorem close1_ok {b p0 q : Nat} {v : Value} {s : St} (w : World) (h : Wr w b v s) (q0 : w.cell? ⟨p0, 0, none⟩ = some (.pointer (some ⟨b, 0, none⟩))) (n0 : p0 ≠ b ∧ v.ownBlock ≠ some p0) (hop : s.op = q + 1) :
    Calls Try.prog 57 #[.pointer (some ⟨p0, 0, none⟩)] w fun e w' => e = .returned (.tuple #[]) ∧ ∃ v', Wr w' b v' (s.closeOk q) ∧ Only2 b v.ownBlock w w' ∧ NewOwn v v' w := by
  have c17 := h.head.c17
  have f17 := h.head.free 17
  rw [hop] at c17
  have hq : q < 16 := by have := h.good.op; omega
  have hps := h.good.ps q (by omega)
  have hsn := h.good.n
  obtain ⟨g, cap, rfl⟩ : ∃ g cap, v = .slice (some ⟨g, 0, none⟩) s.n cap := by
    rcases h.body.2 with ⟨_, h0⟩ | ⟨g, cap, cs, rfl, _⟩
    · omega
    · exact ⟨g, cap, rfl⟩
  have t1 : (((q + 1 : Nat) : Int) == 0) = false := by rw [beq_eq_false_iff_ne]; omega
  have hW := h.closed hop
  have hOn := (Only2.of_set (o := (Value.slice (some ⟨g, 0, none⟩) s.n cap).ownBlock) w 17 (.int .i64 (q : Nat)) : Only2 b _ w _)
  have r0 : (w.setCell ⟨b, 17, none⟩ (.int .i64 (q : Nat))).cell? ⟨p0, 0, none⟩ = some (.pointer (some ⟨b, 0, none⟩)) := (World.cell?_of_block (Below.heap_setCell _ _ _ _ n0.1)).trans q0
  clear h
  go_enter Try.func57, Try.ntmps57
  go_wp2_with fail
  refine (refuse_no _ _).mono ?_
  rintro e w' ⟨rfl, hw⟩
  subst hw
  go_upto_region 2 with (fail)
  generalize w'.setCell ⟨b, 17, none⟩ (.int .i64 (q : Nat)) = W2 at *
  have e17 := hW.head.c17
  have ep := hW.head.cp q hq
  have hqi : (q : Int) < 16 := by omega
  have hps2 := Lib.hid hps
  replace hW := Lib.hid hW
  obtain ⟨G, hF⟩ : ∃ G, s.ps q = G + 4 := ⟨s.ps q - 4, by omega⟩
  rw [hF] at hps hps2 ep
  clear c17 f17 q0 t1
  go_quiet (fail)
  have hbN := below_drewN (Below.refl W2.heap.size W2) nq
  replace hW := hW.out.below hbN
  have hOn1 := hOn.trans (Only2.of_below (b := b) (o := (Value.slice (some ⟨g, 0, none⟩) s.n cap).ownBlock) hbN) (.inl rfl)
  have r1 : (W2.drewN nq).cell? ⟨p0, 0, none⟩ = some (.pointer (some ⟨b, 0, none⟩)) := r0
  generalize W2.drewN nq = W3 at *
  replace hbN := Below.drew (Below.refl W3.heap.size W3)
  replace hW := hW.below hbN
  have hOn2 := hOn1.trans (Only2.of_below (b := b) (o := (Value.slice (some ⟨g, 0, none⟩) s.n cap).ownBlock) hbN) (.inl rfl)
  replace r1 : W3.drew.cell? ⟨p0, 0, none⟩ = some (.pointer (some ⟨b, 0, none⟩)) := r1
  have e0 := hW.head.c0
  obtain ⟨cs, hcs, hsz, _, hcap, hmax, _⟩ := hW.cs
  have HL := lay_uint32 g G (s.n - G) (cap - G) (s.n - (G + 4)) cs _ hcs (by omega) (by omega) (by omega)
  have i2 : (G : Int) ≤ s.n := by omega
  have i3 : ((s.n - (G + 4) : Nat) : Int) = (s.n : Int) - ((G : Int) + 4) := by omega
  rw [i3] at HL
  replace HL := Lib.hid HL
  have i7 : s.n ≤ cap := hcap
  have i8 : ¬ cap = G := by omega
  have i9 : G ≤ s.n := by omega
  have i6 : (s.n : Int) ≤ (cap : Int) := by omega
  have w6 : IntKind.i64.wrap (G : Int) = (G : Int) := by simp only [IntKind.wrap_i64]; omega
  have w7 : IntKind.i64.wrap ((s.n : Int) - ((G : Int) + 4)) = ((s.n - (G + 4) : Nat) : Int) := by simp only [IntKind.wrap_i64]; omega
  have w8 : IntKind.u32.wrap ((s.n - (G + 4) : Nat) : Int) = ((s.n - (G + 4) : Nat) : Int) := by simp only [IntKind.wrap_u32]; omega
  have w3 : wrap64 ((s.n : Int) - ((G : Int) + 4)) = ((s.n - (G + 4) : Nat) : Int) := by unfold wrap64; omega
  have w4 : IntKind.u32.wrap ((s.n : Int) - ((G : Int) + 4)) = ((s.n - (G + 4) : Nat) : Int) := by simp only [IntKind.wrap_u32]; omega
  have w5 : ((s.n : Int) - ((G : Int) + 4)) % 4294967296 = ((s.n - (G + 4) : Nat) : Int) := by omega
  clear hOn hOn1 r0 e17 ep hps hqi hbN
  go_upto_region 3 with (fail)
  go_region_held3 (fun W => W.cell? ⟨p0, 0, none⟩ = some (.pointer (some ⟨b, 0, none⟩)) ∧ W.cell? ⟨b, 0, none⟩ = some (.slice (some ⟨g, 0, none⟩) s.n cap))
    (first | exact ⟨r1, e0⟩ | (exact ⟨k0, k1⟩) | go_keep)
    (first
      | (go_at_call 58; (with_reducible refine HL.out.mono ?_); rintro e w3 ⟨rfl, hL⟩; have k0 : w3.cell? ⟨p0, 0, none⟩ = some (.pointer (some ⟨b, 0, none⟩)) := (World.cell?_of_block (hL.only.block p0 (World.block_lt_of_cell? _ _ r1) (fun e => n0.2 e.symm))).trans r1; have k1 : w3.cell? ⟨b, 0, none⟩ = some (.slice (some ⟨g, 0, none⟩) s.n cap) := (World.cell?_of_block (hL.only.block b hW.head.lt (fun e => hW.far e.symm))).trans e0))
  have hW4 := hW.laid hcs hL (by omega)
  have hO4 := hOn2.trans (Only2.laid (b := b) hL) (.inl rfl)
  clear HL k0 k1
  go_wp2_with fail
  go_end0
  refine ⟨rfl, _, hW4.congr rfl rfl rfl rfl (fun i hi => ?_), hO4, NewOwn.refl _ _⟩
  show over s.f (s.ps q - 4) 4 (byteAt (s.n - s.ps q)) i = over s.f G 4 (byteAt (s.n - (G + 4))) i
  rw [hF, Nat.add_sub_cancel]
end Go.Proofs.Ytacnmnodbmbplaa
