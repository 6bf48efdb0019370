/-
  Open, Close and Bytes within their attempts, where there is room.
-/
import Derived.Test.YtacnmnodbmbplaaClo
namespace Go.Proofs.Ytacnmnodbmbplaa
open Go.RowKit Go.Shelf
set_option maxRecDepth 100000
set_option maxHeartbeats 1000000

theorem Owns.away {w : World} {v : Value} {n : Nat} {f : Nat → Nat} (h : Owns w v n f) {x : Nat} (hx : v.ownBlock ≠ some x) (i : Nat) (u : Value) : Owns (w.setCell ⟨x, i, Option.none⟩ u) v n f :=
  h.kept (row := some x) ⟨rfl, rfl, rfl, by simp [World.setCell], fun k _ hk => Below.heap_setCell _ _ _ _ (fun e => hk (by rw [e]))⟩ (.inr hx)
theorem Wr.opened {w : World} {b q : Nat} {v : Value} {s : St} (h : Wr w b v s) (hop : s.op < 16) (hq : 4 ≤ q ∧ q ≤ s.n) :
    Wr ((w.setCell ⟨b, 1 + s.op, none⟩ (.int .i64 (q : Nat))).setCell ⟨b, 17, none⟩ (.int .i64 ((s.op + 1 : Nat) : Int))) b v { s with ps := upd s.ps s.op q, op := s.op + 1 } :=
  ⟨(h.head.setp s.op q hop).set17 (s.op + 1), (h.body.away h.far _ _).away h.far _ _, h.far, by show s.op + 1 ≤ 16; omega, h.good.n, fun i hi => by
    show 4 ≤ upd s.ps s.op q i ∧ upd s.ps s.op q i ≤ s.n
    have hi : i < s.op + 1 := hi
    unfold upd
    split
    · exact hq
    · exact h.good.ps i (by omega)⟩
/-- Behind Open. -/
def St.openOk (s : St) (x : Nat) : St := { s with n := s.n + 5, f := fun i => if i < s.n then s.f i else if i = s.n then x else 0, ps := upd s.ps s.op (s.n + 5), op := s.op + 1 }
theorem open1_ok {b p0 p1 x : Nat} {v : Value} {s : St} (w : World) (h : Wr w b v s) (q0 : w.cell? ⟨p0, 0, none⟩ = some (.pointer (some ⟨b, 0, none⟩))) (q1 : w.cell? ⟨p1, 0, none⟩ = some (.int .u8 x))
    (n0 : p0 ≠ b ∧ v.ownBlock ≠ some p0) (n1 : p1 ≠ b ∧ v.ownBlock ≠ some p1) (hop : s.op < 16) (hx : x < 256) (hn : s.n + 5 ≤ 16777216) :
    Calls Try.prog 70 #[.pointer (some ⟨p0, 0, none⟩), .pointer (some ⟨p1, 0, none⟩)] w fun e w' => e = .returned (.tuple #[]) ∧ ∃ v', Wr w' b v' (s.openOk x) ∧ Only2 b v.ownBlock w w' ∧ NewOwn v v' w := by
  have c17 := h.head.c17
  have t1 : ((s.op : Int) == 16) = false := by rw [beq_eq_false_iff_ne]; omega
  have hd := h.below (Below.drew (Below.refl w.heap.size w))
  have HR := Lib.hid (room_ok b 5 v s w.drew hd (by decide) hn)
  have l0 := World.block_lt_of_cell? w _ q0
  have l1 := World.block_lt_of_cell? w _ q1
  have d0 : w.drew.cell? ⟨p0, 0, none⟩ = some (.pointer (some ⟨b, 0, none⟩)) := q0
  have d1 : w.drew.cell? ⟨p1, 0, none⟩ = some (.int .u8 x) := q1
  have hnx := Lib.hid (show x < 256 ∧ s.op < 16 ∧ s.n + 5 ≤ 16777216 from ⟨hx, hop, hn⟩)
  have keep : ∀ (W1 : World) (g : Nat), Only2 b v.ownBlock w.drew W1 → W1.cell? ⟨p0, 0, none⟩ = some (.pointer (some ⟨b, 0, none⟩)) ∧ W1.cell? ⟨p1, 0, none⟩ = some (.int .u8 x) := fun W1 g hO =>
    ⟨(World.cell?_of_block (hO.block p0 l0 n0.1 (fun e => n0.2 e.symm))).trans d0, (World.cell?_of_block (hO.block p1 l1 n1.1 (fun e => n1.2 e.symm))).trans d1⟩
  replace keep := Lib.hid keep
  have hdn := Lib.hid (show Only2 b v.ownBlock w w.drew from Only2.of_below (Below.drew (Below.refl _ _)))
  clear h hop hn hx hd
  go_enter Try.func70, Try.ntmps70
  go_wp2_with fail
  refine (refuse_no _ _).mono ?_
  rintro e w' ⟨rfl, hw⟩
  subst hw
  go_wp2_with fail
  go_region_held3 (fun W => W.cell? ⟨p0, 0, none⟩ = some (.pointer (some ⟨b, 0, none⟩)) ∧ W.cell? ⟨p1, 0, none⟩ = some (.int .u8 x))
    (first | exact ⟨d0, d1⟩ | exact k1 | exact k2 | go_keep)
    (first
      | (go_at_call 69; refine HR.out.mono ?_; rintro e w1 ⟨g, cap, rfl, hW1, hO1, hg1⟩; have k1 := keep.out w1 g hO1)
      | (go_at_call 71; obtain ⟨cs, hcs, hsz, _, hcap, _, _⟩ := hW1.cs; refine (lay_uint8 g s.n 5 (cap - s.n) x cs w1 hcs hnx.out.1 (by decide) (by omega)).mono ?_; rintro e w2 ⟨rfl, hL2⟩; have hO2 := hO1.trans (Only2.laid (b := b) hL2) (hg1.imp id (fun h y hy => by injection hy with hy; exact hy ▸ h)); have k2 := keep.out w2 g hO2))
  have hW2 := hW1.laid hcs hL2 (by show s.n + 1 ≤ s.n + 5; omega)
  have hno : NewOwn v (.slice (some ⟨g, 0, none⟩) (s.n + 5) cap) w' := hg1.imp (fun h => h) (fun h y hy => Nat.le_trans h (Nat.le_of_eq (by simpa [Value.ownBlock] using hy)))
  have hO3 := hdn.out.trans hO2 (.inl rfl)
  obtain ⟨k20, k21⟩ := k2
  have hgb : some g ≠ some b := hW2.far
  clear HR hW1 hO1 hg1 k1 hcs hsz hcap hL2 hO2 keep hdn d0 d1 q0 q1 c17 l0 l1
  have hO4 := hO3.trans (Only2.of_below (Below.drew (Below.refl w2.heap.size w2))) (o' := v.ownBlock) (.inl rfl)
  have hW3 := hW2.below (Below.drew (Below.refl w2.heap.size w2))
  have e17 := hW3.head.c17
  have e0 := hW3.head.c0
  have ep := hW3.head.cp s.op hnx.out.2.1
  have fp := hW3.head.free (1 + s.op)
  have r0 : w2.drew.cell? ⟨p0, 0, none⟩ = some (.pointer (some ⟨b, 0, none⟩)) := k20
  have hop : (s.op : Int) < 16 := by have := hnx.out; omega
  have e5 : ((s.n + 5 : Nat) : Int) = (s.n : Int) + 5 := by omega
  have e1 : ((s.op + 1 : Nat) : Int) = (s.op : Int) + 1 := by omega
  have hWo := hW3.opened (q := s.n + 5) hnx.out.2.1 ⟨by omega, Nat.le_refl _⟩
  have f17 := (hW3.head.setp s.op (s.n + 5) hnx.out.2.1).free 17
  rw [e5] at hWo f17
  have hO5 := (hO4.trans (Only2.of_set (o := v.ownBlock) w2.drew (1 + s.op) (.int .i64 ((s.n : Int) + 5))) (.inl rfl)).trans (Only2.of_set (o := v.ownBlock) _ 17 (.int .i64 ((s.op + 1 : Nat) : Int))) (.inl rfl)
  rw [show (({ n := s.n + 5, f := over (zeroed s.f s.n) s.n 1 (byteAt x), ps := s.ps, op := s.op, e := s.e } : St)).op = s.op from rfl, e1] at hWo
  rw [e1] at hO5
  replace hWo := Lib.hid hWo
  replace hO5 := Lib.hid hO5
  clear e5 e1 hO4 hO3 hW2 hW3
  go_wp2_with fail
  go_still_tail 13, (by kernel_rfl)
  show wpList _ _ _ _ _ w2.drew
  generalize w2.drew = W2 at *
  go_wp2_with fail
  go_end0
  refine ⟨rfl, _, hWo.out.congr rfl rfl rfl rfl (fun i hi => ?_), hO5.out, hno⟩
  show (if i < s.n then s.f i else if i = s.n then x else 0) = over (zeroed s.f s.n) s.n 1 (byteAt x) i
  unfold over zeroed
  by_cases h1 : i < s.n
  · rw [if_pos h1, if_neg (by omega), if_pos h1]
  · rw [if_neg h1]
    by_cases h2 : i = s.n
    · subst h2
      rw [if_pos rfl, if_pos (by omega), Nat.sub_self]
      unfold byteAt
      rw [Nat.mul_zero, Nat.pow_zero, Nat.div_one, Nat.mod_eq_of_lt hnx.out.1]
    · rw [if_neg h2, if_neg (by omega), if_neg h1]
end Go.Proofs.Ytacnmnodbmbplaa
