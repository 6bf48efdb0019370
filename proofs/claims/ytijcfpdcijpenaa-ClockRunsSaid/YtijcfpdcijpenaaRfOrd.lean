/-
  The document's Order: each thread stands where as many stand before it as are ahead of it.
-/
import Derived.Test.YtijcfpdcijpenaaRf
import Derived.Test.YtijcfpdcijpenaaRank2
namespace Go.Proofs.Ytijcfpdcijpenaa
open Go.RowKit Go.Shelf
set_option maxRecDepth 100000
set_option maxHeartbeats 1000000
set_option linter.unusedVariables false
theorem made_vals (n : Nat) : madeCells #[Value.int .i64 0] n = (vals .i64 (List.replicate n 0)).toArray := by
  apply Array.ext
  · simp [madeCells, vals]
  · intro i h1 h2
    simp [madeCells, Nat.mod_one, vals]
theorem vals_put (k : IntKind) (zs : List Int) (i : Nat) (z : Int) : (vals k zs).toArray.setIfInBounds i (.int k z) = (vals k (zs.set i z)).toArray := by simp [vals, List.map_set]
theorem Rf.away {w : World} {p q : Nat} {ss ts : List Int} (h : Rf w p q ss ts) {a : Addr} (hp : p ≠ a.block) (hq : q ≠ a.block) (u : Value) : Rf (w.setCell a u) p q ss ts :=
  ⟨h.ne, by simpa [World.setCell] using h.pl, by simpa [World.setCell] using h.ql, fun i hi => (World.cell?_of_block (Below.heap_setCell w a u p hp)).trans (h.sc i hi), fun i hi => (World.cell?_of_block (Below.heap_setCell w a u q hq)).trans (h.tm i hi),
    fun i => by
      have := Below.heap_setCell w a u q hq
      have h0 := h.fr i
      unfold World.frozen? at h0 ⊢
      rw [this]
      exact h0, h.size⟩
/-- What has been laid of an order. -/
def Laid (ts : List Int) (n i : Nat) (ls : List Int) : Prop := ls.length = n ∧ ∀ j, j < i → ls[cntTo ts j n]?.getD 0 = (j : Nat)
theorem laid_step {ts ls : List Int} {n i : Nat} (h : Laid ts n i ls) (hi : i < n) : Laid ts n (i + 1) (ls.set (cntTo ts i n) (i : Nat)) := by
  refine ⟨by rw [List.length_set]; exact h.1, fun j hj => ?_⟩
  rw [set_read ls _ _ _ (by rw [h.1]; exact cntTo_lt ts i n hi)]
  by_cases e : j = i
  · subst e
    rw [if_pos rfl]
  · rw [if_neg (cntTo_inj ts j i n (by omega) hi e)]
    exact h.2 j (by omega)
theorem rorder_any (w : World) {p q cp cq : Nat} {ss ts : List Int} (h : Rf w p q ss ts) (hn : ss.length ≤ 16) :
    Calls Try.prog 32 #[rv p q ss.length cp cq] w fun e w' => ∃ g ls, e = .returned (.slice (some ⟨g, 0, none⟩) ss.length ss.length) ∧ Whole w' g 3 (vals .i64 ls).toArray ∧ Laid ts ss.length ss.length ls ∧ w.heap.size ≤ g ∧ Below w.heap.size w w' := by
  unfold rv
  have hmk := fun W => run_make_row' (P := Try.prog) 45 3 (.int .i64 0) 8 Try.underlying45 (by kernel_rfl) rfl .i64 .i64 ss.length (by omega) (by omega) W
  have HA := Lib.hid (fun (i j : Nat) (W : World) (hW : Rf W p q ss ts) (hi : i < ss.length) (hj : j < ss.length) => rahead_any (cp := cp) (cq := cq) i j W hW hi hj hn)
  unfold rv at HA
  go_enter Try.func32, Try.ntmps32
  go_wp2_with fail
  have hB0 : Below w.heap.size w ((w.alloc (.cells #[.slice (some ⟨p, 0, none⟩) ss.length cp, .slice (some ⟨q, 0, none⟩) ss.length cq] 25)).alloc (.cells (madeCells #[Value.int .i64 0] ss.length) 3)) := ((Below.refl _ _).alloc (Nat.le_refl _) _).alloc (by simp) _
  have hC0 : Whole ((w.alloc (.cells #[.slice (some ⟨p, 0, none⟩) ss.length cp, .slice (some ⟨q, 0, none⟩) ss.length cq] 25)).alloc (.cells (madeCells #[Value.int .i64 0] ss.length) 3)) w.heap.size 25 #[.slice (some ⟨p, 0, none⟩) ss.length cp, .slice (some ⟨q, 0, none⟩) ss.length cq] := (Whole.fresh w _ _).alloc _
  have hL0 : Whole ((w.alloc (.cells #[.slice (some ⟨p, 0, none⟩) ss.length cp, .slice (some ⟨q, 0, none⟩) ss.length cq] 25)).alloc (.cells (madeCells #[Value.int .i64 0] ss.length) 3)) (w.heap.size + 1) 3 (vals .i64 (List.replicate ss.length 0)).toArray := by
    have := Whole.fresh (w.alloc (.cells #[.slice (some ⟨p, 0, none⟩) ss.length cp, .slice (some ⟨q, 0, none⟩) ss.length cq] 25)) 3 (madeCells #[Value.int .i64 0] ss.length)
    rw [World.size_alloc] at this
    rw [made_vals] at this ⊢
    exact this
  generalize (w.alloc (.cells #[.slice (some ⟨p, 0, none⟩) ss.length cp, .slice (some ⟨q, 0, none⟩) ss.length cq] 25)).alloc (.cells (madeCells #[Value.int .i64 0] ss.length) 3) = W0 at hB0 hC0 hL0 ⊢
  clear hmk
  go_loopw [4] (fun si wr => ∃ (i : Nat) (ls : List Int), i ≤ ss.length ∧ si = .int .i64 i ∧ Whole wr w.heap.size 25 #[.slice (some ⟨p, 0, none⟩) ss.length cp, .slice (some ⟨q, 0, none⟩) ss.length cq] ∧ Whole wr (w.heap.size + 1) 3 (vals .i64 ls).toArray ∧ Hid (Laid ts ss.length i ls) ∧ Below w.heap.size w wr) (fun si _ => ss.length - (intOf si).toNat)
  case atStart => exact ⟨0, _, Nat.zero_le _, rfl, hC0, hL0, Lib.hid ⟨by simp, fun j hj => absurd hj (Nat.not_lt_zero j)⟩, hB0⟩
  case round =>
    obtain ⟨i, ls, hi, rfl, hC, hL, hLd, hB⟩ := hrel
    obtain ⟨wo, rfl⟩ : ∃ wo, wo = wr := ⟨_, rfl⟩
    clear hC0 hL0 hB0
    by_cases hlt : i < ss.length
    · have hR := h.below hB
      have hsz : w.heap.size + 1 < wo.heap.size := hL.lt
      go_wp2_with fail
      go_loopw [5, 6] (fun sn sk wq => ∃ (k c : Nat), k ≤ ss.length ∧ c ≤ k ∧ sn = .int .i64 c ∧ sk = .int .i64 k ∧ Hid (cntTo ts i k = c) ∧ Below wo.heap.size wo wq) (fun _ sk _ => ss.length - (intOf sk).toNat)
      case atStart => exact ⟨0, 0, Nat.zero_le _, Nat.le_refl _, rfl, rfl, Lib.hid rfl, Below.refl _ _⟩
      case round =>
        obtain ⟨k, c, hk, hck, rfl, rfl, hc, hBq⟩ := hrel
        have hCq := hC.below hBq (by omega)
        have hLq := hL.below hBq hsz
        by_cases hlk : k < ss.length
        · have hRq := hR.below hBq
          have HA1 := Lib.hid (HA.out k i wr hRq hlk hlt)
          have c0 := hCq.cell 0
          have c1 := hCq.cell 1
          simp only [List.getElem?_toArray, List.getElem?_cons_zero, List.getElem?_cons_succ] at c0 c1
          clear hC hL hCq hLq hRq h hR HA
          cases ha : ahd ts k i
          · rw [ha] at HA1
            have hc2 := Lib.hid (show cntTo ts i (k + 1) = c by rw [cntTo, hc.out, ha]; rfl)
            clear ha
            go_wp2_with fail
            refine HA1.out.mono ?_
            rintro e w2 ⟨rfl, hB2⟩
            go_wp2_with fail
            go_roundw
            case rel => exact ⟨k + 1, c, by omega, by omega, rfl, by go_num, hc2, hBq.trans (hB2.mono hBq.size)⟩
            case measure => simp [intOf]; omega
          · rw [ha] at HA1
            have hc2 := Lib.hid (show cntTo ts i (k + 1) = c + 1 by rw [cntTo, hc.out, ha]; rfl)
            clear ha
            go_wp2_with fail
            refine HA1.out.mono ?_
            rintro e w2 ⟨rfl, hB2⟩
            go_wp2_with fail
            go_roundw
            case rel => exact ⟨k + 1, c + 1, by omega, by omega, by go_num, by go_num, hc2, hBq.trans (hB2.mono hBq.size)⟩
            case measure => simp [intOf]; omega
        · obtain rfl : k = ss.length := by omega
          have hcl : c < ss.length := by rw [← hc.out]; exact cntTo_lt ts i _ hlt
          have hst := laid_step hLd.out hlt
          rw [hc.out] at hst
          have HST := Lib.hid hst
          have hB3 : Below w.heap.size w wr := hB.trans (hBq.mono hB.size)
          have f0 := hLq.free c
          have hput := hLq.put c (.int .i64 (i : Nat))
          rw [vals_put] at hput
          have hcp := hCq.away (p := ⟨w.heap.size + 1, c, none⟩) (by simp) (.int .i64 (i : Nat))
          have hx : wr.cell? ⟨w.heap.size + 1, c, none⟩ = some (.int .i64 (ls[c]?.getD 0)) := by
            rw [hLq.cell c]
            have : c < ls.length := by rw [hLd.out.1]; exact hcl
            simp [vals, this]
          generalize ls[c]?.getD 0 = z at hx
          clear hst hL hC hLq hCq h hR HA hc
          go_wp2_with fail
          go_roundw
          case rel => exact ⟨i + 1, ls.set c i, by omega, by go_num, hcp, hput, HST, hB3.setCell (p := ⟨w.heap.size + 1, c, none⟩) (by simp) _⟩
          case measure => simp [intOf]; omega
    · obtain rfl : i = ss.length := by omega
      go_wp2_with fail
      go_ret
      exact ⟨w.heap.size + 1, ls, rfl, hL, hLd.out, by omega, hB⟩
end Go.Proofs.Ytijcfpdcijpenaa
