/-
  An interrupt by the code is that by the document.
-/
import Derived.Test.YtnacdaodjgdnnaaGreatXDt7
namespace Go.Proofs.YtnacdaodjgdnnaaGreat
open Go.RowKit Go.Shelf
set_option maxRecDepth 100000
set_option maxHeartbeats 1000000
set_option linter.unusedVariables false

theorem Twin.rr {s : Xs} {d : Ds} (h : Twin s d) (r1 r2 : Rg) : Twin { s with r := r1 } (d.rr r2) := ⟨h.cnt, h.left, h.byte, h.list, h.stop⟩
theorem twin_idles {s : Xs} {d : Ds} (h : Twin s d) : ∀ n, Twin (idlesX n s).2 (wd (idlesW n) d).2
  | 0 => h
  | n + 1 => by
    rw [idlesD_succ]
    exact (twin_idles h n).put 0 0 0 (by decide)
theorem twin_readAt {s : Xs} {d : Ds} (h : Twin s d) (bk n : Nat) : (readAtX bk n 2 s).1 = (wd (readAtW bk n 2) d).1 ∧ Twin (readAtX bk n 2 s).2 (wd (readAtW bk n 2) d).2 := by
  rw [readAtD]
  obtain ⟨e1, h1⟩ := h.read (bk * 65536 + n % 65536)
  obtain ⟨e2, h2⟩ := h1.read (bk * 65536 + (n + 1) % 65536)
  have e : readAtX bk n 2 s = ((0 + (readX (bk * 65536 + (n + 0) % 65536) s).1 * 256 ^ 0) + (readX (bk * 65536 + (n + 1) % 65536) (readX (bk * 65536 + (n + 0) % 65536) s).2).1 * 256 ^ 1, (readX (bk * 65536 + (n + 1) % 65536) (readX (bk * 65536 + (n + 0) % 65536) s).2).2) := rfl
  rw [e, Nat.add_zero, e1, e2]
  refine ⟨by simp, h2⟩
theorem idles_r : ∀ (n : Nat) (s : Xs), (idlesX n s).2.r = s.r
  | 0, s => rfl
  | n + 1, s => by
    show ((idlesX n s).2.put 0 0 0).r = s.r
    unfold Xs.put
    split
    · exact idles_r n s
    · exact idles_r n s
theorem twin_new (r1 r2 : Rg) (n : Nat) (f : Nat → Nat) : Twin ⟨r1, n, f, [], false, cd0, 0⟩ ⟨r2, n, f, [], 0, 0⟩ := ⟨rfl, rfl, fun i _ => by rw [Nat.zero_add], rfl, by simp⟩
theorem Twin.ok {s : Xs} {d : Ds} (h : Twin s d) : (!s.st) = d.ok ∧ s.l = cutL d.n d.l := by
  refine ⟨?_, h.list⟩
  rw [h.stop, h.cnt]
  unfold Ds.ok
  by_cases hh : d.n < nreads d.l
  · rw [decide_eq_true hh, decide_eq_false (by omega)]; rfl
  · rw [decide_eq_false hh, decide_eq_true (by omega)]; rfl
theorem Twin.tr {s : Xs} {d : Ds} (h : Twin s d) (hr : s.r.settle = d.r.settle) (ha : s.af = d.af) : s.tr = d.tr ∧ s.ta = d.ta := by
  have h1 := h.ok.1
  unfold Xs.tr Ds.tr Xs.ta Ds.ta
  rw [← h1, hr, ha]
  cases s.st <;> exact ⟨rfl, rfl⟩
theorem reset_P : ∀ P, P < 256 → ∀ E : Bool, settleP (flagP (flagP (settleP P E) 4 true) 8 false) true = settleP (settleP (flagP (flagP P 4 true) 8 false) true) true ∧ settleP (flagP (flagP (settleP P E) 4 true) 8 false) true / 16 % 2 = 1 ∧ settleP (flagP (flagP P 4 true) 8 false) true / 16 % 2 = 1 := by decide +kernel
theorem settleX_mod (x P : Nat) : settleX x P % 256 = x % 256 := by
  unfold settleX
  split
  · omega
  · rfl
theorem settleS_mod (x : Nat) (E : Bool) : settleS x E % 256 = x % 256 := by
  unfold settleS
  split
  · omega
  · rfl
theorem reset_same (r : Rg) (h : r.Ok) (v : Nat) (hv : v < 65536) : (⟨r.settle.A, r.settle.X, r.settle.Y, (r.settle.S + 65533) % 65536, 0, v % 65536, 0, v / 65536 % 256, flagP (flagP r.settle.P 4 true) 8 false, true⟩ : Rg).settle = ((resetR r).pc v).settle := by
  obtain ⟨e1, e2, e3⟩ := reset_P r.P h.P r.E
  have es := settleS_mod r.S r.E
  have hS : r.settle.S = settleS r.S r.E := rfl
  have hP : r.settle.P = settleP r.P r.E := rfl
  have hX : r.settle.X = settleX r.X (settleP r.P r.E) := rfl
  have hY : r.settle.Y = settleX r.Y (settleP r.P r.E) := rfl
  have k1 : ∀ x P, P / 16 % 2 = 1 → settleX x P = x % 256 := fun x P hp => by unfold settleX; rw [if_pos hp]
  unfold resetR Rg.pc
  have e4 : settleP (settleP (flagP (flagP r.P 4 true) 8 false) true) true / 16 % 2 = 1 := by rw [← e1]; exact e2
  simp only [Rg.settle] at *
  refine congr (congr (congr (congr (congr (congr (congr (congr (congr (congrArg Rg.mk rfl) ?_) ?_) ?_) rfl) ?_) rfl) ?_) ?_) rfl
  · rw [k1 _ _ e2, k1 _ _ e4, settleX_mod, k1 _ _ e3]; omega
  · rw [k1 _ _ e2, k1 _ _ e4, settleX_mod, k1 _ _ e3]; omega
  · unfold settleS at *
    simp only [if_true]
    omega
  · exact Nat.mod_eq_of_lt hv
  · rw [Nat.div_eq_of_lt hv]
  · exact e1
end Go.Proofs.YtnacdaodjgdnnaaGreat
