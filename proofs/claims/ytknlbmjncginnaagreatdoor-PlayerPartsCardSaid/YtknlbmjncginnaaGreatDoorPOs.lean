/-
  A song as it comes in.
-/
import Derived.Test.YtknlbmjncginnaaGreatDoorPPw
import Derived.Test.YtknlbmjncginnaaGreatDoorTOpn
import Derived.Test.YtknlbmjncginnaaGreatDoorOpnB
namespace Go.Proofs.YtknlbmjncginnaaGreatDoor
open Go.RowKit Go.ChangeShapes Go.WideShapes Go.ChangeAt Go.Joins Go.Deep
set_option linter.unusedVariables false
set_option maxRecDepth 100000
set_option maxHeartbeats 1000000

theorem ptrod_struct3 {H : Type} {enc : TypeId × Value → H} {P : Program} {w : World} {base : Nat} {spare : Nat → Bool} {held : Bool} {t : TypeId} {f0 f1 f2 : Field} {fuel : Nat} {cs : List Value} {x : DataW H × List MemPlace}
    (ht : P.underlying t = some (.struct #[f0, f1, f2])) (h : DataW.trod enc P w base spare held fuel t cs = some x) :
    ∃ y0 y1 y2 n, x.1 = .agg [y0.1, y1.1, y2.1] ∧ DataW.trod enc P w base spare held n f0.type ((cs.drop f0.offset).take (P.cellsOf f0.type)) = some y0 ∧
      DataW.trod enc P w base spare held n f1.type ((cs.drop f1.offset).take (P.cellsOf f1.type)) = some y1 ∧ DataW.trod enc P w base spare held n f2.type ((cs.drop f2.offset).take (P.cellsOf f2.type)) = some y2 := by
  obtain ⟨xs, n, _, rfl, hl, hlen, hf⟩ := DataW.trod_struct ht h
  match xs, hlen with
  | [y0, y1, y2], _ => exact ⟨y0, y1, y2, n, by simp, by simpa using hf 0 f0 rfl, by simpa using hf 1 f1 rfl, by simpa using hf 2 f2 rfl⟩
section
variable {H : Type} {enc : TypeId × Value → H} {w : World} {base : Nat} {held : Bool} {r : Reach} {b0 : Nat} {v : Value} {d : DataW H} {p : List MemPlace}
theorem pegs_cells {fuel : Nat} {y : DataW H × List MemPlace} {c0 c1 c2 c3 c4 c5 c6 : Value} (h : DataW.trod enc Tryz.prog w base (fun _ => true) held fuel 24 [c0, c1, c2, c3, c4, c5, c6] = some y) :
    ∃ q : Rp, q.Ok ∧ c0 = .int .u8 (q.A : Nat) ∧ c1 = .int .u8 (q.X : Nat) ∧ c2 = .int .u8 (q.Y : Nat) ∧ c3 = .int .u8 (q.S : Nat) ∧ c4 = .int .u8 (q.P : Nat) ∧ c5 = .int .u16 (q.Pc : Nat) ∧ c6 = .bool q.H := by
  obtain ⟨xs, n, _, hx, _, hlen, hg⟩ := DataW.trod_struct Tryz.underlying24 h
  match xs, hlen with
  | [y0, y1, y2, y3, y4, y5, y6], _ =>
    have h0 : DataW.trod enc Tryz.prog w base (fun _ => true) held n 5 [c0] = some y0 := by simpa [show Tryz.prog.cellsOf 5 = 1 by kernel_rfl] using hg 0 _ rfl
    have h1 : DataW.trod enc Tryz.prog w base (fun _ => true) held n 5 [c1] = some y1 := by simpa [show Tryz.prog.cellsOf 5 = 1 by kernel_rfl] using hg 1 _ rfl
    have h2 : DataW.trod enc Tryz.prog w base (fun _ => true) held n 5 [c2] = some y2 := by simpa [show Tryz.prog.cellsOf 5 = 1 by kernel_rfl] using hg 2 _ rfl
    have h3 : DataW.trod enc Tryz.prog w base (fun _ => true) held n 5 [c3] = some y3 := by simpa [show Tryz.prog.cellsOf 5 = 1 by kernel_rfl] using hg 3 _ rfl
    have h4 : DataW.trod enc Tryz.prog w base (fun _ => true) held n 5 [c4] = some y4 := by simpa [show Tryz.prog.cellsOf 5 = 1 by kernel_rfl] using hg 4 _ rfl
    have h5 : DataW.trod enc Tryz.prog w base (fun _ => true) held n 22 [c5] = some y5 := by simpa [show Tryz.prog.cellsOf 22 = 1 by kernel_rfl] using hg 5 _ rfl
    have h6 : DataW.trod enc Tryz.prog w base (fun _ => true) held n 4 [c6] = some y6 := by simpa [show Tryz.prog.cellsOf 4 = 1 by kernel_rfl] using hg 6 _ rfl
    obtain ⟨x0, e0, -, w0⟩ := DataW.trod_int Tryz.underlying5 h0
    obtain ⟨x1, e1, -, w1⟩ := DataW.trod_int Tryz.underlying5 h1
    obtain ⟨x2, e2, -, w2⟩ := DataW.trod_int Tryz.underlying5 h2
    obtain ⟨x3, e3, -, w3⟩ := DataW.trod_int Tryz.underlying5 h3
    obtain ⟨x4, e4, -, w4⟩ := DataW.trod_int Tryz.underlying5 h4
    obtain ⟨x5, e5, -, w5⟩ := DataW.trod_int Tryz.underlying22 h5
    obtain ⟨x6, e6, -⟩ := DataW.trod_bool Tryz.underlying4 h6
    obtain ⟨x0, rfl, l0⟩ := nat8 w0
    obtain ⟨x1, rfl, l1⟩ := nat8 w1
    obtain ⟨x2, rfl, l2⟩ := nat8 w2
    obtain ⟨x3, rfl, l3⟩ := nat8 w3
    obtain ⟨x4, rfl, l4⟩ := nat8 w4
    obtain ⟨x5, rfl, l5⟩ := nat16 w5
    injection e0 with e0
    injection e1 with e1
    injection e2 with e2
    injection e3 with e3
    injection e4 with e4
    injection e5 with e5
    injection e6 with e6
    exact ⟨⟨x0, x1, x2, x3, x4, x5, x6⟩, ⟨l0, l1, l2, l3, l4, l5⟩, e0, e1, e2, e3, e4, e5, e6⟩
theorem open_song (hv : Value.okWide Tryz.prog w r b0 53 v) (h : DataW.Trod enc Tryz.prog w base (fun _ => true) held 53 v d p)
    (hsz : ∀ x ∈ d.weights Tryz.prog 53, x ≤ reachBytes) :
    ∃ (q : Rp) (a : Option Addr) (n c y : Nat) (g : Nat → Nat), v = songV q a n c y ∧ q.Ok ∧ Row w a n g ∧ n ≤ 140737488351232 ∧ n ≤ c ∧ y < 256 := by
  obtain ⟨cs, rfl, hs⟩ := okWide_struct Tryz.underlying53 hv
  obtain ⟨l⟩ := cs
  match l, hs.trans (show Tryz.prog.cellsOf 53 = 9 by kernel_rfl) with
  | [c0, c1, c2, c3, c4, c5, c6, c7, c8], _ =>
    obtain ⟨fuel, hf⟩ := h
    obtain ⟨y0, y1, y2, n, hxy, g0, g1, g2⟩ := ptrod_struct3 Tryz.underlying53 hf
    simp only [Value.cells, show Tryz.prog.cellsOf 24 = 7 by kernel_rfl, show Tryz.prog.cellsOf 25 = 1 by kernel_rfl, show Tryz.prog.cellsOf 5 = 1 by kernel_rfl, List.drop_zero, List.drop_succ_cons, List.take_succ_cons, List.take_zero] at g0 g1 g2
    obtain ⟨q, hq, rfl, rfl, rfl, rfl, rfl, rfl, rfl⟩ := pegs_cells g0
    obtain ⟨a, len, cap, f, rfl, hR, h1, h2⟩ := seen_bytes2 g1 (fun x hx => by
      apply hsz
      dsimp only at hxy
      rw [hxy]
      simp only [DataW.weights, Tryz.underlying53]
      simp [DataW.weightsEach, hx])
    obtain ⟨x2, e2, -, w2⟩ := DataW.trod_int Tryz.underlying5 g2
    obtain ⟨x2, rfl, l2⟩ := nat8 w2
    injection e2 with e2
    subst e2
    exact ⟨q, a, len, cap, x2, f, rfl, hq, hR, h1, h2, l2⟩
end
end Go.Proofs.YtknlbmjncginnaaGreatDoor
