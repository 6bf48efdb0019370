/-
  An instruction that is given up is caught; a runner is made.
-/
import Derived.Test.YtknlbmjncginnaaGreatDoorPB
import Derived.Defers
import Derived.Recover
import Derived.Deep.RegionHeld2
import Derived.Test.YtknlbmjncginnaaGreatDoorTRun
import Derived.StillTailTactics
namespace Go.Proofs.YtknlbmjncginnaaGreatDoor
open Go.RowKit Go.Shelf
set_option maxRecDepth 100000
set_option maxHeartbeats 1000000
set_option linter.unusedVariables false

theorem catch_lack (p : Addr) (x : Bool) (older : List PanicEntry) (w : World) (hc : w.cell? p = some (.bool x)) (hz : w.frozen? p = false) :
    CallsD Tryz.prog 90 #[.pointer (some p)] (.panicking ({ v := lackV, recovered := false } :: older)) w fun e u' w' =>
      e = .returned (.tuple #[]) ∧ u' = .panicking ({ v := lackV, recovered := true } :: older) ∧ w' = (w.alloc (.cells #[] 90)).setCell p (.bool false) := by
  have hc' : ∀ o, (w.alloc o).cell? p = some (.bool x) := fun o => (Below.cell ((Below.refl _ w).alloc (Nat.le_refl _) o) (World.block_lt_of_cell? w p hc)).trans hc
  have hz' : ∀ o, (w.alloc o).frozen? p = false := fun o => (World.frozen?_alloc_old w o p (Nat.ne_of_lt (World.block_lt_of_cell? w p hc))).trans hz
  have hta : ∀ W : World, (Instr.typeAssert (.iface 90 (.agg #[])) 20 90 true).run Tryz.prog W = .ok (.tuple #[.agg #[], .bool true]) W := fun _ => by kernel_rfl
  unfold lackV at *
  refine callsD_of_wpS Tryz.func90 rfl fun c₀ cs hu => ?_
  apply wpS_seq
  apply wpS_region
  simp [wpOpsS, go_sem, recoverD, hu, Tryz.ntmps90, Exit.thenS]
  refine wpS_of_wp ?_
  simp only [Array.replicate_succ, Array.replicate_zero, List.push_toArray, List.append_toArray, List.nil_append, List.cons_append, List.setIfInBounds_toArray, List.set_cons_succ, List.set_cons_zero]
  go_wp2
  exact ⟨rfl, _, rfl, .tuple #[], results_none rfl _ _ _, rfl, rfl, rfl⟩
theorem catch_idle (p : Addr) (w : World) :
    CallsD Tryz.prog 90 #[.pointer (some p)] .returning w fun e u' w' => e = .returned (.tuple #[]) ∧ u' = .returning ∧ w' = w := by
  refine callsD_of_wpS Tryz.func90 rfl fun c₀ cs hu => ?_
  apply wpS_seq
  apply wpS_region
  simp [wpOpsS, go_sem, recoverD, hu, Tryz.ntmps90, Exit.thenS]
  refine wpS_of_wp ?_
  simp only [Array.replicate_succ, Array.replicate_zero, List.push_toArray, List.append_toArray, List.nil_append, List.cons_append, List.setIfInBounds_toArray, List.set_cons_succ, List.set_cons_zero]
  go_wp2
  refine ⟨rfl, .returning, by cases c₀; simp_all, .tuple #[], results_none rfl _ _ _, rfl, rfl, rfl⟩
theorem whole_any {k : Nat} {fs : Array Value} (w : World) (G B : World → Prop) (hen : ∀ (args : Array Value) (W : World), (callFunc k args).run Tryz.prog W = .ok (.enter k args) W)
    (hdo : Calls Tryz.prog k fs (w.alloc (.cells #[.bool false] 4)) fun e w' => Whole w' w.heap.size 4 #[.bool false] ∧ ((e = .returned (.tuple #[]) ∧ G w') ∨ (e = lackE ∧ B w'))) :
    Calls Tryz.prog 49 #[.func (.func k) fs #[]] w fun e w' => (e = .returned (.bool true) ∧ ∃ V, G V ∧ w' = V.setCell ⟨w.heap.size, 0, none⟩ (.bool true)) ∨
      (e = .returned (.bool false) ∧ ∃ V, B V ∧ w' = (V.alloc (.cells #[] 90)).setCell ⟨w.heap.size, 0, none⟩ (.bool false)) := by
  have hmf : ∀ (fn : Fn) (first cap : Array Value) (w : World), (Instr.makeFunc fn first cap).run Tryz.prog w = .ok (.func fn first cap) w := fun _ _ _ _ => rfl
  replace hdo := Lib.hid hdo
  go_enter_defers Tryz.func49, Tryz.ntmps49
  go_wp2_with fail
  refine hdo.out.mono ?_
  rintro e w' ⟨hW, (⟨rfl, hG⟩ | ⟨rfl, hB⟩)⟩
  · have h0 := hW.cell 0
    have h1 := hW.free 0
    simp only [List.getElem?_toArray, List.getElem?_cons_zero] at h0
    clear hdo
    go_wp2_with fail
    refine leaves_cons (f := 90) (args := #[.pointer (some ⟨w.heap.size, 0, none⟩)]) (by simp) (by simp [go_sem]) ?_
    refine (catch_idle ⟨w.heap.size, 0, none⟩ _).mono ?_
    rintro e u' w'' ⟨rfl, rfl, rfl⟩
    have h2 := (hW.put 0 (.bool true)).cell 0
    simp only [List.getElem?_toArray, List.getElem?_cons_zero, List.setIfInBounds_toArray, List.set_cons_zero] at h2
    clear hen hmf h0 h1 hW
    simp [Leaves, settle, results, Tryz.results49, go_sem, h2]
    exact ⟨_, hG, rfl⟩
  · clear hdo
    unfold lackE
    have h0 := hW.cell 0
    have h1 := hW.free 0
    simp only [List.getElem?_toArray, List.getElem?_cons_zero] at h0
    go_wp2_with fail
    refine leaves_cons (f := 90) (args := #[.pointer (some ⟨w.heap.size, 0, none⟩)]) (by simp) (by simp [go_sem]) ?_
    refine (catch_lack ⟨w.heap.size, 0, none⟩ false [] _ h0 h1).mono ?_
    rintro e u' w'' ⟨rfl, rfl, rfl⟩
    have h2 := ((hW.alloc (.cells #[] 90)).put 0 (.bool false)).cell 0
    simp only [List.getElem?_toArray, List.getElem?_cons_zero, List.setIfInBounds_toArray, List.set_cons_zero] at h2
    clear hen hmf h0 h1 hW
    simp [Leaves, settle, results, Tryz.results49, go_sem, h2]
    exact ⟨_, hB, rfl⟩
def pegC (r : Rp) : Array Value := #[.int .u8 r.A, .int .u8 r.X, .int .u8 r.Y, .int .u8 r.S, .int .u8 r.P, .int .u16 r.Pc, .bool r.H]
def pegV (r : Rp) : Value := .agg #[.int .u8 r.A, .int .u8 r.X, .int .u8 r.Y, .int .u8 r.S, .int .u8 r.P, .int .u16 r.Pc, .bool r.H]
def z0 : Zs := ⟨.int .u8 0, .string ⟨#[]⟩, .string ⟨#[]⟩, .int .i64 0, .int .i64 0, .int .u8 0, .int .u16 0, .nilFunc, .nilFunc, .int .u8 0, .int .u16 0, .nilFunc, .nilFunc⟩
def made12 : Array Value := #[.int .u8 0, .int .u32 0, .int .u8 0, .int .u8 0, .int .u32 0, .int .u8 0, .int .u8 0, .int .u32 0, .int .u8 0, .int .u8 0, .int .u32 0, .int .u8 0, .int .u8 0, .int .u32 0, .int .u8 0, .int .u8 0, .int .u32 0, .int .u8 0, .int .u8 0, .int .u32 0, .int .u8 0, .int .u8 0, .int .u32 0, .int .u8 0, .int .u8 0, .int .u32 0, .int .u8 0, .int .u8 0, .int .u32 0, .int .u8 0, .int .u8 0, .int .u32 0, .int .u8 0, .int .u8 0, .int .u32 0, .int .u8 0]
theorem make12 : ∀ w : World, (Instr.makeSlice 26 (.int .i64 0) (.int .i64 12)).run Tryz.prog w = .ok (.slice (some ⟨w.heap.size, 0, none⟩) 0 12) (w.alloc (.cells made12 42)) := fun _ => by kernel_rfl
theorem owns12 (w : World) (B : Nat) (hB : B ≤ w.heap.size) : (w.alloc (.cells made12 42)).ownsRow B 42 3 (.slice (some ⟨w.heap.size, 0, none⟩) 0 12) 0 [] := by
  refine ⟨rfl, .inr ⟨w.heap.size, 12, made12, rfl, hB, Whole.fresh w _ _, by decide, by unfold maxLen; decide, by decide, by rfl⟩⟩
theorem runnerOf_any (r : Rp) (kf : Nat) (x : Nat) (w : World) :
    Calls Tryz.prog 47 #[pegV r, .func (.func kf) #[] #[.pointer (some ⟨x, 0, none⟩)]] w fun e w' => ∃ b lv, e = .returned (.pointer (some ⟨b, 0, none⟩)) ∧ Below w.heap.size w w' ∧ w.heap.size ≤ b ∧
      Whole w' b 98 (rnT r (.func (.func kf) #[] #[.pointer (some ⟨x, 0, none⟩)]) lv z0) ∧ w'.ownsRow w.heap.size 42 3 lv 0 [] := by
  obtain ⟨Q, hQ, F⟩ := post_name (fun (e : Ending) (w' : World) => ∃ b lv, e = .returned (.pointer (some ⟨b, 0, none⟩)) ∧ Below w.heap.size w w' ∧ w.heap.size ≤ b ∧ Whole w' b 98 (rnT r (.func (.func kf) #[] #[.pointer (some ⟨x, 0, none⟩)]) lv z0) ∧ w'.ownsRow w.heap.size 42 3 lv 0 [])
  rw [hQ]
  clear hQ
  replace F := Lib.hid F
  have hX := Whole.fresh w 24 (pegC r)
  unfold pegC at hX
  unfold pegV
  have x0 := hX.cell 0
  have x1 := hX.cell 1
  have x2 := hX.cell 2
  have x3 := hX.cell 3
  have x4 := hX.cell 4
  have x5 := hX.cell 5
  have x6 := hX.cell 6
  simp only [List.getElem?_toArray, List.getElem?_cons_zero, List.getElem?_cons_succ] at x0 x1 x2 x3 x4 x5 x6
  go_enter Tryz.func47, Tryz.ntmps47
  have hmk := make12
  go_upto_region 1 with (fail)
  have hBw := (Below.refl w.heap.size w).alloc (Nat.le_refl _) (.cells #[.int .u8 r.A, .int .u8 r.X, .int .u8 r.Y, .int .u8 r.S, .int .u8 r.P, .int .u16 r.Pc, .bool r.H] 24)
  have hsz : (w.alloc (.cells #[.int .u8 r.A, .int .u8 r.X, .int .u8 r.Y, .int .u8 r.S, .int .u8 r.P, .int .u16 r.Pc, .bool r.H] 24)).heap.size = w.heap.size + 1 := by simp
  generalize w.alloc (.cells #[.int .u8 r.A, .int .u8 r.X, .int .u8 r.Y, .int .u8 r.S, .int .u8 r.P, .int .u16 r.Pc, .bool r.H] 24) = W1 at *
  generalize hX0 : w.heap.size = X at *
  replace hX0 := Lib.hid hX0
  replace hsz := Lib.hid hsz
  replace hBw := Lib.hid hBw
  clear hX
  go_region_held2 (fun W => W.cell? ⟨X, 0, none⟩ = some (.int .u8 (r.A : Nat)) ∧ W.cell? ⟨X, 1, none⟩ = some (.int .u8 (r.X : Nat)) ∧ W.cell? ⟨X, 2, none⟩ = some (.int .u8 (r.Y : Nat)) ∧ W.cell? ⟨X, 3, none⟩ = some (.int .u8 (r.S : Nat)) ∧ W.cell? ⟨X, 4, none⟩ = some (.int .u8 (r.P : Nat)) ∧ W.cell? ⟨X, 5, none⟩ = some (.int .u16 (r.Pc : Nat)) ∧ W.cell? ⟨X, 6, none⟩ = some (.bool r.H)) (go_keep) (fail)
  have hb2 : X ≤ W1.heap.size := by have := hsz.out; omega
  have hF1 := Whole.fresh (W1.alloc (.cells made12 42)) 98 (rnT r (.func (.func kf) #[] #[.pointer (some ⟨x, 0, none⟩)]) (.slice (some ⟨W1.heap.size, 0, none⟩) 0 12) z0)
  rw [show (W1.alloc (.cells made12 42)).heap.size = W1.heap.size + 1 by simp] at hF1
  have hF2 := (owns12 W1 X hb2).alloc (.cells (rnT r (.func (.func kf) #[] #[.pointer (some ⟨x, 0, none⟩)]) (.slice (some ⟨W1.heap.size, 0, none⟩) 0 12) z0) 98)
  have hF3 := ((hBw.out.alloc hb2 (.cells made12 42)).alloc (by simp; omega) (.cells (rnT r (.func (.func kf) #[] #[.pointer (some ⟨x, 0, none⟩)]) (.slice (some ⟨W1.heap.size, 0, none⟩) 0 12) z0) 98)).drew
  have hfin := Lib.hid (F.out (.returned (.pointer (some ⟨W1.heap.size + 1, 0, none⟩))) _ ⟨_, _, rfl, hF3, show X ≤ W1.heap.size + 1 by omega, hF1.drew, hF2.drew⟩)
  unfold rnT z0 at hfin
  clear hF1 hF2 hF3 hmk x0 x1 x2 x3 x4 x5 x6
  clear F
  go_wp2_with fail
  exact hfin.out
end Go.Proofs.YtknlbmjncginnaaGreatDoor
namespace Go.Proofs.YtknlbmjncginnaaGreatDoor
open Go.RowKit Go.Shelf
set_option maxRecDepth 100000
set_option maxHeartbeats 2000000
set_option linter.unusedVariables false

theorem pegs_info : True := trivial
def s0 (r : Rp) (q : Sc) : Ts := ⟨r, [], q⟩
theorem bare0 : Bare z0 := ⟨rfl, rfl, rfl, rfl, rfl, rfl, rfl, rfl⟩
/-- A runner that has just been made is one. -/
theorem Tk.made {w W W' : World} {x b : Nat} {lv : Value} {r : Rp} {q : Sc} {mem : Option (Nat → Nat)} {a : Option Addr} {n c : Nat} {f : Nat → Nat} (hr : r.Ok) (hq : q.Ok) (hm : q.mem = mem)
    (hb : Below w.heap.size w W) (hx : w.heap.size ≤ x) (hX : Whole W x 25 #[.slice a n c]) (hnc : n ≤ c) (hR : Row w a n f) (hF : Fits mem q.seen n f)
    (hB : Below W.heap.size W W') (hbb : W.heap.size ≤ b) (hW : Whole W' b 98 (rnT r (ansV ⟨w, w.heap.size, b, x, mem⟩) lv z0)) (ho : W'.ownsRow W.heap.size 42 3 lv 0 []) :
    Tk ⟨w, w.heap.size, b, x, mem⟩ z0 (s0 r q) W' := by
  refine ⟨hr, hq, hm, ⟨lv, hW, ?_⟩, ⟨a, n, c, f, hX.below hB hX.lt, hnc, hR, hF⟩, Nat.le_trans hb.size hbb, hx, hb.trans (hB.mono hb.size), rfl⟩
  rcases ho with ⟨h1, ⟨h2, h3⟩ | ⟨g, cap, cur, h2, h3, h4⟩⟩
  · exact ⟨h1, .inl ⟨h2, h3⟩⟩
  · exact ⟨h1, .inr ⟨g, cap, cur, h2, Nat.le_trans hb.size h3, h4⟩⟩
theorem run_any {K : Cx} {s : Ts} {w : World} (A : Nat → Nat → Nat → M Unit) (h : Tk K z0 s w) (hl : s.l = []) (HA : ∀ s1 c, Ran fetchM s c s1 → ActOk K c A) :
    Calls Tryz.prog 50 #[.pointer (some ⟨K.b, 0, none⟩)] w (PostR K s w (runM A)) := by
  cases hh : s.r.H with
  | true => exact run_halt A h hl hh
  | false => exact run_go A h bare0 hl hh HA
/-- What Course answers. -/
def courseP (w : World) (A : Nat → Nat → Nat → M Unit) (r : Rp) (q : Sc) (e : Ending) (w' : World) : Prop :=
  ∃ s' lv, Below w.heap.size w w' ∧ w'.ownsRow w.heap.size 42 3 lv s'.l.length (accX s'.l) ∧ s'.l.length ≤ 40 ∧
    ((Ran (runM A) (s0 r q) () s' ∧ s'.r.Ok ∧ e = .returned (.tuple #[lv, .bool true, pegV s'.r])) ∨ (Gave (runM A) (s0 r q) s' ∧ e = .returned (.tuple #[lv, .bool false, pegV ⟨0, 0, 0, 0, 0, 0, false⟩])))
theorem course_any (A : Nat → Nat → Nat → M Unit) (r : Rp) (a : Option Addr) (n c : Nat) (f : Nat → Nat) (w : World) (hr : r.Ok) (hR : Row w a n f) (hnc : n ≤ c) (HA : ∀ K s1 c, Ran fetchM (s0 r ⟨none, (List.range n).map f⟩) c s1 → ActOk K c A) :
    Calls Tryz.prog 16 #[pegV r, .slice a n c] w (courseP w A r ⟨none, (List.range n).map f⟩) := by
  obtain ⟨Q, hQ, F⟩ := post_name (courseP w A r ⟨none, (List.range n).map f⟩)
  rw [hQ]
  clear hQ
  replace F := Lib.hid F
  have hqok : Sc.Ok ⟨none, (List.range n).map f⟩ := ⟨fun x hx => by
    obtain ⟨i, hi, rfl⟩ := List.mem_map.1 hx
    exact hR.1 i (List.mem_range.1 hi), fun f h => by cases h⟩
  have hfit : Fits none (Sc.mk none ((List.range n).map f)).seen n f := ⟨by simp, fun i hi => by rw [List.getD_eq_getElem?_getD]; simp [hi]⟩
  have hP1 := ((Whole.fresh w 24 (pegC r)).alloc (.cells #[.slice a n c] 25)).alloc (.cells (pegC ⟨0, 0, 0, 0, 0, 0, false⟩) 24)
  have hX1 := (Whole.fresh (w.alloc (.cells (pegC r) 24)) 25 #[.slice a n c]).alloc (.cells (pegC ⟨0, 0, 0, 0, 0, 0, false⟩) 24)
  have hO1 := Whole.fresh ((w.alloc (.cells (pegC r) 24)).alloc (.cells #[.slice a n c] 25)) 24 (pegC ⟨0, 0, 0, 0, 0, 0, false⟩)
  have hB1 := (((Below.refl w.heap.size w).alloc (Nat.le_refl _) (.cells (pegC r) 24)).alloc (by simp) (.cells #[.slice a n c] 25)).alloc (by simp; omega) (.cells (pegC ⟨0, 0, 0, 0, 0, 0, false⟩) 24)
  rw [show (w.alloc (.cells (pegC r) 24)).heap.size = w.heap.size + 1 by simp] at hX1
  rw [show ((w.alloc (.cells (pegC r) 24)).alloc (.cells #[.slice a n c] 25)).heap.size = w.heap.size + 1 + 1 by simp] at hO1
  unfold pegC at hP1 hX1 hO1 hB1
  simp only [show ((0 : Nat) : Int) = 0 from rfl] at hP1 hX1 hO1 hB1
  unfold pegV
  go_enter Tryz.func16, Tryz.ntmps16
  go_upto_region 1 with (fail)
  generalize (((w.alloc (.cells #[.int .u8 r.A, .int .u8 r.X, .int .u8 r.Y, .int .u8 r.S, .int .u8 r.P, .int .u16 r.Pc, .bool r.H] 24)).alloc (.cells #[.slice a n c] 25)).alloc (.cells #[.int .u8 0, .int .u8 0, .int .u8 0, .int .u8 0, .int .u8 0, .int .u16 0, .bool false] 24)) = W1 at *
  generalize hxg : w.heap.size + 1 = x at *
  have hxw : w.heap.size ≤ x := by omega
  generalize hog : x + 1 = O at *
  have how : w.heap.size ≤ O := by omega
  have hRO := Lib.hid (runnerOf_any r 48 x W1)
  unfold pegV at hRO
  have x0 := hP1.cell 0
  have x1 := hP1.cell 1
  have x2 := hP1.cell 2
  have x3 := hP1.cell 3
  have x4 := hP1.cell 4
  have x5 := hP1.cell 5
  have x6 := hP1.cell 6
  simp only [List.getElem?_toArray, List.getElem?_cons_zero, List.getElem?_cons_succ] at x0 x1 x2 x3 x4 x5 x6
  replace hxg := Lib.hid hxg
  replace hog := Lib.hid hog
  go_wp2_with fail
  with_reducible refine hRO.out.mono ?_
  rintro e W2 ⟨b, lv, rfl, hB2, hbb, hW2, ho2⟩
  have hT2 := Tk.made (q := ⟨none, (List.range n).map f⟩) (mem := none) hr hqok rfl hB1 hxw hX1 hnc hR hfit hB2 hbb hW2 ho2
  have hO2 := hO1.below hB2 hO1.lt
  have hdo := run_any A (hT2.alloc (.cells #[.bool false] 4)) rfl (fun s1 c h => HA _ s1 c h)
  have hWhole := whole_any (k := 50) (fs := #[.pointer (some ⟨b, 0, none⟩)]) W2
    (fun V => ∃ z' s', Tk ⟨w, w.heap.size, b, x, none⟩ z' s' V ∧ Kp ⟨w, w.heap.size, b, x, none⟩ (W2.alloc (.cells #[.bool false] 4)) V ∧ s'.l.length ≤ 40 ∧ Ran (runM A) (s0 r ⟨none, (List.range n).map f⟩) () s')
    (fun V => ∃ z' s', Tk ⟨w, w.heap.size, b, x, none⟩ z' s' V ∧ Kp ⟨w, w.heap.size, b, x, none⟩ (W2.alloc (.cells #[.bool false] 4)) V ∧ s'.l.length ≤ 40 ∧ Gave (runM A) (s0 r ⟨none, (List.range n).map f⟩) s')
    (fun _ _ => rfl) (hdo.mono (by
      rintro e V ⟨z', s', t, k, l, h⟩
      have hl : s'.l.length ≤ 40 := by simpa [s0] using l
      refine ⟨k.stay (hT2.alloc _) (Whole.fresh W2 _ _), ?_⟩
      rcases h with ⟨u, h1, _, rfl⟩ | ⟨h1, rfl⟩
      · exact .inl ⟨rfl, z', s', t, k, hl, h1⟩
      · exact .inr ⟨rfl, z', s', t, k, hl, h1⟩))
  have hB2' := Lib.hid (hB1.trans (hB2.mono hB1.size))
  have hO2' := Lib.hid hO2
  have hT2' := Lib.hid hT2
  have hsW : w.heap.size ≤ W2.heap.size := by have := hB2'.out.size; exact this
  replace hWhole := Lib.hid hWhole
  clear hdo hT2 hO2 hB2 hbb hW2 ho2 x0 x1 x2 x3 x4 x5 x6 hRO hP1 hX1 hO1 hB1 hfit hqok HA hR hnc
  go_wp2_with fail
  with_reducible refine hWhole.out.mono ?_
  rintro e W3 (⟨rfl, V, ⟨z', s', t, k, l, h⟩, rfl⟩ | ⟨rfl, V, ⟨z', s', t, k, l, h⟩, rfl⟩)
  · have hbool := k.stay (hT2'.out.alloc _) (Whole.fresh W2 4 #[.bool false])
    have t2 := t.other hbool hsW 0 (.bool true)
    have hO3 := (k.stay (hT2'.out.alloc _) (hO2'.out.alloc _)).away (p := ⟨W2.heap.size, 0, none⟩) (whole_apart (k.stay (hT2'.out.alloc _) (hO2'.out.alloc _)) hbool (by decide)) (.bool true)
    generalize V.setCell ⟨W2.heap.size, 0, none⟩ (.bool true) = W4 at *
    obtain ⟨lv4, hw4, ho4⟩ := t2.cells
    obtain ⟨la, lc, rfl⟩ := row_slice ho4
    have hne := own_apart ho4 hO3 (by decide)
    have hbel := t2.bel
    have c8 := hw4.cell 8
    have c0 := hw4.cell 0
    have c1 := hw4.cell 1
    have c2 := hw4.cell 2
    have c3 := hw4.cell 3
    have c4 := hw4.cell 4
    have c5 := hw4.cell 5
    have c6 := hw4.cell 6
    have o0 := hO3.cell 0
    have o1 := hO3.cell 1
    have o2 := hO3.cell 2
    have o3 := hO3.cell 3
    have o4 := hO3.cell 4
    have o5 := hO3.cell 5
    have o6 := hO3.cell 6
    have f0 := hO3.free 0
    have f1 := hO3.free 1
    have f2 := hO3.free 2
    have f3 := hO3.free 3
    have f4 := hO3.free 4
    have f5 := hO3.free 5
    have f6 := hO3.free 6
    unfold rnT at c8 c0 c1 c2 c3 c4 c5 c6
    simp only [List.getElem?_toArray, List.getElem?_cons_zero, List.getElem?_cons_succ] at c8 c0 c1 c2 c3 c4 c5 c6 o0 o1 o2 o3 o4 o5 o6
    have hz := (((((((hO3.drew.put 0 (.int .u8 (s'.r.A : Nat))).put 1 (.int .u8 (s'.r.X : Nat))).put 2 (.int .u8 (s'.r.Y : Nat))).put 3 (.int .u8 (s'.r.S : Nat))).put 4 (.int .u8 (s'.r.P : Nat))).put 5 (.int .u16 (s'.r.Pc : Nat))).put 6 (.bool s'.r.H))
    have z0 := hz.cell 0
    have z1 := hz.cell 1
    have z2 := hz.cell 2
    have z3 := hz.cell 3
    have z4 := hz.cell 4
    have z5 := hz.cell 5
    have z6 := hz.cell 6
    simp only [List.getElem?_toArray, List.getElem?_cons_zero, List.getElem?_cons_succ, List.setIfInBounds_toArray, List.set_cons_zero, List.set_cons_succ] at z0 z1 z2 z3 z4 z5 z6
    have hf := Lib.hid (F.out (.returned (.tuple #[.slice la s'.l.length lc, .bool true, pegV s'.r])) _ ⟨s', _, (((((((hbel.drew.setCell (p := ⟨O, 0, none⟩) how (.int .u8 (s'.r.A : Nat))).setCell (p := ⟨O, 1, none⟩) how (.int .u8 (s'.r.X : Nat))).setCell (p := ⟨O, 2, none⟩) how (.int .u8 (s'.r.Y : Nat))).setCell (p := ⟨O, 3, none⟩) how (.int .u8 (s'.r.S : Nat))).setCell (p := ⟨O, 4, none⟩) how (.int .u8 (s'.r.P : Nat))).setCell (p := ⟨O, 5, none⟩) how (.int .u16 (s'.r.Pc : Nat))).setCell (p := ⟨O, 6, none⟩) how (.bool s'.r.H)), (row_put (row_put (row_put (row_put (row_put (row_put (row_put ho4.drew (p := ⟨O, 0, none⟩) hne (.int .u8 (s'.r.A : Nat))) (p := ⟨O, 1, none⟩) hne (.int .u8 (s'.r.X : Nat))) (p := ⟨O, 2, none⟩) hne (.int .u8 (s'.r.Y : Nat))) (p := ⟨O, 3, none⟩) hne (.int .u8 (s'.r.S : Nat))) (p := ⟨O, 4, none⟩) hne (.int .u8 (s'.r.P : Nat))) (p := ⟨O, 5, none⟩) hne (.int .u16 (s'.r.Pc : Nat))) (p := ⟨O, 6, none⟩) hne (.bool s'.r.H)), l, .inl ⟨h, t2.ok, rfl⟩⟩)
    unfold pegV at hf
    clear F hWhole t t2 hO3 hw4 ho4 hz hbel hbool k hO2' hB2' hT2' hne h hxg hog
    generalize s'.l.length = L at *
    go_upto_region 4 with (fail)
    go_still_tail 10, (by kernel_rfl)
    show wpList _ _ _ _ _ W4.drew
    have o0 : W4.drew.cell? ⟨O, 0, none⟩ = some (.int .u8 0) := o0
    have o1 : W4.drew.cell? ⟨O, 1, none⟩ = some (.int .u8 0) := o1
    have o2 : W4.drew.cell? ⟨O, 2, none⟩ = some (.int .u8 0) := o2
    have o3 : W4.drew.cell? ⟨O, 3, none⟩ = some (.int .u8 0) := o3
    have o4 : W4.drew.cell? ⟨O, 4, none⟩ = some (.int .u8 0) := o4
    have o5 : W4.drew.cell? ⟨O, 5, none⟩ = some (.int .u16 0) := o5
    have o6 : W4.drew.cell? ⟨O, 6, none⟩ = some (.bool false) := o6
    have f0 : W4.drew.frozen? ⟨O, 0, none⟩ = false := f0
    have f1 : W4.drew.frozen? ⟨O, 1, none⟩ = false := f1
    have f2 : W4.drew.frozen? ⟨O, 2, none⟩ = false := f2
    have f3 : W4.drew.frozen? ⟨O, 3, none⟩ = false := f3
    have f4 : W4.drew.frozen? ⟨O, 4, none⟩ = false := f4
    have f5 : W4.drew.frozen? ⟨O, 5, none⟩ = false := f5
    have f6 : W4.drew.frozen? ⟨O, 6, none⟩ = false := f6
    generalize W4.drew = W5 at *
    go_wp2_with fail
    exact bodyPost_ret (v := .tuple #[.slice la L lc, .bool true, .agg #[.int .u8 (s'.r.A : Nat), .int .u8 (s'.r.X : Nat), .int .u8 (s'.r.Y : Nat), .int .u8 (s'.r.S : Nat), .int .u8 (s'.r.P : Nat), .int .u16 (s'.r.Pc : Nat), .bool s'.r.H]]) (by simp [results, Tryz.results16, go_sem, z0, z1, z2, z3, z4, z5, z6]) rfl hf.out
  · have hbool := k.stay (hT2'.out.alloc _) (Whole.fresh W2 4 #[.bool false])
    have t2 := (t.alloc (.cells #[] 90)).other (hbool.alloc _) hsW 0 (.bool false)
    have hO3 := ((k.stay (hT2'.out.alloc _) (hO2'.out.alloc _)).alloc (.cells #[] 90)).away (p := ⟨W2.heap.size, 0, none⟩) (whole_apart (k.stay (hT2'.out.alloc _) (hO2'.out.alloc _)) hbool (by decide)) (.bool false)
    generalize (V.alloc (.cells #[] 90)).setCell ⟨W2.heap.size, 0, none⟩ (.bool false) = W4 at *
    obtain ⟨lv4, hw4, ho4⟩ := t2.cells
    obtain ⟨la, lc, rfl⟩ := row_slice ho4
    have hne := own_apart ho4 hO3 (by decide)
    have hbel := t2.bel
    have c8 := hw4.cell 8
    have o0 := hO3.cell 0
    have o1 := hO3.cell 1
    have o2 := hO3.cell 2
    have o3 := hO3.cell 3
    have o4 := hO3.cell 4
    have o5 := hO3.cell 5
    have o6 := hO3.cell 6
    have f0 := hO3.free 0
    have f1 := hO3.free 1
    have f2 := hO3.free 2
    have f3 := hO3.free 3
    have f4 := hO3.free 4
    have f5 := hO3.free 5
    have f6 := hO3.free 6
    unfold rnT at c8
    simp only [List.getElem?_toArray, List.getElem?_cons_zero, List.getElem?_cons_succ] at c8 o0 o1 o2 o3 o4 o5 o6
    have hz := (((((((hO3.put 0 (.int .u8 0)).put 1 (.int .u8 0)).put 2 (.int .u8 0)).put 3 (.int .u8 0)).put 4 (.int .u8 0)).put 5 (.int .u16 0)).put 6 (.bool false))
    have z0 := hz.cell 0
    have z1 := hz.cell 1
    have z2 := hz.cell 2
    have z3 := hz.cell 3
    have z4 := hz.cell 4
    have z5 := hz.cell 5
    have z6 := hz.cell 6
    simp only [List.getElem?_toArray, List.getElem?_cons_zero, List.getElem?_cons_succ, List.setIfInBounds_toArray, List.set_cons_zero, List.set_cons_succ] at z0 z1 z2 z3 z4 z5 z6
    have hf := Lib.hid (F.out (.returned (.tuple #[.slice la s'.l.length lc, .bool false, pegV ⟨0, 0, 0, 0, 0, 0, false⟩])) _ ⟨s', _, (((((((hbel.setCell (p := ⟨O, 0, none⟩) how (.int .u8 0)).setCell (p := ⟨O, 1, none⟩) how (.int .u8 0)).setCell (p := ⟨O, 2, none⟩) how (.int .u8 0)).setCell (p := ⟨O, 3, none⟩) how (.int .u8 0)).setCell (p := ⟨O, 4, none⟩) how (.int .u8 0)).setCell (p := ⟨O, 5, none⟩) how (.int .u16 0)).setCell (p := ⟨O, 6, none⟩) how (.bool false)), (row_put (row_put (row_put (row_put (row_put (row_put (row_put ho4 (p := ⟨O, 0, none⟩) hne (.int .u8 0)) (p := ⟨O, 1, none⟩) hne (.int .u8 0)) (p := ⟨O, 2, none⟩) hne (.int .u8 0)) (p := ⟨O, 3, none⟩) hne (.int .u8 0)) (p := ⟨O, 4, none⟩) hne (.int .u8 0)) (p := ⟨O, 5, none⟩) hne (.int .u16 0)) (p := ⟨O, 6, none⟩) hne (.bool false)), l, .inr ⟨h, rfl⟩⟩)
    unfold pegV at hf
    clear F hWhole t t2 hO3 hw4 ho4 hz hbel hbool k hO2' hB2' hT2' hne h hxg hog
    generalize s'.l.length = L at *
    go_wp2_with fail
    exact bodyPost_ret (v := .tuple #[.slice la L lc, .bool false, .agg #[.int .u8 0, .int .u8 0, .int .u8 0, .int .u8 0, .int .u8 0, .int .u16 0, .bool false]]) (by simp [results, Tryz.results16, go_sem, z0, z1, z2, z3, z4, z5, z6]) rfl hf.out
end Go.Proofs.YtknlbmjncginnaaGreatDoor
namespace Go.Proofs.YtknlbmjncginnaaGreatDoor
open Go.RowKit Go.Shelf
set_option maxRecDepth 100000
set_option maxHeartbeats 2000000
set_option linter.unusedVariables false

/-- A memory answers each read. -/
theorem go_some {α : Type} (p : Pg α) : ∀ l q f, q.mem = some f → ∃ l' q' a, go p l q = (l', q', some a) ∧ q'.mem = some f := by
  induction p with
  | ret a => intro l q f h; exact ⟨l, q, a, rfl, h⟩
  | idle p ih => intro l q f h; exact ih _ _ _ h
  | write a v p ih => intro l q f h; exact ih _ _ _ h
  | read a p ih =>
    intro l q f h
    have ht : q.take (a % 65536) = some (f (a % 65536), q) := by unfold Sc.take; rw [h]
    simp only [go, ht]
    exact ih _ _ _ _ h
theorem no_gave {α : Type} {m : M α} {s s' : Ts} {f : Nat → Nat} (h : s.q.mem = some f) (g : Gave m s s') : False := by
  obtain ⟨l', q', a, e, _⟩ := go_some (m s.r) s.l s.q f h
  unfold Gave at g
  rw [e] at g
  cases g
/-- What Run answers. -/
def runP (w : World) (A : Nat → Nat → Nat → M Unit) (r : Rp) (f : Nat → Nat) (e : Ending) (w' : World) : Prop :=
  ∃ s' lv, Below w.heap.size w w' ∧ w'.ownsRow w.heap.size 42 3 lv s'.l.length (accX s'.l) ∧ s'.l.length ≤ 40 ∧
    Ran (runM A) (s0 r ⟨some f, []⟩) () s' ∧ s'.r.Ok ∧ e = .returned (.tuple #[lv, pegV s'.r, .int .i64 0])
theorem runlaw_any (A : Nat → Nat → Nat → M Unit) (r : Rp) (a : Option Addr) (c : Nat) (f : Nat → Nat) (w : World) (hr : r.Ok) (hR : Row w a 65536 f) (hnc : 65536 ≤ c) (HA : ∀ K s1 c, Ran fetchM (s0 r ⟨some f, []⟩) c s1 → ActOk K c A) :
    Calls Tryz.prog 21 #[pegV r, .slice a 65536 c] w (runP w A r f) := by
  obtain ⟨Q, hQ, F⟩ := post_name (runP w A r f)
  rw [hQ]
  clear hQ
  replace F := Lib.hid F
  have hqok : Sc.Ok ⟨some f, []⟩ := ⟨fun x hx => absurd hx List.not_mem_nil, fun g h i hi => by
    injection h with h
    subst h
    exact hR.1 i hi⟩
  have hfit : Fits (some f) (Sc.mk (some f) []).seen 65536 f := ⟨rfl, rfl⟩
  have hP1 := ((Whole.fresh w 24 (pegC r)).alloc (.cells #[.slice a 65536 c] 25)).alloc (.cells (pegC ⟨0, 0, 0, 0, 0, 0, false⟩) 24)
  have hX1 := (Whole.fresh (w.alloc (.cells (pegC r) 24)) 25 #[.slice a 65536 c]).alloc (.cells (pegC ⟨0, 0, 0, 0, 0, 0, false⟩) 24)
  have hO1 := Whole.fresh ((w.alloc (.cells (pegC r) 24)).alloc (.cells #[.slice a 65536 c] 25)) 24 (pegC ⟨0, 0, 0, 0, 0, 0, false⟩)
  have hB1 := (((Below.refl w.heap.size w).alloc (Nat.le_refl _) (.cells (pegC r) 24)).alloc (by simp) (.cells #[.slice a 65536 c] 25)).alloc (by simp; omega) (.cells (pegC ⟨0, 0, 0, 0, 0, 0, false⟩) 24)
  rw [show (w.alloc (.cells (pegC r) 24)).heap.size = w.heap.size + 1 by simp] at hX1
  rw [show ((w.alloc (.cells (pegC r) 24)).alloc (.cells #[.slice a 65536 c] 25)).heap.size = w.heap.size + 1 + 1 by simp] at hO1
  unfold pegC at hP1 hX1 hO1 hB1
  simp only [show ((0 : Nat) : Int) = 0 from rfl] at hP1 hX1 hO1 hB1
  unfold pegV
  go_enter Tryz.func21, Tryz.ntmps21
  go_upto_region 3 with (fail)
  generalize (((w.alloc (.cells #[.int .u8 r.A, .int .u8 r.X, .int .u8 r.Y, .int .u8 r.S, .int .u8 r.P, .int .u16 r.Pc, .bool r.H] 24)).alloc (.cells #[.slice a 65536 c] 25)).alloc (.cells #[.int .u8 0, .int .u8 0, .int .u8 0, .int .u8 0, .int .u8 0, .int .u16 0, .bool false] 24)) = W1 at *
  generalize hxg : w.heap.size + 1 = x at *
  have hxw : w.heap.size ≤ x := by omega
  generalize hog : x + 1 = O at *
  have how : w.heap.size ≤ O := by omega
  have hRO := Lib.hid (runnerOf_any r 51 x W1)
  unfold pegV at hRO
  have x0 := hP1.cell 0
  have x1 := hP1.cell 1
  have x2 := hP1.cell 2
  have x3 := hP1.cell 3
  have x4 := hP1.cell 4
  have x5 := hP1.cell 5
  have x6 := hP1.cell 6
  simp only [List.getElem?_toArray, List.getElem?_cons_zero, List.getElem?_cons_succ] at x0 x1 x2 x3 x4 x5 x6
  replace hxg := Lib.hid hxg
  replace hog := Lib.hid hog
  go_wp2_with fail
  with_reducible refine hRO.out.mono ?_
  rintro e W2 ⟨b, lv, rfl, hB2, hbb, hW2, ho2⟩
  have hT2 := Tk.made (q := ⟨some f, []⟩) (mem := some f) hr hqok rfl hB1 hxw hX1 hnc hR hfit hB2 hbb hW2 ho2
  have hO2 := hO1.below hB2 hO1.lt
  have hdo := (run_any A hT2 rfl (fun s1 c h => HA _ s1 c h)).mono (R' := fun e V => ∃ z' s', Tk ⟨w, w.heap.size, b, x, some f⟩ z' s' V ∧ Kp ⟨w, w.heap.size, b, x, some f⟩ W2 V ∧ s'.l.length ≤ 40 ∧ Ran (runM A) (s0 r ⟨some f, []⟩) () s' ∧ e = .returned (.tuple #[])) (by
    rintro e V ⟨z', s', t, k, l, h⟩
    have hl : s'.l.length ≤ 40 := by simpa [s0] using l
    rcases h with ⟨u, h1, _, rfl⟩ | ⟨h1, rfl⟩
    · exact ⟨z', s', t, k, hl, h1, rfl⟩
    · exact (no_gave rfl h1).elim)
  have hB2' := Lib.hid (hB1.trans (hB2.mono hB1.size))
  have hO2' := Lib.hid hO2
  have hT2' := Lib.hid hT2
  have hsW : w.heap.size ≤ W2.heap.size := by have := hB2'.out.size; exact this
  replace hdo := Lib.hid hdo
  clear hT2 hO2 hB2 hbb hW2 ho2 x0 x1 x2 x3 x4 x5 x6 hRO hP1 hX1 hO1 hB1 hfit hqok HA hR hnc
  go_wp2_with fail
  with_reducible refine hdo.out.mono ?_
  rintro e W4 ⟨z', s', t2, k, l, h, rfl⟩
  have hO3 := k.stay hT2'.out hO2'.out
  obtain ⟨lv4, hw4, ho4⟩ := t2.cells
  obtain ⟨la, lc, rfl⟩ := row_slice ho4
  have hne := own_apart ho4 hO3 (by decide)
  have hbel := t2.bel
  have c8 := hw4.cell 8
  have c0 := hw4.cell 0
  have c1 := hw4.cell 1
  have c2 := hw4.cell 2
  have c3 := hw4.cell 3
  have c4 := hw4.cell 4
  have c5 := hw4.cell 5
  have c6 := hw4.cell 6
  have o0 := hO3.cell 0
  have o1 := hO3.cell 1
  have o2 := hO3.cell 2
  have o3 := hO3.cell 3
  have o4 := hO3.cell 4
  have o5 := hO3.cell 5
  have o6 := hO3.cell 6
  have f0 := hO3.free 0
  have f1 := hO3.free 1
  have f2 := hO3.free 2
  have f3 := hO3.free 3
  have f4 := hO3.free 4
  have f5 := hO3.free 5
  have f6 := hO3.free 6
  unfold rnT at c8 c0 c1 c2 c3 c4 c5 c6
  simp only [List.getElem?_toArray, List.getElem?_cons_zero, List.getElem?_cons_succ] at c8 c0 c1 c2 c3 c4 c5 c6 o0 o1 o2 o3 o4 o5 o6
  have hz := (((((((hO3.drew.put 0 (.int .u8 (s'.r.A : Nat))).put 1 (.int .u8 (s'.r.X : Nat))).put 2 (.int .u8 (s'.r.Y : Nat))).put 3 (.int .u8 (s'.r.S : Nat))).put 4 (.int .u8 (s'.r.P : Nat))).put 5 (.int .u16 (s'.r.Pc : Nat))).put 6 (.bool s'.r.H))
  have z0 := hz.cell 0
  have z1 := hz.cell 1
  have z2 := hz.cell 2
  have z3 := hz.cell 3
  have z4 := hz.cell 4
  have z5 := hz.cell 5
  have z6 := hz.cell 6
  simp only [List.getElem?_toArray, List.getElem?_cons_zero, List.getElem?_cons_succ, List.setIfInBounds_toArray, List.set_cons_zero, List.set_cons_succ] at z0 z1 z2 z3 z4 z5 z6
  have hf := Lib.hid (F.out (.returned (.tuple #[.slice la s'.l.length lc, pegV s'.r, .int .i64 0])) _ ⟨s', _, (((((((hbel.drew.setCell (p := ⟨O, 0, none⟩) how (.int .u8 (s'.r.A : Nat))).setCell (p := ⟨O, 1, none⟩) how (.int .u8 (s'.r.X : Nat))).setCell (p := ⟨O, 2, none⟩) how (.int .u8 (s'.r.Y : Nat))).setCell (p := ⟨O, 3, none⟩) how (.int .u8 (s'.r.S : Nat))).setCell (p := ⟨O, 4, none⟩) how (.int .u8 (s'.r.P : Nat))).setCell (p := ⟨O, 5, none⟩) how (.int .u16 (s'.r.Pc : Nat))).setCell (p := ⟨O, 6, none⟩) how (.bool s'.r.H)), (row_put (row_put (row_put (row_put (row_put (row_put (row_put ho4.drew (p := ⟨O, 0, none⟩) hne (.int .u8 (s'.r.A : Nat))) (p := ⟨O, 1, none⟩) hne (.int .u8 (s'.r.X : Nat))) (p := ⟨O, 2, none⟩) hne (.int .u8 (s'.r.Y : Nat))) (p := ⟨O, 3, none⟩) hne (.int .u8 (s'.r.S : Nat))) (p := ⟨O, 4, none⟩) hne (.int .u8 (s'.r.P : Nat))) (p := ⟨O, 5, none⟩) hne (.int .u16 (s'.r.Pc : Nat))) (p := ⟨O, 6, none⟩) hne (.bool s'.r.H)), l, h, t2.ok, rfl⟩)
  unfold pegV at hf
  clear F hdo t2 hO3 hw4 ho4 hz hbel k hO2' hB2' hT2' hne h hxg hog
  generalize s'.l.length = L at *
  go_upto_region 5 with (fail)
  go_still_tail 9, (by kernel_rfl)
  show wpList _ _ _ _ _ W4.drew
  have o0 : W4.drew.cell? ⟨O, 0, none⟩ = some (.int .u8 0) := o0
  have o1 : W4.drew.cell? ⟨O, 1, none⟩ = some (.int .u8 0) := o1
  have o2 : W4.drew.cell? ⟨O, 2, none⟩ = some (.int .u8 0) := o2
  have o3 : W4.drew.cell? ⟨O, 3, none⟩ = some (.int .u8 0) := o3
  have o4 : W4.drew.cell? ⟨O, 4, none⟩ = some (.int .u8 0) := o4
  have o5 : W4.drew.cell? ⟨O, 5, none⟩ = some (.int .u16 0) := o5
  have o6 : W4.drew.cell? ⟨O, 6, none⟩ = some (.bool false) := o6
  have f0 : W4.drew.frozen? ⟨O, 0, none⟩ = false := f0
  have f1 : W4.drew.frozen? ⟨O, 1, none⟩ = false := f1
  have f2 : W4.drew.frozen? ⟨O, 2, none⟩ = false := f2
  have f3 : W4.drew.frozen? ⟨O, 3, none⟩ = false := f3
  have f4 : W4.drew.frozen? ⟨O, 4, none⟩ = false := f4
  have f5 : W4.drew.frozen? ⟨O, 5, none⟩ = false := f5
  have f6 : W4.drew.frozen? ⟨O, 6, none⟩ = false := f6
  generalize W4.drew = W5 at *
  go_wp2_with fail
  exact bodyPost_ret (v := .tuple #[.slice la L lc, .agg #[.int .u8 (s'.r.A : Nat), .int .u8 (s'.r.X : Nat), .int .u8 (s'.r.Y : Nat), .int .u8 (s'.r.S : Nat), .int .u8 (s'.r.P : Nat), .int .u16 (s'.r.Pc : Nat), .bool s'.r.H], .int .i64 0]) (by simp [results, Tryz.results21, go_sem, z0, z1, z2, z3, z4, z5, z6]) rfl hf.out
end Go.Proofs.YtknlbmjncginnaaGreatDoor
