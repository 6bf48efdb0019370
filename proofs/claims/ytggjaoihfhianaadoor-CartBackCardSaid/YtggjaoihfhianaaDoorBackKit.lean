/-
  What is made is read again: the reading, told for what was made.
-/
import Derived.Test.YtggjaoihfhianaaDoorReadAll
import Derived.Deep.AppendLies
namespace Go.Proofs.YtggjaoihfhianaaDoor
open Go.RowKit Go.Shelf
set_option maxRecDepth 100000
set_option maxHeartbeats 2000000

theorem best_only (n : Nat) (f : Nat → Nat) (l : Nat) (v : Int) (h : 1 ≤ l ∧ l ≤ 3) (hp : posOf l + 64 ≤ n) (h0 : 32768 ≤ n) (hv : scN f l = v) (ho : ∀ j, 1 ≤ j → j ≤ 3 → j ≠ l → posOf j + 64 ≤ n → scN f j < v) : bestN n f = l := by
  have p1 : posOf 1 + 64 ≤ n := h0
  rcases (show l = 1 ∨ l = 2 ∨ l = 3 by omega) with rfl | rfl | rfl
  · have b2 : best2 n f = 1 := by
      unfold best2
      rw [if_neg (fun x => by have := ho 2 (by decide) (by decide) (by decide) x.1; have := x.2; omega)]
    unfold bestN
    rw [b2, if_neg (fun x => by have := ho 3 (by decide) (by decide) (by decide) x.1; have := x.2; omega)]
  · have b2 : best2 n f = 2 := by
      unfold best2
      rw [if_pos ⟨hp, by have := ho 1 (by decide) (by decide) (by decide) p1; omega⟩]
    unfold bestN
    rw [b2, if_neg (fun x => by have := ho 3 (by decide) (by decide) (by decide) x.1; have := x.2; omega)]
  · have b2 : scN f (best2 n f) < v := by
      unfold best2
      split
      · rename_i x
        exact ho 2 (by decide) (by decide) (by decide) x.1
      · exact ho 1 (by decide) (by decide) (by decide) p1
    unfold bestN
    rw [if_pos ⟨hp, by omega⟩]

theorem readBack_any (F : Nat → Nat) (n l c : Nat) (ram : Int) (t : ByteArray) (z : Nat) (fast : Bool) (hE : readE n F 8192 = 0) (hC : chipN (gotG n F 22) = c) (hV : ∀ R S, readV n F R S = cartA l c R ram t z fast S)
    (nn b cc sb sc : Nat) (f' : Nat → Nat) (W : World) (hnn : nn - headN nn = n) (hf : at2 f' (headN nn) = F) (hle : nn ≤ 8392704) (hcc : nn ≤ cc) (hr : Row W (some ⟨b, 0, none⟩) nn f') (hrs : Row W (some ⟨sb, 0, none⟩) 8192 (fun _ => 0)) :
    Calls Tryd.prog 10 #[.slice (some ⟨b, 0, none⟩) nn cc, .slice (some ⟨sb, 0, none⟩) 8192 sc] W fun e w' => ∃ G1 cap1 sa da, e = .returned (.tuple #[cartA l c (.slice (some ⟨G1, 0, none⟩) n cap1) ram t z fast (.slice sa (if c = 1 then 8192 else 0) da), .int .i64 0]) ∧ Below W.heap.size W w' ∧ ∀ W', Kept W.heap.size w' W' → Row W' (some ⟨G1, 0, none⟩) n F ∧ Row W' sa (if c = 1 then 8192 else 0) (fun _ => 0) := by
  by_cases hc : c = 1
  · rw [if_pos hc]
    have h0 := readSig_any b 0 nn cc 8192 sc sb 0 f' (fun _ => 0) W hle hcc hr (by rw [hnn, hf, hC]; exact hc) rfl hrs (by rw [hnn, hf]; exact hE)
    rw [hnn, hf] at h0
    refine h0.mono ?_
    rintro e w' ⟨G1, cap1, G2, cap2, rfl, hB, h1, g1, h2, g2, _⟩
    exact ⟨G1, cap1, some ⟨G2, 0, none⟩, cap2, by rw [hV], hB, fun W' hW' => ⟨(h1.kept hW' g1).row, (h2.kept hW' g2).row⟩⟩
  · rw [if_neg hc]
    have h0 := readNo_any b 0 nn cc 8192 sc (some ⟨sb, 0, none⟩) f' W hle hcc hr (by rw [hnn, hf, hC]; exact hc) (by rw [hnn, hf]; exact hE)
    rw [hnn, hf] at h0
    refine h0.mono ?_
    rintro e w' ⟨G1, cap1, rfl, hB, h1, g1, _⟩
    exact ⟨G1, cap1, none, 0, by rw [hV], hB, fun W' hW' => ⟨(h1.kept hW' g1).row, Row.nil _ _ _⟩⟩

theorem readBad34_any (F : Nat → Nat) (n b cc sb sc : Nat) (W : World) (hn : n % 1024 = 0) (hE : readE n F 8191 = 34) (hle : n ≤ 8392704) (hcc : n ≤ cc) (hr : Row W (some ⟨b, 0, none⟩) n F) :
    Calls Tryd.prog 10 #[.slice (some ⟨b, 0, none⟩) n cc, .slice (some ⟨sb, 1, none⟩) 8191 sc] W fun e w' => e = .returned (.tuple #[zeroCart, .int .i64 34]) ∧ Below W.heap.size W w' := by
  have hd := head0 (n := n) F hn
  have := readBad_any b 0 n cc 8191 sc (some ⟨sb, 1, none⟩) F W hle hcc hr (by rw [hd.1, hd.2, hE]; decide)
  rw [hd.1, hd.2, hE] at this
  exact this

theorem info5' : Tryd.prog.info? 5 = some ((Tryd.prog.info? 5).get (by kernel_rfl)) := by kernel_rfl
theorem wp_append_ran {o : Oper} {a : Act} {K : Act → World → Prop} {Q : Exit → Act → World → Prop} {P : Program} {w : World} (s x : Operand) (t : TypeId)
    (ho : o.op = .call { callee := .builtin .append, args := #[s, x], argTypes := #[t, t] }) (v u r : Value) (w' : World) (hs : a.eval s = v) (hx : a.eval x = u) (hr : (Builtin.append_ #[t, t] o.type #[v, u]).run P w = .ok r w')
    (h : K (a.put o.dst r) w') : o.wp P a w K Q := by
  unfold Oper.wp execOp
  simp only [ho, resolve, invoke, builtin, Sem.run_bind, Sem.run_pure, Result.andThen_ok, List.map_toArray, List.map_cons, List.map_nil, hs, hx, hr]
  exact h
theorem wpList_append_ran {ops : Array Oper} {rest : List Oper} {o : Oper} {a : Act} {Q : Exit → Act → World → Prop} {P : Program} {w : World} (hgd : o.guard = none) (s x : Operand) (t : TypeId)
    (ho : o.op = .call { callee := .builtin .append, args := #[s, x], argTypes := #[t, t] }) (v u r : Value) (w' : World) (hs : a.eval s = v) (hx : a.eval x = u) (hr : (Builtin.append_ #[t, t] o.type #[v, u]).run P w = .ok r w')
    (h : wpList P ops Q rest (a.put o.dst r) w') : wpList P ops Q (o :: rest) a w :=
  wpList_plain hgd fun _ hK => wp_append_ran s x t ho v u r w' hs hx hr (hK _ _ h)
theorem made_list (m : Nat) : (madeCells #[Value.int .u8 0] m).toList = List.replicate m (Value.int .u8 0) := by
  apply List.ext_getElem
  · simp [madeCells]
  · intro i a b
    simp [madeCells, Nat.mod_one]
/-- 512 noughts ahead. -/
theorem headed_any (D G n cap : Nat) (F : Nat → Nat) (W : World) (hD : Whole W D 5 (madeCells #[Value.int .u8 0] 512)) (hG : Holds W G n F) (hn0 : 0 < n) (hn : n ≤ 8392704) :
    ∃ H cap' W', (Builtin.append_ #[25, 25] 25 #[.slice (some ⟨D, 0, none⟩) 512 512, .slice (some ⟨G, 0, none⟩) n cap]).run Tryd.prog W = .ok (.slice (some ⟨H, 0, none⟩) (512 + n) cap') W' ∧ Row W' (some ⟨H, 0, none⟩) (512 + n) (fun j => if j < 512 then 0 else F (j - 512)) ∧ W.grownBy W' (some D) ∧ 512 + n ≤ cap' := by
  have hown : W.ownsRow 0 5 1 (.slice (some ⟨D, 0, none⟩) 512 512) 512 (List.replicate 512 (Value.int .u8 0)) := by
    refine ⟨by simp, .inr ⟨D, 512, _, rfl, Nat.zero_le _, hD, Nat.le_refl _, by unfold maxLen; decide, by simp [madeCells], ?_⟩⟩
    rw [made_list, List.take_of_length_le (by rw [List.length_replicate]; decide)]
  have hnews : ∀ j u, ((List.range n).map fun i => Value.int .u8 (F i : Nat))[j]? = some u → W.cell? ((⟨G, 0, none⟩ : Addr).add j) = some u := by
    intro j u hu
    rw [List.getElem?_map] at hu
    by_cases hj : j < n
    · rw [List.getElem?_range hj] at hu
      simp only [Option.map_some, Option.some.injEq] at hu
      rw [← hu, show ((⟨G, 0, none⟩ : Addr).add j) = ⟨G, j, none⟩ from by unfold Addr.add; split <;> simp_all]
      exact hG.cell j hj
    · rw [List.getElem?_eq_none (by simpa using hj)] at hu
      cases hu
  obtain ⟨H, cap', W', hr, h2, h3, h4, h5⟩ := run_append_lies (P := Tryd.prog) W 25 25 0 5 _ (.int .u8 0) 1 1 Tryd.underlying25 info5' rfl rfl rfl rfl (by decide) (.slice (some ⟨D, 0, none⟩) 512 512) 512 _ hown ⟨G, 0, none⟩ n cap ((List.range n).map fun i => Value.int .u8 (F i : Nat)) (by simp) hnews (fun u hu => by obtain ⟨i, _, rfl⟩ := List.mem_map.1 hu; rfl) hn0 (by unfold maxLen; omega) (by omega) (Nat.zero_le _) _ rfl
  rcases h2.2 with ⟨e, _⟩ | ⟨g, cp, cur, e, _, hh, hle, _, hsz, htk⟩
  · cases e
  injection e with e1 e2 e3
  injection e1 with e1
  injection e1 with e1
  subst e1 e3
  refine ⟨H, cap', W', hr, ⟨fun i hi => ?_, .inr ⟨H, 0, rfl, h5, fun i hi => ?_⟩⟩, h3, hle⟩
  · show (if i < 512 then 0 else F (i - 512)) < 256
    by_cases hi2 : i < 512
    · rw [if_pos hi2]
      decide
    · rw [if_neg hi2]
      exact hG.byte (i - 512) (by omega)
  · have hw : Whole W' H 5 cur := hh
    rw [Nat.zero_add, hw.cell i]
    have h2 : (cur.toList.take ((512 + n) * 1))[i]? = some (Value.int .u8 ((if i < 512 then 0 else F (i - 512) : Nat) : Int)) := by
      rw [htk]
      by_cases hi2 : i < 512
      · rw [if_pos hi2, List.getElem?_append_left (by simpa using hi2), List.getElem?_replicate, if_pos hi2]
        rfl
      · rw [if_neg hi2, List.getElem?_append_right (by simpa using hi2), List.length_replicate, List.getElem?_map, List.getElem?_range (by omega)]
        rfl
    rw [List.getElem?_take_of_lt (by omega)] at h2
    simpa using h2
end Go.Proofs.YtggjaoihfhianaaDoor
