/-
  Blocks, one behind the other: what the code's iterator hands out.
-/
import Derived.Test.YtekjcgckniopdaaBRng
namespace Go.Proofs.Ytekjcgckniopdaa
open Go.RowKit Go.Shelf
attribute [local go_sem] Oper.semAt_some
set_option maxRecDepth 100000
set_option maxHeartbeats 1000000
set_option linter.unusedVariables false
set_option linter.unusedSimpArgs false

/-- The box of what is gone over stays as it is. -/
def Kx (x : Nat) (A B : World) : Prop := ∀ cs t f, A.heap[x]? = some (.cells cs t f) → B.heap[x]? = some (.cells cs t f)
theorem Kx.trans {x : Nat} {A B C : World} (h : Kx x A B) (k : Kx x B C) : Kx x A C := fun cs t f e => k cs t f (h cs t f e)
theorem kx_put {x : Nat} (W : World) (l : Nat) (o o' : Obj) (h : W.heap[l]? = some o) (ho : o.isCells = false) : Kx x W (W.putObj l o') := by
  intro cs t f hk
  have hne : x ≠ l := by
    intro e
    subst e
    rw [h] at hk
    injection hk with hk
    subst hk
    simp [Obj.isCells] at ho
  exact (World.putObj_heap_other hne).trans hk
theorem kx_below {x B : Nat} {A C : World} (h : Below B A C) (hx : x < B) : Kx x A C := fun cs t f e => (h.block x hx).trans e
/-- What a round is handed: how many bytes there are up to the block's end, the block. -/
def encK (b o c : Nat) (i : Nat) : Array Value := #[.int .i64 ((9 * i + 9 : Nat) : Int), .slice (some ⟨b, o + 9 * i, none⟩) 9 (c - 9 * i)]
theorem blocks_any (w : World) (v : Value) (n c : Nat) (a : Option Addr) : Calls Try.prog 30 #[.slice a n c] w fun e w' => e = .returned (.func (.func 41) #[] #[.pointer (some ⟨w.heap.size, 0, none⟩)]) ∧ w' = w.alloc (.cells #[.slice a n c] 22) := by
  go_enter Try.func30, Try.ntmps30
  go_wp2_with fail
  go_ret
  exact ⟨rfl, rfl⟩
theorem blocks_stops {X n c : Nat} {a : Option Addr} (w : World) (h : Whole w X 22 #[.slice a n c]) (b o : Nat) (ha : n = 0 ∨ a = some ⟨b, o, none⟩) (hn : n ≤ 140737488351232) (hnc : n ≤ c) (d : Nat) (hd : 1 ≤ d) :
    SeqV Fence.wide d 41 #[.pointer (some ⟨X, 0, none⟩)] (encK b o c) (fun pre x _ => x = pre.length ∧ x < n / 9) (Kx X) (fun xs => xs = List.range (n / 9)) (fun pre => pre <+: List.range (n / 9)) w := by
  intro lo J Jx W hW hJ hJx hY h0
  have hX := h.below hW h.lt
  replace hY := Lib.hid hY
  clear h hW
  refine callsIn_of_wp Try.func41 rfl trivial ?_ rfl
  simp only [Try.ntmps41, List.size_toArray, List.length_cons, List.length_nil, Nat.reduceAdd, Nat.reduceSub, Array.replicate_succ, Array.replicate_zero, List.push_toArray, List.append_toArray, List.nil_append, List.cons_append]
  gi_wp2_with fail
  gi_loopw [3] (fun s3 wr => ∃ i : Nat, i ≤ n / 9 ∧ s3 = .int .i64 ((9 * i + 9 : Nat) : Int) ∧ J (List.range i) wr ∧ Whole wr X 22 #[.slice a n c]) (fun s3 _ => n + 9 - (intOf s3).toNat)
  case atStart => exact ⟨0, Nat.zero_le _, rfl, h0, hX⟩
  case round =>
    obtain ⟨i, hi, rfl, hJi, hXi⟩ := hrel
    clear h0 hX
    have x0 := hXi.cell 0
    simp only [List.getElem?_toArray, List.getElem?_cons_zero] at x0
    by_cases hlt : i < n / 9
    · have t1 : decide (((9 * i + 9 : Nat) : Int) ≤ (n : Int)) = true := decide_eq_true (by omega)
      obtain rfl : a = some ⟨b, o, none⟩ := by
        rcases ha with h | h
        · omega
        · exact h
      have hq9 : 9 * i + 9 ≤ n := by omega
      have hyi := hY.out (List.range i) i wr hJi ⟨by simp, hlt⟩
      obtain ⟨fn, tmps, assign, body, hy, hR⟩ := hyi
      simp only [encK] at hy
      have hst : List.range i ++ [i] = List.range (i + 1) := (List.range_succ).symm
      have hpre : List.range (i + 1) <+: List.range (n / 9) := by
        have : List.range (n / 9) = List.range (i + 1) ++ (List.range (n / 9 - (i + 1))).map (fun x => i + 1 + x) := by
          rw [← List.range_add]
          congr 1
          omega
        rw [this]
        exact List.prefix_append _ _
      rw [hst] at hR
      have e1 : ((9 * i + 9 : Nat) : Int) - 9 = ((9 * i : Nat) : Int) := by omega
      have e2 : 9 * i + 9 - 9 * i = 9 := by omega
      have e3 : ((9 * i + 9 : Nat) : Int) + 9 = ((9 * (i + 1) + 9 : Nat) : Int) := by omega
      replace hpre := Lib.hid hpre
      replace hR := Lib.hid hR
      replace hst := Lib.hid hst
      replace e3 := Lib.hid e3
      have hXh := Lib.hid hXi
      clear hJi hXi
      generalize hz : 9 * i + 9 = z at *
      generalize hz2 : 9 * i = z2 at *
      replace hz := Lib.hid hz
      replace hz2 := Lib.hid hz2
      gi_wp2_with fail
      refine hR.out.mono ?_
      rintro e W3 (⟨rfl, hJ3, hk3⟩ | ⟨rfl, hJx3⟩)
      · have hX3 := Lib.hid (hk3 _ _ _ hXh.out)
        clear hR hy hk3 x0 t1 e1 e2
        gi_wp2
        go_roundw
        case rel => exact ⟨i + 1, by omega, by rw [e3.out], hJ3, hX3.out⟩
        case measure =>
          have := hz.out
          simp only [intOf]
          omega
      · clear hR hy x0 t1 e1 e2
        gi_wp2
        refine bodyPost_ret (results_none rfl _ _ _) rfl ?_
        exact ⟨⟨_, rfl⟩, .inr ⟨_, hpre.out, hJx3⟩⟩
    · obtain rfl : i = n / 9 := by omega
      have t1 : decide (((9 * (n / 9) + 9 : Nat) : Int) ≤ (n : Int)) = false := decide_eq_false (by omega)
      clear hXi
      gi_wp2_with fail
      go_end0
      exact ⟨⟨_, rfl⟩, .inl ⟨_, rfl, hJi⟩⟩
end Go.Proofs.Ytekjcgckniopdaa
