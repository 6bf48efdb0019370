/-
  What some names do: calls and coming back, sums of bytes and of words.
-/
import Derived.Test.YtknlbmjncginnaaGreatDoorPF
import Derived.Test.YtknlbmjncginnaaGreatDoorPD
import Derived.Test.YtknlbmjncginnaaGreatDoorPK
namespace Go.Proofs.YtknlbmjncginnaaGreatDoor
open Go.RowKit Go.Shelf
set_option maxRecDepth 100000
set_option maxHeartbeats 1000000
set_option linter.unusedVariables false

section
variable {K : Cx} {z : Zs} {s : Ts} {w w' : World}
theorem act_combine (h : Tk K z s w) (hn : z.n1 = .string ⟨#[65, 68, 67]⟩) : Calls Tryz.prog 96 #[.pointer (some ⟨K.b, 0, none⟩)] w fun e w' => e = .returned (.func (.func 140) #[.pointer (some ⟨K.b, 0, none⟩)] #[]) ∧ w' = w := by
  have c10 := h.lookN.2.1
  rw [hn] at c10
  clear h
  go_enter Tryz.func96, Tryz.ntmps96
  go_wp2_with fail
  go_ret
  exact ⟨rfl, rfl⟩
theorem act_addw (h : Tk K z s w) (hn : z.n1 = .string ⟨#[65, 68, 68, 87]⟩) : Calls Tryz.prog 96 #[.pointer (some ⟨K.b, 0, none⟩)] w fun e w' => e = .returned (.func (.func 151) #[.pointer (some ⟨K.b, 0, none⟩)] #[]) ∧ w' = w := by
  have c10 := h.lookN.2.1
  rw [hn] at c10
  clear h
  go_enter Tryz.func96, Tryz.ntmps96
  go_wp2_with fail
  go_ret
  exact ⟨rfl, rfl⟩
theorem act_subw (h : Tk K z s w) (hn : z.n1 = .string ⟨#[83, 85, 66, 87]⟩) : Calls Tryz.prog 96 #[.pointer (some ⟨K.b, 0, none⟩)] w fun e w' => e = .returned (.func (.func 151) #[.pointer (some ⟨K.b, 0, none⟩)] #[]) ∧ w' = w := by
  have c10 := h.lookN.2.1
  rw [hn] at c10
  clear h
  go_enter Tryz.func96, Tryz.ntmps96
  go_wp2_with fail
  go_ret
  exact ⟨rfl, rfl⟩
theorem flow_call (h : Tk K z s w) (hn : z.n1 = .string ⟨#[67, 65, 76, 76]⟩) : Calls Tryz.prog 158 #[.pointer (some ⟨K.b, 0, none⟩)] w fun e w' => e = .returned (.func (.func 214) #[.pointer (some ⟨K.b, 0, none⟩)] #[]) ∧ w' = w := by
  have c10 := h.lookN.2.1
  rw [hn] at c10
  clear h
  go_enter Tryz.func158, Tryz.ntmps158
  go_wp2_with fail
  go_ret
  exact ⟨rfl, rfl⟩
theorem act_call (h : Tk K z s w) (hn : z.n1 = .string ⟨#[67, 65, 76, 76]⟩) : Calls Tryz.prog 96 #[.pointer (some ⟨K.b, 0, none⟩)] w fun e w' => e = .returned (.func (.func 214) #[.pointer (some ⟨K.b, 0, none⟩)] #[]) ∧ w' = w := by
  have HF := Lib.hid (flow_call h hn)
  have c10 := h.lookN.2.1
  rw [hn] at c10
  clear h
  go_enter Tryz.func96, Tryz.ntmps96
  go_wp2_with fail
  with_reducible refine HF.out.mono ?_
  rintro e w1 ⟨rfl, rfl⟩
  go_wp2_with fail
  go_ret
  exact ⟨rfl, rfl⟩
theorem flow_ret (h : Tk K z s w) (hn : z.n1 = .string ⟨#[82, 69, 84]⟩) : Calls Tryz.prog 158 #[.pointer (some ⟨K.b, 0, none⟩)] w fun e w' => e = .returned (.func (.func 217) #[.pointer (some ⟨K.b, 0, none⟩)] #[]) ∧ w' = w := by
  have c10 := h.lookN.2.1
  rw [hn] at c10
  clear h
  go_enter Tryz.func158, Tryz.ntmps158
  go_wp2_with fail
  go_ret
  exact ⟨rfl, rfl⟩
theorem act_ret (h : Tk K z s w) (hn : z.n1 = .string ⟨#[82, 69, 84]⟩) : Calls Tryz.prog 96 #[.pointer (some ⟨K.b, 0, none⟩)] w fun e w' => e = .returned (.func (.func 217) #[.pointer (some ⟨K.b, 0, none⟩)] #[]) ∧ w' = w := by
  have HF := Lib.hid (flow_ret h hn)
  have c10 := h.lookN.2.1
  rw [hn] at c10
  clear h
  go_enter Tryz.func96, Tryz.ntmps96
  go_wp2_with fail
  with_reducible refine HF.out.mono ?_
  rintro e w1 ⟨rfl, rfl⟩
  go_wp2_with fail
  go_ret
  exact ⟨rfl, rfl⟩
end
end Go.Proofs.YtknlbmjncginnaaGreatDoor
namespace Go.Proofs.YtknlbmjncginnaaGreatDoor
open Go.RowKit Go.Shelf
set_option maxRecDepth 100000
set_option maxHeartbeats 1000000
set_option linter.unusedVariables false

def actM (c nd no : Nat) : M Unit :=
  if c = 136 then combineM 3 65 nd 35 no else if c = 122 then addWordM 0 no else if c = 154 then addWordM 1 no else if c = 63 then callM no else if c = 111 then backM else M.pure ()
theorem ok136 (K : Cx) : ActOk K 136 actM := fun z s w nd no t hz hl => by
  have hn : nmF 136 = ⟨#[65, 68, 67]⟩ := by kernel_rfl
  have hcd : cdF (fmL 136) = 65 := by kernel_rfl
  have hco : coF (fmL 136) = 35 := by kernel_rfl
  rw [hcd, hco, hn] at hz
  exact ⟨_, act_combine t hz.n1, fun _ _ => rfl, combine_any t hz 3 (by decide) hz.n1 (.inr (.inl rfl)) (.inl (by decide)) (.inl (by decide)) (by omega)⟩
theorem ok122 (K : Cx) : ActOk K 122 actM := fun z s w nd no t hz hl => by
  have hn : nmF 122 = ⟨#[65, 68, 68, 87]⟩ := by kernel_rfl
  rw [hn] at hz
  exact ⟨_, act_addw t hz.n1, fun _ _ => rfl, addWord0_any t hz hz.n1 (by omega)⟩
theorem ok154 (K : Cx) : ActOk K 154 actM := fun z s w nd no t hz hl => by
  have hn : nmF 154 = ⟨#[83, 85, 66, 87]⟩ := by kernel_rfl
  rw [hn] at hz
  exact ⟨_, act_subw t hz.n1, fun _ _ => rfl, addWord1_any t hz hz.n1 (by omega)⟩
theorem ok63 (K : Cx) : ActOk K 63 actM := fun z s w nd no t hz hl => by
  have hn : nmF 63 = ⟨#[67, 65, 76, 76]⟩ := by kernel_rfl
  have hco : coF (fmL 63) = 97 := by kernel_rfl
  rw [hn, hco] at hz
  exact ⟨_, act_call t hz.n1, fun _ _ => rfl, callA_any t hz (by decide) (by decide) (by omega)⟩
theorem ok111 (K : Cx) : ActOk K 111 actM := fun z s w nd no t hz hl => by
  have hn : nmF 111 = ⟨#[82, 69, 84]⟩ := by kernel_rfl
  rw [hn] at hz
  exact ⟨_, act_ret t hz.n1, fun _ _ => rfl, back_any t (by omega)⟩
/-- The first byte is the code. -/
theorem fetch_seen {r : Rp} {a : Nat} {t : List Nat} {s1 : Ts} {c : Nat} (h : Ran fetchM (s0 r ⟨none, a :: t⟩) c s1) : c = a := by
  have e : Ran fetchM (s0 r ⟨none, a :: t⟩) a ⟨{ r with Pc := (r.Pc + 1) % 65536 }, [(1, r.Pc % 65536, 0)], ⟨none, t⟩⟩ := rfl
  unfold Ran at h e
  rw [e] at h
  injection h with _ h
  injection h with _ h
  injection h with h
  injection h with h _
  exact h.symm
def r5 : Rp := ⟨5, 0, 0, 0, 0, 512, false⟩
theorem go136 : go (runM actM r5) [] ⟨none, [136, 255]⟩ = ([(1, 512, 0), (1, 513, 0)], ⟨none, []⟩, some ((), ⟨4, 0, 0, 0, 9, 514, false⟩)) := by kernel_rfl
end Go.Proofs.YtknlbmjncginnaaGreatDoor
namespace Go.Proofs.YtknlbmjncginnaaGreatDoor
open Go.RowKit Go.Shelf
set_option maxRecDepth 100000
set_option maxHeartbeats 1000000
set_option linter.unusedVariables false

def add1 (b : Nat) (r : Rp) : Rp := { sumR r.A b r with A := sumV r r.A b }
def add2 (b : Nat) (r : Rp) : Rp := { sumR r.Y b r with Y := sumV r r.Y b }
def addR (k w : Nat) (r : Rp) : Rp := tellWR (yaR (add2 (addWV k w / 256) (add1 (addWV k w % 256) (putR 1 (k != 0) r)))) (add2 (addWV k w / 256) (add1 (addWV k w % 256) (putR 1 (k != 0) r)))
theorem go122 (A X Y S P Pc a l h : Nat) : (go (runM actM ⟨A, X, Y, S, P, Pc, false⟩) [] ⟨none, [122, a, l, h]⟩).2.2 = some ((), addR 0 (h * 256 + l) ⟨A, X, Y, S, P, ((Pc + 1) % 65536 + 1) % 65536, false⟩) := by
  kernel_rfl
theorem go122l (A X Y S P Pc a l h : Nat) : (go (runM actM ⟨A, X, Y, S, P, Pc, false⟩) [] ⟨none, [122, a, l, h]⟩).1.length = 5 := by
  kernel_rfl
theorem go154 (A X Y S P Pc a l h : Nat) : (go (runM actM ⟨A, X, Y, S, P, Pc, false⟩) [] ⟨none, [154, a, l, h]⟩).2.2 = some ((), addR 1 (h * 256 + l) ⟨A, X, Y, S, P, ((Pc + 1) % 65536 + 1) % 65536, false⟩) := by
  kernel_rfl
theorem go154l (A X Y S P Pc a l h : Nat) : (go (runM actM ⟨A, X, Y, S, P, Pc, false⟩) [] ⟨none, [154, a, l, h]⟩).1.length = 5 := by
  kernel_rfl
/-- One bit put, that bit or another looked at. -/
theorem flag_at (P f g : Nat) (on : Bool) : flagP P f on &&& g = if on then (P &&& ((255 - f) &&& g)) ||| (f &&& g) else P &&& ((255 - f) &&& g) := by
  unfold flagP
  cases on
  · simp [Nat.and_assoc]
  · simp [Nat.and_or_distrib_right, Nat.and_assoc]
theorem add_P1 (b : Nat) (r : Rp) : (add1 b r).P &&& 1 = if 256 ≤ r.A + b + r.P % 2 then 1 else 0 := by
  show flagP (flagP (flagP r.P 1 _) 8 _) 64 _ &&& 1 = _
  rw [flag_at]
  simp only [show (255 - 64) &&& 1 = 1 from rfl, show 64 &&& 1 = 0 from rfl, Nat.or_zero, ite_self]
  rw [flag_at]
  simp only [show (255 - 8) &&& 1 = 1 from rfl, show 8 &&& 1 = 0 from rfl, Nat.or_zero, ite_self]
  rw [flag_at]
  simp only [show (255 - 1) &&& 1 = 0 from rfl, show 1 &&& 1 = 1 from rfl, Nat.and_zero, Nat.zero_or, decide_eq_true_eq]
theorem add_P2 (b : Nat) (r : Rp) : (add2 b r).P &&& 1 = if 256 ≤ r.Y + b + r.P % 2 then 1 else 0 := by
  show flagP (flagP (flagP r.P 1 _) 8 _) 64 _ &&& 1 = _
  rw [flag_at]
  simp only [show (255 - 64) &&& 1 = 1 from rfl, show 64 &&& 1 = 0 from rfl, Nat.or_zero, ite_self]
  rw [flag_at]
  simp only [show (255 - 8) &&& 1 = 1 from rfl, show 8 &&& 1 = 0 from rfl, Nat.or_zero, ite_self]
  rw [flag_at]
  simp only [show (255 - 1) &&& 1 = 0 from rfl, show 1 &&& 1 = 1 from rfl, Nat.and_zero, Nat.zero_or, decide_eq_true_eq]
theorem tellW_P1 (v : Nat) (r : Rp) : (tellWR v r).P &&& 1 = r.P &&& 1 := by
  show flagP (flagP r.P 128 _) 2 _ &&& 1 = _
  rw [flag_at]
  simp only [show (255 - 2) &&& 1 = 1 from rfl, show 2 &&& 1 = 0 from rfl, Nat.or_zero, ite_self]
  rw [flag_at]
  simp only [show (255 - 128) &&& 1 = 1 from rfl, show 128 &&& 1 = 0 from rfl, Nat.or_zero, ite_self]
theorem tellW_P2 (v : Nat) (r : Rp) : (tellWR v r).P &&& 2 = if v = 0 then 2 else 0 := by
  show flagP (flagP r.P 128 _) 2 _ &&& 2 = _
  rw [flag_at]
  simp only [show (255 - 2) &&& 2 = 0 from rfl, show 2 &&& 2 = 2 from rfl, Nat.and_zero, Nat.zero_or, decide_eq_true_eq]
theorem tellW_P128 (v : Nat) (r : Rp) : (tellWR v r).P &&& 128 = if hasP v 32768 then 128 else 0 := by
  show flagP (flagP r.P 128 _) 2 _ &&& 128 = _
  rw [flag_at]
  simp only [show (255 - 2) &&& 128 = 128 from rfl, show 2 &&& 128 = 0 from rfl, Nat.or_zero, ite_self]
  rw [flag_at]
  simp only [show (255 - 128) &&& 128 = 0 from rfl, show 128 &&& 128 = 128 from rfl, Nat.and_zero, Nat.zero_or]
theorem top16 (v : Nat) (h : v < 65536) : hasP v 32768 = decide (32767 < v) := by
  unfold hasP
  rw [show (32768 : Nat) = 2 ^ 15 from rfl]
  by_cases h1 : 32767 < v
  · have hb : (v &&& 2 ^ 15).testBit 15 = true := by
      rw [Nat.testBit_and, Nat.testBit_two_pow_self, Nat.testBit_eq_decide_div_mod_eq, show v / 2 ^ 15 % 2 = 1 by omega]
      rfl
    have hn : v &&& 2 ^ 15 ≠ 0 := fun h0 => by rw [h0] at hb; exact absurd hb (by decide)
    rw [decide_eq_false hn, decide_eq_true h1]
    rfl
  · have h0 : v &&& 2 ^ 15 = 0 := by
      apply Nat.eq_of_testBit_eq
      intro i
      rw [Nat.testBit_and, Nat.zero_testBit, Nat.testBit_two_pow]
      by_cases hi : 15 = i
      · subst hi
        rw [Nat.testBit_lt_two_pow (show v < 2 ^ 15 by omega)]
        rfl
      · simp [hi]
    rw [decide_eq_true h0, decide_eq_false h1]
    rfl
theorem addW_sum (w : Nat) (r : Rp) (hr : r.Ok) (hw : w < 65536) :
    (addR 0 w r).Y * 256 + (addR 0 w r).A = (yaR r + w) % 65536 ∧ (addR 0 w r).P &&& 1 = (if 65535 < yaR r + w then 1 else 0) ∧ (addR 0 w r).P &&& 2 = (if (yaR r + w) % 65536 = 0 then 2 else 0) ∧ (addR 0 w r).P &&& 128 = (if 32767 < (yaR r + w) % 65536 then 128 else 0) := by
  have hA := hr.A
  have hY := hr.Y
  have p0 : (putR 1 (0 != 0) r).P % 2 = 0 := by rw [← Nat.and_one_is_mod]; show flagP r.P 1 false &&& 1 = 0; rw [flag_at]; simp
  have p1 := add_P1 (w % 256) (putR 1 (0 != 0) r)
  rw [p0, Nat.and_one_is_mod] at p1
  have p1' : (add1 (w % 256) (putR 1 (0 != 0) r)).P % 2 = if 256 ≤ r.A + w % 256 + 0 then 1 else 0 := p1
  have p2 := add_P2 (w / 256) (add1 (w % 256) (putR 1 (0 != 0) r))
  rw [p1'] at p2
  have p2' : (add2 (w / 256) (add1 (w % 256) (putR 1 (0 != 0) r))).P &&& 1 = if 256 ≤ r.Y + w / 256 + (if 256 ≤ r.A + w % 256 + 0 then 1 else 0) then 1 else 0 := p2
  have a1 : (add2 (w / 256) (add1 (w % 256) (putR 1 (0 != 0) r))).A = (r.A + w % 256 + 0) % 256 := by
    show (r.A + w % 256 + (putR 1 (0 != 0) r).P % 2) % 256 = _
    rw [p0]
  have y1 : (add2 (w / 256) (add1 (w % 256) (putR 1 (0 != 0) r))).Y = (r.Y + w / 256 + (if 256 ≤ r.A + w % 256 + 0 then 1 else 0)) % 256 := by
    show (r.Y + w / 256 + (add1 (w % 256) (putR 1 (0 != 0) r)).P % 2) % 256 = _
    rw [p1']
  have hv : yaR (add2 (w / 256) (add1 (w % 256) (putR 1 (0 != 0) r))) = (yaR r + w) % 65536 := by
    unfold yaR
    rw [a1, y1]
    split <;> omega
  have hlt : (yaR r + w) % 65536 < 65536 := Nat.mod_lt _ (by decide)
  refine ⟨hv, ?_, ?_, ?_⟩
  · show (tellWR (yaR (add2 (w / 256) (add1 (w % 256) (putR 1 (0 != 0) r)))) (add2 (w / 256) (add1 (w % 256) (putR 1 (0 != 0) r)))).P &&& 1 = _
    rw [tellW_P1, p2']
    unfold yaR
    split <;> split <;> split <;> omega
  · show (tellWR (yaR (add2 (w / 256) (add1 (w % 256) (putR 1 (0 != 0) r)))) (add2 (w / 256) (add1 (w % 256) (putR 1 (0 != 0) r)))).P &&& 2 = _
    rw [tellW_P2, hv]
  · show (tellWR (yaR (add2 (w / 256) (add1 (w % 256) (putR 1 (0 != 0) r)))) (add2 (w / 256) (add1 (w % 256) (putR 1 (0 != 0) r)))).P &&& 128 = _
    rw [tellW_P128, hv, top16 _ hlt]
    simp
theorem subW_sum (w : Nat) (r : Rp) (hr : r.Ok) (hw : w < 65536) :
    (addR 1 w r).Y = (yaR r + 65536 - w) % 65536 / 256 ∧ (addR 1 w r).A = (yaR r + 65536 - w) % 256 ∧ (addR 1 w r).P &&& 1 = (if w ≤ yaR r then 1 else 0) := by
  have hA := hr.A
  have hY := hr.Y
  have p0 : (putR 1 (1 != 0) r).P % 2 = 1 := by rw [← Nat.and_one_is_mod]; show flagP r.P 1 true &&& 1 = 1; rw [flag_at]; simp
  have p1 := add_P1 ((65535 - w) % 256) (putR 1 (1 != 0) r)
  rw [p0, Nat.and_one_is_mod] at p1
  have p1' : (add1 ((65535 - w) % 256) (putR 1 (1 != 0) r)).P % 2 = if 256 ≤ r.A + (65535 - w) % 256 + 1 then 1 else 0 := p1
  have p2 := add_P2 ((65535 - w) / 256) (add1 ((65535 - w) % 256) (putR 1 (1 != 0) r))
  rw [p1'] at p2
  have p2' : (add2 ((65535 - w) / 256) (add1 ((65535 - w) % 256) (putR 1 (1 != 0) r))).P &&& 1 = if 256 ≤ r.Y + (65535 - w) / 256 + (if 256 ≤ r.A + (65535 - w) % 256 + 1 then 1 else 0) then 1 else 0 := p2
  refine ⟨?_, ?_, ?_⟩
  · show (r.Y + (65535 - w) / 256 + (add1 ((65535 - w) % 256) (putR 1 (1 != 0) r)).P % 2) % 256 = _
    rw [p1']
    unfold yaR
    split <;> omega
  · show (r.A + (65535 - w) % 256 + (putR 1 (1 != 0) r).P % 2) % 256 = _
    rw [p0]
    unfold yaR
    omega
  · show (tellWR _ (add2 ((65535 - w) / 256) (add1 ((65535 - w) % 256) (putR 1 (1 != 0) r)))).P &&& 1 = _
    rw [tellW_P1, p2']
    unfold yaR
    split <;> split <;> split <;> omega
end Go.Proofs.YtknlbmjncginnaaGreatDoor
namespace Go.Proofs.YtknlbmjncginnaaGreatDoor
open Go.RowKit Go.Shelf
set_option maxRecDepth 100000
set_option maxHeartbeats 1000000
set_option linter.unusedVariables false

theorem Row.whole {w : World} {b : Nat} {t : TypeId} (xs : List Nat) (hx : ∀ x ∈ xs, x < 256) (h : Whole w b t (xs.map fun x => Value.int .u8 (x : Nat)).toArray) : Row w (some ⟨b, 0, none⟩) xs.length (fun i => xs.getD i 0) := by
  refine ⟨fun i hi => ?_, .inr ⟨b, 0, rfl, h.lt, fun i hi => ?_⟩⟩
  · show xs.getD i 0 < 256
    rw [List.getD_eq_getElem?_getD, List.getElem?_eq_getElem hi]
    exact hx _ (List.getElem_mem hi)
  · have h := h.cell i
    rw [Nat.zero_add, h]
    simp [hi]
theorem Row.fresh (w : World) (t : TypeId) (xs : List Nat) (hx : ∀ x ∈ xs, x < 256) : Row (w.alloc (.cells (xs.map fun x => Value.int .u8 (x : Nat)).toArray t)) (some ⟨w.heap.size, 0, none⟩) xs.length (fun i => xs.getD i 0) := Row.whole xs hx (Whole.fresh w t _)
theorem range_getD (xs : List Nat) : (List.range xs.length).map (fun i => xs.getD i 0) = xs := by
  apply List.ext_getElem
  · simp
  · intro i h1 h2
    simp at h1
    simp [h1]
theorem course_at (r r' : Rp) (x : Nat) (t : List Nat) (m n : Nat) (a : Option Addr) (c : Nat) (w : World) (hr : r.Ok) (hm : m = (x :: t).length) (hR : Row w a m (fun i => (x :: t).getD i 0)) (hc : m ≤ c) (hA : ∀ K, ActOk K x actM)
    (h2 : (go (runM actM r) [] ⟨none, x :: t⟩).2.2 = some ((), r')) (hl : (go (runM actM r) [] ⟨none, x :: t⟩).1.length = n) :
    Calls Tryz.prog 16 #[pegV r, .slice a m c] w fun e w' => (∃ la lc, e = .returned (.tuple #[.slice la n lc, .bool true, pegV r'])) ∧ Below w.heap.size w w' ∧ r'.Ok := by
  subst hm
  have e := range_getD (x :: t)
  refine (course_any actM r a _ c (fun i => (x :: t).getD i 0) w hr hR hc (fun K s1 c h => ?_)).mono ?_
  · rw [e] at h
    rw [fetch_seen h]
    exact hA K
  · intro en w' hp
    rw [e] at hp
    obtain ⟨s', lv, hb, ho, -, (⟨h, hok, rfl⟩ | ⟨h, rfl⟩)⟩ := hp
    · unfold Ran s0 at h
      dsimp only at h
      rw [h] at h2 hl
      injection h2 with h2
      injection h2 with _ h2
      subst h2
      dsimp only at hl
      subst hl
      obtain ⟨la, lc, rfl⟩ := row_slice ho
      exact ⟨⟨la, lc, rfl⟩, hb, hok⟩
    · unfold Gave s0 at h
      dsimp only at h
      rw [h] at h2
      cases h2
theorem r5ok : r5.Ok := ⟨by decide, by decide, by decide, by decide, by decide, by decide⟩
theorem sums_any (w : World) : Calls Tryz.prog 22 #[] w fun e w' => e = .returned (.bool true) ∧ Below w.heap.size w w' := by
  have hb0 := Lib.hid ((Below.refl w.heap.size w).alloc (Nat.le_refl _) (.cells #[.int .u8 136, .int .u8 255] 5))
  have hR : Row (w.alloc (.cells #[.int .u8 136, .int .u8 255] 5)) (some ⟨w.heap.size, 0, none⟩) 2 (fun i => [136, 255].getD i 0) := Row.fresh w 5 [136, 255] (by decide)
  have H1 : Calls Tryz.prog 16 #[.agg #[.int .u8 5, .int .u8 0, .int .u8 0, .int .u8 0, .int .u8 0, .int .u16 512, .bool false], .slice (some ⟨w.heap.size, 0, none⟩) 2 2] (w.alloc (.cells #[.int .u8 136, .int .u8 255] 5)) fun e w' =>
      (∃ la lc, e = .returned (.tuple #[.slice la 2 lc, .bool true, .agg #[.int .u8 4, .int .u8 0, .int .u8 0, .int .u8 0, .int .u8 9, .int .u16 514, .bool false]])) ∧ Below (w.alloc (.cells #[.int .u8 136, .int .u8 255] 5)).heap.size (w.alloc (.cells #[.int .u8 136, .int .u8 255] 5)) w' ∧ Rp.Ok ⟨4, 0, 0, 0, 9, 514, false⟩ :=
    course_at r5 ⟨4, 0, 0, 0, 9, 514, false⟩ 136 [255] 2 2 _ 2 _ r5ok rfl hR (by decide) ok136 (by rw [go136]) (by rw [go136]; rfl)
  replace H1 := Lib.hid H1
  clear hR
  have hw : w.heap.size ≤ (w.alloc (.cells #[.int .u8 136, .int .u8 255] 5)).heap.size := by simp
  go_enter Tryz.func22, Tryz.ntmps22
  go_wp2_with fail
  with_reducible refine H1.out.mono ?_
  rintro e W1 ⟨⟨la, lc, rfl⟩, hb1, -⟩
  replace hb1 := hb0.out.trans (hb1.mono hw)
  clear H1 hb0 hw
  go_wp2_with fail
  go_ret
  exact ⟨rfl, hb1.alloc hb1.size _⟩
end Go.Proofs.YtknlbmjncginnaaGreatDoor
