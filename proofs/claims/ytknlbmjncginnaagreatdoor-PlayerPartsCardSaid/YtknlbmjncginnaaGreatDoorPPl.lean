/-
  A player as numbers: the registers, the bytes read, how many accesses were carried out; what a step makes of it.
-/
import Derived.Test.YtknlbmjncginnaaGreatDoorTCr
namespace Go.Proofs.YtknlbmjncginnaaGreatDoor
open Go.RowKit Go.Shelf
set_option maxRecDepth 100000
set_option maxHeartbeats 1000000
set_option linter.unusedVariables false

structure Pl where
  r : Rp
  seen : List Nat
  done : Nat
def Pl.list (p : Pl) : List Ac := crL p.r p.seen
def Pl.behind (p : Pl) : Rp := crR p.r p.seen
def Pl.new (r : Rp) : Pl := ⟨r, [], 0⟩
/-- The next cycle. -/
def Pl.next (p : Pl) : Ac := p.list.getD p.done (0, 0, 0)
/-- Behind a cycle, ahead of going on with the next instruction. -/
def Pl.on (p : Pl) (v : Nat) : Pl := ⟨p.r, if p.next.1 = 1 then p.seen ++ [v] else p.seen, p.done + 1⟩
def Pl.step (p : Pl) (v : Nat) : Pl := if (p.on v).done = (p.on v).list.length then Pl.new (p.on v).behind else p.on v
structure Pl.Ok (p : Pl) : Prop where
  r : p.r.Ok
  seen : ∀ x ∈ p.seen, x < 256
  done : p.done < p.list.length
  reads : reads (p.list.take p.done) = p.seen.length
theorem Pl.Ok.len {p : Pl} (h : p.Ok) : p.list.length ≤ 14 := (crL_most p.r h.seen).2
theorem Pl.Ok.seen_le {p : Pl} (h : p.Ok) : p.seen.length ≤ 14 := by
  have h1 := h.reads
  have h2 : Go.Proofs.YtknlbmjncginnaaGreatDoor.reads (p.list.take p.done) ≤ (p.list.take p.done).length := List.countP_le_length
  rw [List.length_take] at h2
  have := h.len
  omega
theorem Pl.new_ok {r : Rp} (h : r.Ok) : (Pl.new r).Ok := ⟨h, fun x hx => absurd hx List.not_mem_nil, (crL_most r (sn := []) (fun x hx => absurd hx List.not_mem_nil)).1, by show Go.Proofs.YtknlbmjncginnaaGreatDoor.reads ((Pl.new r).list.take 0) = 0; rw [List.take_zero]; rfl⟩
theorem Pl.next_eq {p : Pl} (h : p.done < p.list.length) : p.next = p.list[p.done] := by
  unfold Pl.next
  rw [List.getD_eq_getElem?_getD, List.getElem?_eq_getElem h]
  rfl
theorem take_reads (l : List Ac) (k : Nat) (hk : k < l.length) : reads (l.take (k + 1)) = reads (l.take k) + (if (l[k]).1 = 1 then 1 else 0) := by
  rw [List.take_succ_eq_append_getElem hk, reads_app]
  congr 1
  unfold reads
  rw [List.countP_cons, List.countP_nil, Nat.zero_add]
  by_cases h : (l[k]).1 = 1
  · rw [if_pos h, if_pos (by rw [beq_iff_eq]; exact h)]
  · rw [if_neg h, if_neg (by rw [beq_iff_eq]; exact h)]
/-- Who goes through has read no more than there was. -/
theorem go_count {α : Type} (p : Pg α) : ∀ l sn l' q' a, go p l ⟨none, sn⟩ = (l', q', some a) → reads l' + q'.seen.length = reads l + sn.length := by
  induction p with
  | ret a => intro l sn l' q' b e; injection e with e1 e2; injection e2 with e2 e3; subst e1; subst e2; rfl
  | idle p ih =>
    intro l sn l' q' b e
    have := ih _ _ _ _ _ e
    rw [reads_app, show reads [(0, 0, 0)] = 0 from rfl] at this
    omega
  | write a v p ih =>
    intro l sn l' q' b e
    have := ih _ _ _ _ _ e
    rw [reads_app, show reads [(2, a % 65536, v % 256)] = 0 from rfl] at this
    omega
  | read a p ih =>
    intro l sn l' q' b e
    cases sn with
    | nil =>
      rw [go_read_none a p l ⟨none, []⟩ rfl] at e
      injection e with _ e
      injection e with _ e
      cases e
    | cons v t =>
      rw [go_read_some a v p l ⟨none, v :: t⟩ ⟨none, t⟩ rfl] at e
      have := ih v _ _ _ _ _ e
      rw [reads_app, show reads [(1, a % 65536, 0)] = 1 from rfl] at this
      simp only [List.length_cons]
      omega
theorem cr_count (r : Rp) (sn : List Nat) (h : crD r sn = true) : reads (crL r sn) ≤ sn.length := by
  unfold crD at h
  cases hx : crG r sn with
  | mk l y =>
    obtain ⟨q, o⟩ := y
    rw [hx] at h
    cases o with
    | none => cases h
    | some a =>
      have := go_count (runM actA r) [] sn l q a hx
      have e : crL r sn = l := by unfold crL; rw [hx]
      rw [e]
      have h0 : reads [] = 0 := rfl
      omega
theorem reads_drop (l : List Ac) (k : Nat) : reads l = reads (l.take k) + reads (l.drop k) := by rw [← reads_app, List.take_append_drop]
/-- A read that is next is the last access that is known, and is not all. -/
theorem Pl.Ok.last {p : Pl} (h : p.Ok) (ha : p.next.1 = 1) : crD p.r p.seen = false ∧ p.done + 1 = p.list.length := by
  have hn := Pl.next_eq h.done
  rw [hn] at ha
  have h1 := take_reads p.list p.done h.done
  rw [if_pos ha, h.reads] at h1
  have h2 := reads_drop p.list (p.done + 1)
  cases hd : crD p.r p.seen with
  | true =>
    have h3 := cr_count p.r p.seen hd
    have h4 : Go.Proofs.YtknlbmjncginnaaGreatDoor.reads p.list ≤ p.seen.length := h3
    omega
  | false =>
    refine ⟨rfl, ?_⟩
    obtain ⟨_, _, h3⟩ := cr_more p.r p.seen [] h.seen
    obtain ⟨_, ⟨l', x, h4⟩, h5, _⟩ := h3 hd
    have h6 : Go.Proofs.YtknlbmjncginnaaGreatDoor.reads p.list = p.seen.length + 1 := h5
    have h7 : Go.Proofs.YtknlbmjncginnaaGreatDoor.reads (p.list.drop (p.done + 1)) = 0 := by omega
    by_cases hl : p.done + 1 = p.list.length
    · exact hl
    · exfalso
      have hd2 := h.done
      have e : p.list = l' ++ [(1, x, 0)] := h4
      have hlen : p.list.length = l'.length + 1 := by rw [e]; simp
      have e2 : p.list.drop (p.done + 1) = l'.drop (p.done + 1) ++ [(1, x, 0)] := by rw [e, List.drop_append_of_le_length (by omega)]
      rw [e2, reads_app, show Go.Proofs.YtknlbmjncginnaaGreatDoor.reads [(1, x, 0)] = 1 from rfl] at h7
      omega
/-- What a cycle leaves: the accesses carried out are those that were told. -/
theorem Pl.Ok.on {p : Pl} (h : p.Ok) {v : Nat} (hv : v < 256) : p.list <+: (p.on v).list ∧ (∀ x ∈ (p.on v).seen, x < 256) ∧ (p.on v).done ≤ (p.on v).list.length ∧ Go.Proofs.YtknlbmjncginnaaGreatDoor.reads ((p.on v).list.take (p.on v).done) = (p.on v).seen.length := by
  have hn := Pl.next_eq h.done
  have h1 := take_reads p.list p.done h.done
  rw [h.reads, ← hn] at h1
  have hd := h.done
  by_cases ha : p.next.1 = 1
  · have e : p.on v = ⟨p.r, p.seen ++ [v], p.done + 1⟩ := by unfold Pl.on; rw [if_pos ha]
    rw [e]
    have hp : p.list <+: crL p.r (p.seen ++ [v]) := (cr_more p.r p.seen [v] h.seen).1
    rw [if_pos ha] at h1
    refine ⟨hp, fun x hx => ?_, ?_, ?_⟩
    · rcases List.mem_append.1 hx with hx | hx
      · exact h.seen x hx
      · rw [List.mem_singleton.1 hx]; exact hv
    · have := hp.length_le
      show p.done + 1 ≤ (crL p.r (p.seen ++ [v])).length
      omega
    · show Go.Proofs.YtknlbmjncginnaaGreatDoor.reads ((crL p.r (p.seen ++ [v])).take (p.done + 1)) = (p.seen ++ [v]).length
      obtain ⟨t, ht⟩ := hp
      rw [← ht, List.take_append_of_le_length (by omega), h1]
      simp
  · have e : p.on v = ⟨p.r, p.seen, p.done + 1⟩ := by unfold Pl.on; rw [if_neg ha]
    rw [e]
    rw [if_neg ha, Nat.add_zero] at h1
    exact ⟨List.prefix_refl _, h.seen, hd, h1⟩
theorem Pl.Ok.step {p : Pl} (h : p.Ok) {v : Nat} (hv : v < 256) (hb : (p.on v).done = (p.on v).list.length → (p.on v).behind.Ok) : (p.step v).Ok := by
  obtain ⟨h1, h2, h3, h4⟩ := h.on hv
  unfold Pl.step
  by_cases e : (p.on v).done = (p.on v).list.length
  · rw [if_pos e]
    exact Pl.new_ok (hb e)
  · rw [if_neg e]
    exact ⟨h.r, h2, by omega, h4⟩
end Go.Proofs.YtknlbmjncginnaaGreatDoor
