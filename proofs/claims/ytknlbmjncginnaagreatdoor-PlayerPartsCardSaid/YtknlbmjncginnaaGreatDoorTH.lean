/-
  How many accesses what a name does has; how an instruction goes (genhas.py writes this text).
-/
import Derived.Test.YtknlbmjncginnaaGreatDoorPM
import Derived.Test.YtknlbmjncginnaaGreatDoorPK
namespace Go.Proofs.YtknlbmjncginnaaGreatDoor
open Go.RowKit Go.Shelf
set_option maxRecDepth 100000
set_option maxHeartbeats 4000000
set_option linter.unusedVariables false

/-- How many accesses a method has, at least and at most. -/
def HasM {α : Type} (m : M α) (lo hi : Nat) : Prop := ∀ r, Has (m r) lo hi
section
variable {α β : Type} {m m' : M α} {k : α → M β} {a b c d : Nat}
theorem HasM.pure (a : α) : HasM (M.pure a) 0 0 := fun r => .ret _
theorem HasM.bind (h : HasM m a b) (h2 : ∀ x, HasM (k x) c d) : HasM (M.bind m k) (a + c) (b + d) := fun r => (h r).bind fun x => h2 x.1 x.2
theorem HasM.read (x : Nat) : HasM (M.read x) 1 1 := fun r => .read fun v => .ret _
theorem HasM.write (x v : Nat) : HasM (M.write x v) 1 1 := fun r => .write (.ret _)
theorem HasM.set (g : Rp → Rp) : HasM (M.set g) 0 0 := fun r => .ret _
theorem HasM.ask (f : Rp → α) : HasM (M.ask f) 0 0 := fun r => .ret _
theorem HasM.get {k : Rp → M α} (h : ∀ r, HasM (k r) a b) : HasM (M.get k) a b := fun r => h r r
theorem HasM.wide (h : HasM m a b) (h1 : c ≤ a) (h2 : b ≤ d) : HasM m c d := fun r => .wide (h r) h1 h2
theorem HasM.ite {p : Prop} [Decidable p] {a' b' : Nat} (h : HasM m a b) (h' : HasM m' a' b') (h1 : c ≤ a) (h2 : c ≤ a') (h3 : b ≤ d) (h4 : b' ≤ d) : HasM (if p then m else m') c d := by
  split
  · exact h.wide h1 h3
  · exact h'.wide h2 h4
theorem HasM.idles : ∀ n, HasM (M.idles n) n n
  | 0 => HasM.pure ()
  | n + 1 => by
    have h1 : HasM M.idle 1 1 := fun r => .idle (.ret _)
    have h2 := h1.bind (k := fun _ => M.idles n) fun _ => HasM.idles n
    rw [Nat.add_comm] at h2
    exact h2
theorem HasM.readWord (x y : Nat) : HasM (readWordM x y) 2 2 := (HasM.read x).bind fun v => (HasM.read y).bind fun u => HasM.pure _
theorem HasM.wordAt (x : Nat) : HasM (wordAtM x) 2 2 := HasM.readWord _ _
theorem HasM.wordInPage (x : Nat) : HasM (wordInPageM x) 2 2 := HasM.get (k := fun r => readWordM (placeR r x) (placeR r ((x + 1) % 256))) fun r => HasM.readWord _ _
theorem HasM.push (v : Nat) : HasM (pushM v) 1 1 := HasM.get (k := fun r => M.bind (M.write (256 + r.S) v) fun _ => M.set fun r => { r with S := (r.S + 255) % 256 }) fun r => (HasM.write _ _).bind fun _ => HasM.set _
theorem HasM.pushPc : HasM pushPcM 2 2 := HasM.get (k := fun r => M.bind (pushM (r.Pc / 256)) fun _ => pushM (r.Pc % 256)) fun r => (HasM.push _).bind fun _ => HasM.push _
theorem HasM.pop : HasM popM 1 1 := (HasM.set _).bind (k := fun _ => M.get fun r => M.read (256 + r.S)) fun _ => HasM.get fun r => HasM.read _
theorem HasM.popPc : HasM popPcM 2 2 := HasM.pop.bind fun lo => HasM.pop.bind fun hi => HasM.set _
theorem HasM.writeWord (n v : Nat) : HasM (writeWordM n v) 2 2 := (HasM.ask _).bind fun a => (HasM.write a _).bind fun _ => (HasM.ask _).bind fun b => HasM.write b _
theorem HasM.branch (b : Bool) (n : Nat) : HasM (branchM b n) 0 2 := by
  unfold branchM
  exact HasM.ite ((HasM.idles 2).bind fun _ => HasM.set _) (HasM.pure ()) (Nat.zero_le _) (Nat.le_refl _) (Nat.le_refl _) (Nat.zero_le _)
def adN (c : Nat) : Nat := if c = 108 ∨ c = 109 then 2 else 0
theorem HasM.address (c n : Nat) : HasM (addressM c n) (adN c) (adN c) := by
  unfold addressM
  split
  all_goals first
    | exact HasM.get fun r => HasM.pure _
    | exact (HasM.set _).bind fun _ => HasM.get fun r => HasM.pure _
    | exact HasM.get fun r => HasM.wordInPage _
    | exact (HasM.wordInPage _).bind fun v => HasM.get fun r => HasM.pure _
    | exact HasM.pure _
    | skip
  rename_i h108 h109 _ _
  have e : adN c = 0 := by
    unfold adN
    rw [if_neg]
    rintro (h | h)
    · exact h108 h
    · exact h109 h
  rw [e]
  exact HasM.pure _
def rdN (c : Nat) : Nat := if c ∈ regL then 0 else if c = 35 then 0 else adN c + 1
def wrN (c : Nat) : Nat := if c ∈ regL then 0 else adN c + 1
theorem HasM.readO (c n : Nat) : HasM (Go.Proofs.YtknlbmjncginnaaGreatDoor.readO c n) (rdN c) (rdN c) := by
  unfold Go.Proofs.YtknlbmjncginnaaGreatDoor.readO rdN
  by_cases h1 : c ∈ regL
  · rw [if_pos h1, if_pos h1]
    exact HasM.get fun r => HasM.pure _
  · rw [if_neg h1, if_neg h1]
    by_cases h2 : c = 35
    · rw [if_pos h2, if_pos h2]
      exact HasM.pure _
    · rw [if_neg h2, if_neg h2]
      exact (HasM.address c n).bind fun a => HasM.read a
theorem HasM.writeO (c n v : Nat) : HasM (Go.Proofs.YtknlbmjncginnaaGreatDoor.writeO c n v) (wrN c) (wrN c) := by
  unfold Go.Proofs.YtknlbmjncginnaaGreatDoor.writeO wrN
  by_cases h1 : c ∈ regL
  · rw [if_pos h1, if_pos h1]
    exact HasM.set _
  · rw [if_neg h1, if_neg h1]
    exact (HasM.address c n).bind fun a => HasM.write a v
theorem HasM.readBit (c co no : Nat) : HasM (readBitM c co no) (rdN co) (rdN co) := (HasM.readO co no).bind fun v => HasM.pure _
theorem HasM.just {n : Nat} (h : Just m n) : HasM m n n := h
end
def idleK (c : Nat) : Nat := cyF c - szF c - toF ((nmL c).map UInt8.ofNat) (fmL c)
theorem idleN_eq (c : Nat) : idleN c = idleK c := by
  unfold idleN idleK nmF
  rw [bsOf_toList]
/-- An instruction behind its code. -/
def restM (c : Nat) : M Unit := M.bind (opsM (fmL c)) fun p => M.bind (M.idles (idleN c)) fun _ => actA c p.1 p.2
/-- The least and the most accesses of what a code's name does. -/
def loK (k c : Nat) : Nat := match k with
  | 0 => 0
  | 1 => (2 + (2 + 0))
  | 2 => (rdN (cdF (fmL c)) + wrN (cdF (fmL c)))
  | 3 => (rdN (cdF (fmL c)) + 0)
  | 4 => (rdN (coF (fmL c)) + (rdN (cdF (fmL c)) + (0 + (0 + (wrN (cdF (fmL c)) + 0)))))
  | 5 => (0 + (rdN (coF (fmL c)) + 0))
  | 6 => (rdN (cdF (fmL c)) + (0 + (0 + (wrN (cdF (fmL c)) + 0))))
  | 7 => (rdN (cdF (fmL c)) + 1)
  | 8 => (rdN (cdF (fmL c)) + (0 + (0 + (0 + wrN (cdF (fmL c))))))
  | 9 => (2 + (1 + (0 + (0 + (2 + 0)))))
  | 10 => (0 + 0)
  | 11 => (rdN (cdF (fmL c)) + wrN (cdF (fmL c)))
  | 12 => (rdN (cdF (fmL c)) + 0)
  | 13 => (2 + (2 + 0))
  | 14 => (rdN (cdF (fmL c)) + (0 + (0 + (wrN (cdF (fmL c)) + 0))))
  | 15 => (rdN (coF (fmL c)) + (rdN (cdF (fmL c)) + (0 + 0)))
  | 16 => 0
  | 17 => 0
  | 18 => (rdN (coF (fmL c)) + (rdN (cdF (fmL c)) + (0 + (0 + (wrN (cdF (fmL c)) + 0)))))
  | 19 => (rdN (cdF (fmL c)) + (0 + (0 + (wrN (cdF (fmL c)) + 0))))
  | 20 => (rdN (cdF (fmL c)) + (0 + 0))
  | 21 => 0
  | 22 => (0 + 0)
  | 23 => (2 + (2 + 0))
  | 24 => (rdN (cdF (fmL c)) + (0 + (0 + (wrN (cdF (fmL c)) + 0))))
  | 25 => (2 + 0)
  | 26 => 0
  | 27 => (rdN (coF (fmL c)) + (rdN (cdF (fmL c)) + (0 + (0 + (wrN (cdF (fmL c)) + 0)))))
  | 28 => (0 + (rdN (coF (fmL c)) + 0))
  | 29 => (rdN (cdF (fmL c)) + (0 + (0 + (wrN (cdF (fmL c)) + 0))))
  | 30 => (rdN (cdF (fmL c)) + (0 + (0 + (0 + wrN (cdF (fmL c))))))
  | 31 => (2 + (0 + 0))
  | 32 => (0 + 0)
  | 33 => (2 + (0 + (0 + 0)))
  | 34 => (rdN (coF (fmL c)) + (wrN (cdF (fmL c)) + 0))
  | 35 => 0
  | 36 => (rdN (cdF (fmL c)) + (0 + (0 + (wrN (cdF (fmL c)) + 0))))
  | 37 => (rdN (cdF (fmL c)) + (wrN (cdF (fmL c)) + 0))
  | 38 => 2
  | 39 => (0 + 0)
  | 40 => (2 + (0 + (0 + (0 + (0 + (0 + (0 + (0 + (0 + 0)))))))))
  | 41 => (1 + (0 + 2))
  | 42 => 0
  | 43 => (rdN (coF (fmL c)) + (rdN (cdF (fmL c)) + (0 + (0 + (wrN (cdF (fmL c)) + 0)))))
  | 44 => (0 + (rdN (coF (fmL c)) + 0))
  | 45 => (1 + wrN (cdF (fmL c)))
  | 46 => (0 + 0)
  | 47 => (2 + (0 + (0 + (0 + (0 + (0 + (0 + (0 + (0 + 0)))))))))
  | 48 => 0
  | 49 => (0 + (0 + 0))
  | 50 => 0
  | 51 => (rdN (coF (fmL c)) + (rdN (cdF (fmL c)) + (0 + (0 + (wrN (cdF (fmL c)) + 0)))))
  | 52 => 0
  | 53 => (0 + 0)
  | 54 => 2
  | 55 => 0
  | 56 => 0
  | 57 => (0 + (0 + (0 + 0)))
  | 58 => (0 + 0)
  | 59 => 0
  | 60 => 0
  | 61 => (rdN (cdF (fmL c)) + wrN (cdF (fmL c)))
  | 62 => (0 + 0)
  | 63 => 0
  | 64 => (0 + 0)
  | 65 => 0
  | _ => 0
def hiK (k c : Nat) : Nat := match k with
  | 0 => 0
  | 1 => (2 + (2 + 0))
  | 2 => (rdN (cdF (fmL c)) + wrN (cdF (fmL c)))
  | 3 => (rdN (cdF (fmL c)) + 2)
  | 4 => (rdN (coF (fmL c)) + (rdN (cdF (fmL c)) + (0 + (0 + (wrN (cdF (fmL c)) + 0)))))
  | 5 => (0 + (rdN (coF (fmL c)) + 0))
  | 6 => (rdN (cdF (fmL c)) + (0 + (0 + (wrN (cdF (fmL c)) + 0))))
  | 7 => (rdN (cdF (fmL c)) + 1)
  | 8 => (rdN (cdF (fmL c)) + (0 + (0 + (0 + wrN (cdF (fmL c))))))
  | 9 => (2 + (1 + (0 + (0 + (2 + 0)))))
  | 10 => (0 + 2)
  | 11 => (rdN (cdF (fmL c)) + wrN (cdF (fmL c)))
  | 12 => (rdN (cdF (fmL c)) + 2)
  | 13 => (2 + (2 + 0))
  | 14 => (rdN (cdF (fmL c)) + (0 + (0 + (wrN (cdF (fmL c)) + 0))))
  | 15 => (rdN (coF (fmL c)) + (rdN (cdF (fmL c)) + (0 + 0)))
  | 16 => (0 + (0 + (2 + 0)))
  | 17 => 0
  | 18 => (rdN (coF (fmL c)) + (rdN (cdF (fmL c)) + (0 + (0 + (wrN (cdF (fmL c)) + 0)))))
  | 19 => (rdN (cdF (fmL c)) + (0 + (0 + (wrN (cdF (fmL c)) + 0))))
  | 20 => (rdN (cdF (fmL c)) + (0 + 2))
  | 21 => 2
  | 22 => (0 + 2)
  | 23 => (2 + (2 + 0))
  | 24 => (rdN (cdF (fmL c)) + (0 + (0 + (wrN (cdF (fmL c)) + 0))))
  | 25 => (2 + 0)
  | 26 => 0
  | 27 => (rdN (coF (fmL c)) + (rdN (cdF (fmL c)) + (0 + (0 + (wrN (cdF (fmL c)) + 0)))))
  | 28 => (0 + (rdN (coF (fmL c)) + 0))
  | 29 => (rdN (cdF (fmL c)) + (0 + (0 + (wrN (cdF (fmL c)) + 0))))
  | 30 => (rdN (cdF (fmL c)) + (0 + (0 + (0 + wrN (cdF (fmL c))))))
  | 31 => (2 + (0 + 0))
  | 32 => (0 + 2)
  | 33 => (2 + (0 + (0 + 0)))
  | 34 => (rdN (coF (fmL c)) + (wrN (cdF (fmL c)) + 0))
  | 35 => 0
  | 36 => (rdN (cdF (fmL c)) + (0 + (0 + (wrN (cdF (fmL c)) + 0))))
  | 37 => (rdN (cdF (fmL c)) + (wrN (cdF (fmL c)) + 2))
  | 38 => 2
  | 39 => (0 + 2)
  | 40 => (2 + (0 + (0 + (0 + (0 + (0 + (0 + (0 + (0 + 0)))))))))
  | 41 => (1 + (0 + 2))
  | 42 => 0
  | 43 => (rdN (coF (fmL c)) + (rdN (cdF (fmL c)) + (0 + (0 + (wrN (cdF (fmL c)) + 0)))))
  | 44 => (0 + (rdN (coF (fmL c)) + 0))
  | 45 => (1 + wrN (cdF (fmL c)))
  | 46 => (0 + 2)
  | 47 => (2 + (0 + (0 + (0 + (0 + (0 + (0 + (0 + (0 + 0)))))))))
  | 48 => 0
  | 49 => (0 + (0 + 0))
  | 50 => 0
  | 51 => (rdN (coF (fmL c)) + (rdN (cdF (fmL c)) + (0 + (0 + (wrN (cdF (fmL c)) + 0)))))
  | 52 => (Nat.max (rdN (coF (fmL c)) + 0) (rdN (cdF (fmL c)) + (0 + wrN (cdF (fmL c)))))
  | 53 => (0 + 2)
  | 54 => 2
  | 55 => 0
  | 56 => 0
  | 57 => (0 + (0 + (0 + 0)))
  | 58 => (0 + 2)
  | 59 => 0
  | 60 => 0
  | 61 => (rdN (cdF (fmL c)) + wrN (cdF (fmL c)))
  | 62 => (0 + 0)
  | 63 => 0
  | 64 => (0 + 2)
  | 65 => 0
  | _ => 0
theorem has_lens (c : Nat) (hc : c < 256) : 2 ≤ szF c + idleK c + loK (ixF c) c ∧ szF c + idleK c + hiK (ixF c) c ≤ 14 := (show ∀ c, c < 256 → 2 ≤ szF c + idleK c + loK (ixF c) c ∧ szF c + idleK c + hiK (ixF c) c ≤ 14 by decide +kernel) c hc
theorem has_NOP (c nd no : Nat) : HasM (actK 0 c (cdF (fmL c)) (coF (fmL c)) nd no) (loK 0 c) (hiK 0 c) := by
  show HasM (M.pure ()) 0 0
  exact HasM.pure ()
theorem has_TCALL (c nd no : Nat) : HasM (actK 1 c (cdF (fmL c)) (coF (fmL c)) nd no) (loK 1 c) (hiK 1 c) := by
  show HasM (M.bind pushPcM fun _ => M.bind (wordAtM (65502 - 2 * (c / 16))) fun v => M.set fun r => { r with Pc := v }) (2 + (2 + 0)) (2 + (2 + 0))
  exact HasM.pushPc.bind fun _ => (HasM.wordAt _).bind fun v => HasM.set _
theorem has_SET1 (c nd no : Nat) : HasM (actK 2 c (cdF (fmL c)) (coF (fmL c)) nd no) (loK 2 c) (hiK 2 c) := by
  show HasM (changeBitM 0 c (cdF (fmL c)) nd) (rdN (cdF (fmL c)) + wrN (cdF (fmL c))) (rdN (cdF (fmL c)) + wrN (cdF (fmL c)))
  unfold changeBitM
  exact (HasM.readO _ _).bind fun v => HasM.writeO _ _ _
theorem has_BBS (c nd no : Nat) : HasM (actK 3 c (cdF (fmL c)) (coF (fmL c)) nd no) (loK 3 c) (hiK 3 c) := by
  show HasM (M.bind (readBitM c (cdF (fmL c)) nd) fun b => branchM b no) (rdN (cdF (fmL c)) + 0) (rdN (cdF (fmL c)) + 2)
  exact (HasM.readBit _ _ _).bind fun b => HasM.branch _ _
theorem has_OR (c nd no : Nat) : HasM (actK 4 c (cdF (fmL c)) (coF (fmL c)) nd no) (loK 4 c) (hiK 4 c) := by
  show HasM (combineM 0 (cdF (fmL c)) nd (coF (fmL c)) no) (rdN (coF (fmL c)) + (rdN (cdF (fmL c)) + (0 + (0 + (wrN (cdF (fmL c)) + 0))))) (rdN (coF (fmL c)) + (rdN (cdF (fmL c)) + (0 + (0 + (wrN (cdF (fmL c)) + 0)))))
  unfold combineM
  exact (HasM.readO _ _).bind fun o => (HasM.readO _ _).bind fun d => (HasM.ask _).bind fun v => (HasM.set _).bind fun _ => (HasM.writeO _ _ _).bind fun _ => HasM.set _
theorem has_OR1 (c nd no : Nat) : HasM (actK 5 c (cdF (fmL c)) (coF (fmL c)) nd no) (loK 5 c) (hiK 5 c) := by
  show HasM (combineCarryM 0 c (coF (fmL c)) no) (0 + (rdN (coF (fmL c)) + 0)) (0 + (rdN (coF (fmL c)) + 0))
  unfold combineCarryM
  exact (HasM.ask _).bind fun cy => (HasM.readBit _ _ _).bind fun b => HasM.set _
theorem has_ASL (c nd no : Nat) : HasM (actK 6 c (cdF (fmL c)) (coF (fmL c)) nd no) (loK 6 c) (hiK 6 c) := by
  show HasM (changeM 2 (cdF (fmL c)) nd) (rdN (cdF (fmL c)) + (0 + (0 + (wrN (cdF (fmL c)) + 0)))) (rdN (cdF (fmL c)) + (0 + (0 + (wrN (cdF (fmL c)) + 0))))
  unfold changeM
  exact (HasM.readO _ _).bind fun d => (HasM.ask _).bind fun v => (HasM.set _).bind fun _ => (HasM.writeO _ _ _).bind fun _ => HasM.set _
theorem has_PUSH (c nd no : Nat) : HasM (actK 7 c (cdF (fmL c)) (coF (fmL c)) nd no) (loK 7 c) (hiK 7 c) := by
  show HasM (pushRegM (cdF (fmL c)) nd) (rdN (cdF (fmL c)) + 1) (rdN (cdF (fmL c)) + 1)
  unfold pushRegM
  exact (HasM.readO _ _).bind fun v => HasM.push _
theorem has_TSET1 (c nd no : Nat) : HasM (actK 8 c (cdF (fmL c)) (coF (fmL c)) nd no) (loK 8 c) (hiK 8 c) := by
  show HasM (changeBitsM 0 (cdF (fmL c)) nd) (rdN (cdF (fmL c)) + (0 + (0 + (0 + wrN (cdF (fmL c)))))) (rdN (cdF (fmL c)) + (0 + (0 + (0 + wrN (cdF (fmL c))))))
  unfold changeBitsM
  exact (HasM.readO _ _).bind fun v => (HasM.ask _).bind fun x => (HasM.set _).bind fun _ => (HasM.ask _).bind fun y => HasM.writeO _ _ _
theorem has_BRK (c nd no : Nat) : HasM (actK 9 c (cdF (fmL c)) (coF (fmL c)) nd no) (loK 9 c) (hiK 9 c) := by
  show HasM (M.bind pushPcM fun _ => M.bind (M.get fun r => pushM r.P) fun _ => M.bind (M.set (putR 16 true)) fun _ => M.bind (M.set (putR 4 false)) fun _ => M.bind (wordAtM 65502) fun v => M.set fun r => { r with Pc := v }) (2 + (1 + (0 + (0 + (2 + 0))))) (2 + (1 + (0 + (0 + (2 + 0)))))
  exact HasM.pushPc.bind fun _ => (HasM.get fun r => HasM.push _).bind fun _ => (HasM.set _).bind fun _ => (HasM.set _).bind fun _ => (HasM.wordAt _).bind fun v => HasM.set _
theorem has_BPL (c nd no : Nat) : HasM (actK 10 c (cdF (fmL c)) (coF (fmL c)) nd no) (loK 10 c) (hiK 10 c) := by
  show HasM (M.bind (M.ask fun r => hasP r.P 128) fun b => branchM (!b) no) (0 + 0) (0 + 2)
  exact (HasM.ask _).bind fun b => HasM.branch _ _
theorem has_CLR1 (c nd no : Nat) : HasM (actK 11 c (cdF (fmL c)) (coF (fmL c)) nd no) (loK 11 c) (hiK 11 c) := by
  show HasM (changeBitM 1 c (cdF (fmL c)) nd) (rdN (cdF (fmL c)) + wrN (cdF (fmL c))) (rdN (cdF (fmL c)) + wrN (cdF (fmL c)))
  unfold changeBitM
  exact (HasM.readO _ _).bind fun v => HasM.writeO _ _ _
theorem has_BBC (c nd no : Nat) : HasM (actK 12 c (cdF (fmL c)) (coF (fmL c)) nd no) (loK 12 c) (hiK 12 c) := by
  show HasM (M.bind (readBitM c (cdF (fmL c)) nd) fun b => branchM (!b) no) (rdN (cdF (fmL c)) + 0) (rdN (cdF (fmL c)) + 2)
  exact (HasM.readBit _ _ _).bind fun b => HasM.branch _ _
theorem has_DECW (c nd no : Nat) : HasM (actK 13 c (cdF (fmL c)) (coF (fmL c)) nd no) (loK 13 c) (hiK 13 c) := by
  show HasM (changeWordM 1 nd) (2 + (2 + 0)) (2 + (2 + 0))
  unfold changeWordM
  exact (HasM.wordInPage _).bind fun v => (HasM.writeWord _ _).bind fun _ => HasM.set _
theorem has_DEC (c nd no : Nat) : HasM (actK 14 c (cdF (fmL c)) (coF (fmL c)) nd no) (loK 14 c) (hiK 14 c) := by
  show HasM (changeM 1 (cdF (fmL c)) nd) (rdN (cdF (fmL c)) + (0 + (0 + (wrN (cdF (fmL c)) + 0)))) (rdN (cdF (fmL c)) + (0 + (0 + (wrN (cdF (fmL c)) + 0))))
  unfold changeM
  exact (HasM.readO _ _).bind fun d => (HasM.ask _).bind fun v => (HasM.set _).bind fun _ => (HasM.writeO _ _ _).bind fun _ => HasM.set _
theorem has_CMP (c nd no : Nat) : HasM (actK 15 c (cdF (fmL c)) (coF (fmL c)) nd no) (loK 15 c) (hiK 15 c) := by
  show HasM (compareM (cdF (fmL c)) nd (coF (fmL c)) no) (rdN (coF (fmL c)) + (rdN (cdF (fmL c)) + (0 + 0))) (rdN (coF (fmL c)) + (rdN (cdF (fmL c)) + (0 + 0)))
  unfold compareM
  exact (HasM.readO _ _).bind fun o => (HasM.readO _ _).bind fun d => (HasM.set _).bind fun _ => HasM.set _
theorem has_JMP (c nd no : Nat) : HasM (actK 16 c (cdF (fmL c)) (coF (fmL c)) nd no) (loK 16 c) (hiK 16 c) := by
  show HasM (if (coF (fmL c)) = 42 then jumpAtM no else M.set fun r => { r with Pc := no }) 0 (0 + (0 + (2 + 0)))
  unfold jumpAtM
  exact HasM.ite ((HasM.set _).bind fun _ => (HasM.ask _).bind fun a => (HasM.wordAt _).bind fun v => HasM.set _) (HasM.set _) (Nat.zero_le _) (Nat.zero_le _) (Nat.le_refl _) (Nat.zero_le _)
theorem has_CLRP (c nd no : Nat) : HasM (actK 17 c (cdF (fmL c)) (coF (fmL c)) nd no) (loK 17 c) (hiK 17 c) := by
  show HasM (M.set (putR 32 false)) 0 0
  exact HasM.set _
theorem has_AND (c nd no : Nat) : HasM (actK 18 c (cdF (fmL c)) (coF (fmL c)) nd no) (loK 18 c) (hiK 18 c) := by
  show HasM (combineM 1 (cdF (fmL c)) nd (coF (fmL c)) no) (rdN (coF (fmL c)) + (rdN (cdF (fmL c)) + (0 + (0 + (wrN (cdF (fmL c)) + 0))))) (rdN (coF (fmL c)) + (rdN (cdF (fmL c)) + (0 + (0 + (wrN (cdF (fmL c)) + 0)))))
  unfold combineM
  exact (HasM.readO _ _).bind fun o => (HasM.readO _ _).bind fun d => (HasM.ask _).bind fun v => (HasM.set _).bind fun _ => (HasM.writeO _ _ _).bind fun _ => HasM.set _
theorem has_ROL (c nd no : Nat) : HasM (actK 19 c (cdF (fmL c)) (coF (fmL c)) nd no) (loK 19 c) (hiK 19 c) := by
  show HasM (changeM 3 (cdF (fmL c)) nd) (rdN (cdF (fmL c)) + (0 + (0 + (wrN (cdF (fmL c)) + 0)))) (rdN (cdF (fmL c)) + (0 + (0 + (wrN (cdF (fmL c)) + 0))))
  unfold changeM
  exact (HasM.readO _ _).bind fun d => (HasM.ask _).bind fun v => (HasM.set _).bind fun _ => (HasM.writeO _ _ _).bind fun _ => HasM.set _
theorem has_CBNE (c nd no : Nat) : HasM (actK 20 c (cdF (fmL c)) (coF (fmL c)) nd no) (loK 20 c) (hiK 20 c) := by
  show HasM (unlessM (cdF (fmL c)) nd no) (rdN (cdF (fmL c)) + (0 + 0)) (rdN (cdF (fmL c)) + (0 + 2))
  unfold unlessM
  exact (HasM.readO _ _).bind fun v => (HasM.ask _).bind fun b => HasM.branch _ _
theorem has_BRA (c nd no : Nat) : HasM (actK 21 c (cdF (fmL c)) (coF (fmL c)) nd no) (loK 21 c) (hiK 21 c) := by
  show HasM (branchM true no) 0 2
  exact HasM.branch _ _
theorem has_BMI (c nd no : Nat) : HasM (actK 22 c (cdF (fmL c)) (coF (fmL c)) nd no) (loK 22 c) (hiK 22 c) := by
  show HasM (M.bind (M.ask fun r => hasP r.P 128) fun b => branchM b no) (0 + 0) (0 + 2)
  exact (HasM.ask _).bind fun b => HasM.branch _ _
theorem has_INCW (c nd no : Nat) : HasM (actK 23 c (cdF (fmL c)) (coF (fmL c)) nd no) (loK 23 c) (hiK 23 c) := by
  show HasM (changeWordM 0 nd) (2 + (2 + 0)) (2 + (2 + 0))
  unfold changeWordM
  exact (HasM.wordInPage _).bind fun v => (HasM.writeWord _ _).bind fun _ => HasM.set _
theorem has_INC (c nd no : Nat) : HasM (actK 24 c (cdF (fmL c)) (coF (fmL c)) nd no) (loK 24 c) (hiK 24 c) := by
  show HasM (changeM 0 (cdF (fmL c)) nd) (rdN (cdF (fmL c)) + (0 + (0 + (wrN (cdF (fmL c)) + 0)))) (rdN (cdF (fmL c)) + (0 + (0 + (wrN (cdF (fmL c)) + 0))))
  unfold changeM
  exact (HasM.readO _ _).bind fun d => (HasM.ask _).bind fun v => (HasM.set _).bind fun _ => (HasM.writeO _ _ _).bind fun _ => HasM.set _
theorem has_CALL (c nd no : Nat) : HasM (actK 25 c (cdF (fmL c)) (coF (fmL c)) nd no) (loK 25 c) (hiK 25 c) := by
  show HasM (callM no) (2 + 0) (2 + 0)
  unfold callM
  exact HasM.pushPc.bind fun _ => HasM.set _
theorem has_SETP (c nd no : Nat) : HasM (actK 26 c (cdF (fmL c)) (coF (fmL c)) nd no) (loK 26 c) (hiK 26 c) := by
  show HasM (M.set (putR 32 true)) 0 0
  exact HasM.set _
theorem has_EOR (c nd no : Nat) : HasM (actK 27 c (cdF (fmL c)) (coF (fmL c)) nd no) (loK 27 c) (hiK 27 c) := by
  show HasM (combineM 2 (cdF (fmL c)) nd (coF (fmL c)) no) (rdN (coF (fmL c)) + (rdN (cdF (fmL c)) + (0 + (0 + (wrN (cdF (fmL c)) + 0))))) (rdN (coF (fmL c)) + (rdN (cdF (fmL c)) + (0 + (0 + (wrN (cdF (fmL c)) + 0)))))
  unfold combineM
  exact (HasM.readO _ _).bind fun o => (HasM.readO _ _).bind fun d => (HasM.ask _).bind fun v => (HasM.set _).bind fun _ => (HasM.writeO _ _ _).bind fun _ => HasM.set _
theorem has_AND1 (c nd no : Nat) : HasM (actK 28 c (cdF (fmL c)) (coF (fmL c)) nd no) (loK 28 c) (hiK 28 c) := by
  show HasM (combineCarryM 1 c (coF (fmL c)) no) (0 + (rdN (coF (fmL c)) + 0)) (0 + (rdN (coF (fmL c)) + 0))
  unfold combineCarryM
  exact (HasM.ask _).bind fun cy => (HasM.readBit _ _ _).bind fun b => HasM.set _
theorem has_LSR (c nd no : Nat) : HasM (actK 29 c (cdF (fmL c)) (coF (fmL c)) nd no) (loK 29 c) (hiK 29 c) := by
  show HasM (changeM 4 (cdF (fmL c)) nd) (rdN (cdF (fmL c)) + (0 + (0 + (wrN (cdF (fmL c)) + 0)))) (rdN (cdF (fmL c)) + (0 + (0 + (wrN (cdF (fmL c)) + 0))))
  unfold changeM
  exact (HasM.readO _ _).bind fun d => (HasM.ask _).bind fun v => (HasM.set _).bind fun _ => (HasM.writeO _ _ _).bind fun _ => HasM.set _
theorem has_TCLR1 (c nd no : Nat) : HasM (actK 30 c (cdF (fmL c)) (coF (fmL c)) nd no) (loK 30 c) (hiK 30 c) := by
  show HasM (changeBitsM 1 (cdF (fmL c)) nd) (rdN (cdF (fmL c)) + (0 + (0 + (0 + wrN (cdF (fmL c)))))) (rdN (cdF (fmL c)) + (0 + (0 + (0 + wrN (cdF (fmL c))))))
  unfold changeBitsM
  exact (HasM.readO _ _).bind fun v => (HasM.ask _).bind fun x => (HasM.set _).bind fun _ => (HasM.ask _).bind fun y => HasM.writeO _ _ _
theorem has_PCALL (c nd no : Nat) : HasM (actK 31 c (cdF (fmL c)) (coF (fmL c)) nd no) (loK 31 c) (hiK 31 c) := by
  show HasM (callLastM no) (2 + (0 + 0)) (2 + (0 + 0))
  unfold callLastM
  exact HasM.pushPc.bind fun _ => (HasM.set _).bind fun _ => HasM.set _
theorem has_BVC (c nd no : Nat) : HasM (actK 32 c (cdF (fmL c)) (coF (fmL c)) nd no) (loK 32 c) (hiK 32 c) := by
  show HasM (M.bind (M.ask fun r => hasP r.P 64) fun b => branchM (!b) no) (0 + 0) (0 + 2)
  exact (HasM.ask _).bind fun b => HasM.branch _ _
theorem has_CMPW (c nd no : Nat) : HasM (actK 33 c (cdF (fmL c)) (coF (fmL c)) nd no) (loK 33 c) (hiK 33 c) := by
  show HasM (compareWordM no) (2 + (0 + (0 + 0))) (2 + (0 + (0 + 0)))
  unfold compareWordM
  exact (HasM.wordInPage _).bind fun v => (HasM.ask _).bind fun y => (HasM.set _).bind fun _ => HasM.set _
theorem has_MOV (c nd no : Nat) : HasM (actK 34 c (cdF (fmL c)) (coF (fmL c)) nd no) (loK 34 c) (hiK 34 c) := by
  show HasM (moveM (cdF (fmL c)) nd (coF (fmL c)) no) (rdN (coF (fmL c)) + (wrN (cdF (fmL c)) + 0)) (rdN (coF (fmL c)) + (wrN (cdF (fmL c)) + 0))
  unfold moveM moveTM moveNM
  exact HasM.ite ((HasM.readO _ _).bind fun v => (HasM.writeO _ _ _).bind fun _ => HasM.set _) ((HasM.readO _ _).bind fun v => (HasM.writeO _ _ _).bind fun _ => HasM.pure ()) (Nat.le_refl _) (Nat.le_refl _) (Nat.le_refl _) (Nat.le_refl _)
theorem has_CLRC (c nd no : Nat) : HasM (actK 35 c (cdF (fmL c)) (coF (fmL c)) nd no) (loK 35 c) (hiK 35 c) := by
  show HasM (M.set (putR 1 false)) 0 0
  exact HasM.set _
theorem has_ROR (c nd no : Nat) : HasM (actK 36 c (cdF (fmL c)) (coF (fmL c)) nd no) (loK 36 c) (hiK 36 c) := by
  show HasM (changeM 5 (cdF (fmL c)) nd) (rdN (cdF (fmL c)) + (0 + (0 + (wrN (cdF (fmL c)) + 0)))) (rdN (cdF (fmL c)) + (0 + (0 + (wrN (cdF (fmL c)) + 0))))
  unfold changeM
  exact (HasM.readO _ _).bind fun d => (HasM.ask _).bind fun v => (HasM.set _).bind fun _ => (HasM.writeO _ _ _).bind fun _ => HasM.set _
theorem has_DBNZ (c nd no : Nat) : HasM (actK 37 c (cdF (fmL c)) (coF (fmL c)) nd no) (loK 37 c) (hiK 37 c) := by
  show HasM (M.bind (Go.Proofs.YtknlbmjncginnaaGreatDoor.readO (cdF (fmL c)) nd) fun v => M.bind (writeO (cdF (fmL c)) nd ((v + 255) % 256)) fun _ => branchM (!decide ((v + 255) % 256 = 0)) no) (rdN (cdF (fmL c)) + (wrN (cdF (fmL c)) + 0)) (rdN (cdF (fmL c)) + (wrN (cdF (fmL c)) + 2))
  exact (HasM.readO _ _).bind fun v => (HasM.writeO _ _ _).bind fun _ => HasM.branch _ _
theorem has_RET (c nd no : Nat) : HasM (actK 38 c (cdF (fmL c)) (coF (fmL c)) nd no) (loK 38 c) (hiK 38 c) := by
  show HasM (backM) 2 2
  unfold backM
  exact HasM.popPc
theorem has_BVS (c nd no : Nat) : HasM (actK 39 c (cdF (fmL c)) (coF (fmL c)) nd no) (loK 39 c) (hiK 39 c) := by
  show HasM (M.bind (M.ask fun r => hasP r.P 64) fun b => branchM b no) (0 + 0) (0 + 2)
  exact (HasM.ask _).bind fun b => HasM.branch _ _
theorem has_ADDW (c nd no : Nat) : HasM (actK 40 c (cdF (fmL c)) (coF (fmL c)) nd no) (loK 40 c) (hiK 40 c) := by
  show HasM (addWordM 0 no) (2 + (0 + (0 + (0 + (0 + (0 + (0 + (0 + (0 + 0))))))))) (2 + (0 + (0 + (0 + (0 + (0 + (0 + (0 + (0 + 0)))))))))
  unfold addWordM
  exact (HasM.wordInPage _).bind fun v => (HasM.set _).bind fun _ => (HasM.ask _).bind fun a => (HasM.set _).bind fun _ => (HasM.set _).bind fun _ => (HasM.ask _).bind fun y => (HasM.set _).bind fun _ => (HasM.set _).bind fun _ => (HasM.ask _).bind fun x => HasM.set _
theorem has_RETI (c nd no : Nat) : HasM (actK 41 c (cdF (fmL c)) (coF (fmL c)) nd no) (loK 41 c) (hiK 41 c) := by
  show HasM (backTrapM) (1 + (0 + 2)) (1 + (0 + 2))
  unfold backTrapM
  exact HasM.pop.bind fun v => (HasM.set _).bind fun _ => HasM.popPc
theorem has_SETC (c nd no : Nat) : HasM (actK 42 c (cdF (fmL c)) (coF (fmL c)) nd no) (loK 42 c) (hiK 42 c) := by
  show HasM (M.set (putR 1 true)) 0 0
  exact HasM.set _
theorem has_ADC (c nd no : Nat) : HasM (actK 43 c (cdF (fmL c)) (coF (fmL c)) nd no) (loK 43 c) (hiK 43 c) := by
  show HasM (combineM 3 (cdF (fmL c)) nd (coF (fmL c)) no) (rdN (coF (fmL c)) + (rdN (cdF (fmL c)) + (0 + (0 + (wrN (cdF (fmL c)) + 0))))) (rdN (coF (fmL c)) + (rdN (cdF (fmL c)) + (0 + (0 + (wrN (cdF (fmL c)) + 0)))))
  unfold combineM
  exact (HasM.readO _ _).bind fun o => (HasM.readO _ _).bind fun d => (HasM.ask _).bind fun v => (HasM.set _).bind fun _ => (HasM.writeO _ _ _).bind fun _ => HasM.set _
theorem has_EOR1 (c nd no : Nat) : HasM (actK 44 c (cdF (fmL c)) (coF (fmL c)) nd no) (loK 44 c) (hiK 44 c) := by
  show HasM (combineCarryM 2 c (coF (fmL c)) no) (0 + (rdN (coF (fmL c)) + 0)) (0 + (rdN (coF (fmL c)) + 0))
  unfold combineCarryM
  exact (HasM.ask _).bind fun cy => (HasM.readBit _ _ _).bind fun b => HasM.set _
theorem has_POP (c nd no : Nat) : HasM (actK 45 c (cdF (fmL c)) (coF (fmL c)) nd no) (loK 45 c) (hiK 45 c) := by
  show HasM (popRegM (cdF (fmL c)) nd) (1 + wrN (cdF (fmL c))) (1 + wrN (cdF (fmL c)))
  unfold popRegM
  exact HasM.pop.bind fun v => HasM.writeO _ _ _
theorem has_BCC (c nd no : Nat) : HasM (actK 46 c (cdF (fmL c)) (coF (fmL c)) nd no) (loK 46 c) (hiK 46 c) := by
  show HasM (M.bind (M.ask fun r => hasP r.P 1) fun b => branchM (!b) no) (0 + 0) (0 + 2)
  exact (HasM.ask _).bind fun b => HasM.branch _ _
theorem has_SUBW (c nd no : Nat) : HasM (actK 47 c (cdF (fmL c)) (coF (fmL c)) nd no) (loK 47 c) (hiK 47 c) := by
  show HasM (addWordM 1 no) (2 + (0 + (0 + (0 + (0 + (0 + (0 + (0 + (0 + 0))))))))) (2 + (0 + (0 + (0 + (0 + (0 + (0 + (0 + (0 + 0)))))))))
  unfold addWordM
  exact (HasM.wordInPage _).bind fun v => (HasM.set _).bind fun _ => (HasM.ask _).bind fun a => (HasM.set _).bind fun _ => (HasM.set _).bind fun _ => (HasM.ask _).bind fun y => (HasM.set _).bind fun _ => (HasM.set _).bind fun _ => (HasM.ask _).bind fun x => HasM.set _
theorem has_DIV (c nd no : Nat) : HasM (actK 48 c (cdF (fmL c)) (coF (fmL c)) nd no) (loK 48 c) (hiK 48 c) := by
  show HasM (M.set divR) 0 0
  exact HasM.set _
theorem has_XCN (c nd no : Nat) : HasM (actK 49 c (cdF (fmL c)) (coF (fmL c)) nd no) (loK 49 c) (hiK 49 c) := by
  show HasM (exchangeM) (0 + (0 + 0)) (0 + (0 + 0))
  unfold exchangeM
  exact (HasM.ask _).bind fun v => (HasM.set _).bind fun _ => HasM.set _
theorem has_EI (c nd no : Nat) : HasM (actK 50 c (cdF (fmL c)) (coF (fmL c)) nd no) (loK 50 c) (hiK 50 c) := by
  show HasM (M.set (putR 4 true)) 0 0
  exact HasM.set _
theorem has_SBC (c nd no : Nat) : HasM (actK 51 c (cdF (fmL c)) (coF (fmL c)) nd no) (loK 51 c) (hiK 51 c) := by
  show HasM (combineM 4 (cdF (fmL c)) nd (coF (fmL c)) no) (rdN (coF (fmL c)) + (rdN (cdF (fmL c)) + (0 + (0 + (wrN (cdF (fmL c)) + 0))))) (rdN (coF (fmL c)) + (rdN (cdF (fmL c)) + (0 + (0 + (wrN (cdF (fmL c)) + 0)))))
  unfold combineM
  exact (HasM.readO _ _).bind fun o => (HasM.readO _ _).bind fun d => (HasM.ask _).bind fun v => (HasM.set _).bind fun _ => (HasM.writeO _ _ _).bind fun _ => HasM.set _
theorem has_MOV1 (c nd no : Nat) : HasM (actK 52 c (cdF (fmL c)) (coF (fmL c)) nd no) (loK 52 c) (hiK 52 c) := by
  show HasM (if (cdF (fmL c)) = 67 then moveBitCM c (coF (fmL c)) no else moveBitDM c (cdF (fmL c)) nd) 0 (Nat.max (rdN (coF (fmL c)) + 0) (rdN (cdF (fmL c)) + (0 + wrN (cdF (fmL c)))))
  unfold moveBitCM moveBitDM
  exact HasM.ite ((HasM.readBit _ _ _).bind fun b => HasM.set _) ((HasM.readO _ _).bind fun v => (HasM.ask _).bind fun x => HasM.writeO _ _ _) (Nat.zero_le _) (Nat.zero_le _) (Nat.le_max_left _ _) (Nat.le_max_right _ _)
theorem has_BCS (c nd no : Nat) : HasM (actK 53 c (cdF (fmL c)) (coF (fmL c)) nd no) (loK 53 c) (hiK 53 c) := by
  show HasM (M.bind (M.ask fun r => hasP r.P 1) fun b => branchM b no) (0 + 0) (0 + 2)
  exact (HasM.ask _).bind fun b => HasM.branch _ _
theorem has_MOVW (c nd no : Nat) : HasM (actK 54 c (cdF (fmL c)) (coF (fmL c)) nd no) (loK 54 c) (hiK 54 c) := by
  show HasM (if (cdF (fmL c)) = 68 then storeWordM nd else moveWordM no) 2 2
  unfold storeWordM moveWordM
  exact HasM.ite ((HasM.ask _).bind fun v => HasM.writeWord _ _) ((HasM.wordInPage _).bind fun v => (HasM.set _).bind fun _ => (HasM.ask _).bind fun y => HasM.set _) (Nat.le_refl _) (Nat.le_refl _) (Nat.le_refl _) (Nat.le_refl _)
theorem has_DAS (c nd no : Nat) : HasM (actK 55 c (cdF (fmL c)) (coF (fmL c)) nd no) (loK 55 c) (hiK 55 c) := by
  show HasM (M.set (adjR 1)) 0 0
  exact HasM.set _
theorem has_DI (c nd no : Nat) : HasM (actK 56 c (cdF (fmL c)) (coF (fmL c)) nd no) (loK 56 c) (hiK 56 c) := by
  show HasM (M.set (putR 4 false)) 0 0
  exact HasM.set _
theorem has_MUL (c nd no : Nat) : HasM (actK 57 c (cdF (fmL c)) (coF (fmL c)) nd no) (loK 57 c) (hiK 57 c) := by
  show HasM (multiplyM) (0 + (0 + (0 + 0))) (0 + (0 + (0 + 0)))
  unfold multiplyM
  exact (HasM.ask _).bind fun v => (HasM.set _).bind fun _ => (HasM.ask _).bind fun y => HasM.set _
theorem has_BNE (c nd no : Nat) : HasM (actK 58 c (cdF (fmL c)) (coF (fmL c)) nd no) (loK 58 c) (hiK 58 c) := by
  show HasM (M.bind (M.ask fun r => hasP r.P 2) fun b => branchM (!b) no) (0 + 0) (0 + 2)
  exact (HasM.ask _).bind fun b => HasM.branch _ _
theorem has_DAA (c nd no : Nat) : HasM (actK 59 c (cdF (fmL c)) (coF (fmL c)) nd no) (loK 59 c) (hiK 59 c) := by
  show HasM (M.set (adjR 0)) 0 0
  exact HasM.set _
theorem has_CLRV (c nd no : Nat) : HasM (actK 60 c (cdF (fmL c)) (coF (fmL c)) nd no) (loK 60 c) (hiK 60 c) := by
  show HasM (M.set (putR 72 false)) 0 0
  exact HasM.set _
theorem has_NOT1 (c nd no : Nat) : HasM (actK 61 c (cdF (fmL c)) (coF (fmL c)) nd no) (loK 61 c) (hiK 61 c) := by
  show HasM (changeBitM 2 c (cdF (fmL c)) nd) (rdN (cdF (fmL c)) + wrN (cdF (fmL c))) (rdN (cdF (fmL c)) + wrN (cdF (fmL c)))
  unfold changeBitM
  exact (HasM.readO _ _).bind fun v => HasM.writeO _ _ _
theorem has_NOTC (c nd no : Nat) : HasM (actK 62 c (cdF (fmL c)) (coF (fmL c)) nd no) (loK 62 c) (hiK 62 c) := by
  show HasM (M.bind (M.ask fun r => hasP r.P 1) fun b => M.set (putR 1 (!b))) (0 + 0) (0 + 0)
  exact (HasM.ask _).bind fun b => HasM.set _
theorem has_SLEEP (c nd no : Nat) : HasM (actK 63 c (cdF (fmL c)) (coF (fmL c)) nd no) (loK 63 c) (hiK 63 c) := by
  show HasM (M.set fun r => { r with H := true }) 0 0
  exact HasM.set _
theorem has_BEQ (c nd no : Nat) : HasM (actK 64 c (cdF (fmL c)) (coF (fmL c)) nd no) (loK 64 c) (hiK 64 c) := by
  show HasM (M.bind (M.ask fun r => hasP r.P 2) fun b => branchM b no) (0 + 0) (0 + 2)
  exact (HasM.ask _).bind fun b => HasM.branch _ _
theorem has_STOP (c nd no : Nat) : HasM (actK 65 c (cdF (fmL c)) (coF (fmL c)) nd no) (loK 65 c) (hiK 65 c) := by
  show HasM (M.set fun r => { r with H := true }) 0 0
  exact HasM.set _
theorem has_act (c : Nat) (hc : c < 256) : ∃ lo hi, (∀ nd no, HasM (actA c nd no) lo hi) ∧ 2 ≤ szF c + idleK c + lo ∧ szF c + idleK c + hi ≤ 14 := by
  refine ⟨loK (ixF c) c, hiK (ixF c) c, fun nd no => ?_, has_lens c hc⟩
  have hk := (ix_all c hc).1
  unfold actA
  generalize ixF c = k at *
  match k with
  | 0 => exact has_NOP c nd no
  | 1 => exact has_TCALL c nd no
  | 2 => exact has_SET1 c nd no
  | 3 => exact has_BBS c nd no
  | 4 => exact has_OR c nd no
  | 5 => exact has_OR1 c nd no
  | 6 => exact has_ASL c nd no
  | 7 => exact has_PUSH c nd no
  | 8 => exact has_TSET1 c nd no
  | 9 => exact has_BRK c nd no
  | 10 => exact has_BPL c nd no
  | 11 => exact has_CLR1 c nd no
  | 12 => exact has_BBC c nd no
  | 13 => exact has_DECW c nd no
  | 14 => exact has_DEC c nd no
  | 15 => exact has_CMP c nd no
  | 16 => exact has_JMP c nd no
  | 17 => exact has_CLRP c nd no
  | 18 => exact has_AND c nd no
  | 19 => exact has_ROL c nd no
  | 20 => exact has_CBNE c nd no
  | 21 => exact has_BRA c nd no
  | 22 => exact has_BMI c nd no
  | 23 => exact has_INCW c nd no
  | 24 => exact has_INC c nd no
  | 25 => exact has_CALL c nd no
  | 26 => exact has_SETP c nd no
  | 27 => exact has_EOR c nd no
  | 28 => exact has_AND1 c nd no
  | 29 => exact has_LSR c nd no
  | 30 => exact has_TCLR1 c nd no
  | 31 => exact has_PCALL c nd no
  | 32 => exact has_BVC c nd no
  | 33 => exact has_CMPW c nd no
  | 34 => exact has_MOV c nd no
  | 35 => exact has_CLRC c nd no
  | 36 => exact has_ROR c nd no
  | 37 => exact has_DBNZ c nd no
  | 38 => exact has_RET c nd no
  | 39 => exact has_BVS c nd no
  | 40 => exact has_ADDW c nd no
  | 41 => exact has_RETI c nd no
  | 42 => exact has_SETC c nd no
  | 43 => exact has_ADC c nd no
  | 44 => exact has_EOR1 c nd no
  | 45 => exact has_POP c nd no
  | 46 => exact has_BCC c nd no
  | 47 => exact has_SUBW c nd no
  | 48 => exact has_DIV c nd no
  | 49 => exact has_XCN c nd no
  | 50 => exact has_EI c nd no
  | 51 => exact has_SBC c nd no
  | 52 => exact has_MOV1 c nd no
  | 53 => exact has_BCS c nd no
  | 54 => exact has_MOVW c nd no
  | 55 => exact has_DAS c nd no
  | 56 => exact has_DI c nd no
  | 57 => exact has_MUL c nd no
  | 58 => exact has_BNE c nd no
  | 59 => exact has_DAA c nd no
  | 60 => exact has_CLRV c nd no
  | 61 => exact has_NOT1 c nd no
  | 62 => exact has_NOTC c nd no
  | 63 => exact has_SLEEP c nd no
  | 64 => exact has_BEQ c nd no
  | 65 => exact has_STOP c nd no
  | k + 66 => exact absurd hk (by omega)
end Go.Proofs.YtknlbmjncginnaaGreatDoor
