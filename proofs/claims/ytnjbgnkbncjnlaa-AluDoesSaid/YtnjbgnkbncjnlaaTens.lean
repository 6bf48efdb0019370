/-
  Digit by digit, what corrects a digit makes of decimal numbers: their sum in tens.
-/
import Derived.Test.YtnjbgnkbncjnlaaOfDig
import Derived.Test.YtnjbgnkbncjnlaaDigOf
namespace Go.Proofs.Ytnjbgnkbncjnlaa
open Go.RowKit Go.Shelf
set_option maxRecDepth 100000
set_option maxHeartbeats 100000
set_option linter.unusedVariables false
theorem corS_dec (a b c : Nat) (ha : a ≤ 9) (hb : b ≤ 9) (hc : c ≤ 1) : corS (a + (b + 0) + c) = ((a + b + c) % 10, (a + b + c) / 10) := by
  unfold corS
  split
  · exact Prod.ext (by show _ % 16 = _ % 10; omega) (by show 1 = _ / 10; omega)
  · exact Prod.ext (by show _ = _ % 10; omega) (by show 0 = _ / 10; omega)
theorem corD_dec (a b c : Nat) (ha : a ≤ 9) (hb : b ≤ 9) (hc : c ≤ 1) : corD (a + (b + 6) + c) = ((a + b + c) % 10, (a + b + c) / 10) := by
  unfold corD
  split
  · exact Prod.ext (by show _ % 16 = _ % 10; omega) (by show 1 = _ / 10; omega)
  · exact Prod.ext (by show _ % 16 = _ % 10; omega) (by show 0 = _ / 10; omega)
def Cd (cor : Nat → Nat × Nat) (off : Nat) : Prop := ∀ a b c, a ≤ 9 → b ≤ 9 → c ≤ 1 → cor (a + (b + off) + c) = ((a + b + c) % 10, (a + b + c) / 10)
theorem one_step (cor : Nat → Nat × Nat) (off : Nat) (hcor : Cd cor off) (a b c : Nat) (ha : a ≤ 9) (hb : b ≤ 9) (hc : c ≤ 1) : ∃ r k, r ≤ 9 ∧ k ≤ 1 ∧ a + b + c = r + 10 * k ∧ cor (a + (b + off) + c) = (r, k) :=
  ⟨(a + b + c) % 10, (a + b + c) / 10, by omega, by omega, by omega, hcor a b c ha hb hc⟩
theorem sum2 (m0 m1 n0 n1 c r0 k1 r1 k2 : Nat) (h : m0 + n0 + c = r0 + 10 * k1) (h' : m1 + n1 + k1 = r1 + 10 * k2) : (m0 + 10 * m1) + (n0 + 10 * n1) + c = r0 + 10 * r1 + 100 * k2 := by omega
theorem chain2 (cor : Nat → Nat × Nat) (off : Nat) (hcor : Cd cor off) (x y c m0 m1 n0 n1 : Nat) (hc : c ≤ 1) (a0 : m0 ≤ 9) (a1 : m1 ≤ 9) (b0 : n0 ≤ 9) (b1 : n1 ≤ 9)
    (x0 : x % 16 = m0) (x1 : x / 16 % 16 = m1) (y0 : y % 16 = n0 + off) (y1 : y / 16 % 16 = n1 + off) :
    ∃ r0 k1 r1 k2, r0 ≤ 9 ∧ r1 ≤ 9 ∧ k2 ≤ 1 ∧ (m0 + 10 * m1) + (n0 + 10 * n1) + c = r0 + 10 * r1 + 100 * k2 ∧ q0 cor x y c = (r0, k1) ∧ q1 cor x y c = (r1, k2) := by
  obtain ⟨r0, k1, h1, h2, h3, h4⟩ := one_step cor off hcor m0 n0 c a0 b0 hc
  obtain ⟨r1, k2, h5, h6, h7, h8⟩ := one_step cor off hcor m1 n1 k1 a1 b1 h2
  have e0 : q0 cor x y c = (r0, k1) := by unfold q0; rw [x0, y0, h4]
  refine ⟨r0, k1, r1, k2, h1, h5, h6, sum2 _ _ _ _ _ _ _ _ _ h3 h7, e0, ?_⟩
  unfold q1
  rw [e0, x1, y1, h8]
theorem sum4 (m0 m1 m2 m3 n0 n1 n2 n3 c r0 r1 k2 r2 k3 r3 k4 : Nat) (h4 : (m0 + 10 * m1) + (n0 + 10 * n1) + c = r0 + 10 * r1 + 100 * k2) (g3 : m2 + n2 + k2 = r2 + 10 * k3) (g7 : m3 + n3 + k3 = r3 + 10 * k4) :
    (m0 + 10 * m1 + 100 * m2 + 1000 * m3) + (n0 + 10 * n1 + 100 * n2 + 1000 * n3) + c = r0 + 10 * r1 + 100 * r2 + 1000 * r3 + 10000 * k4 := by omega
theorem chain4 (cor : Nat → Nat × Nat) (off : Nat) (hcor : Cd cor off) (x y c m0 m1 m2 m3 n0 n1 n2 n3 : Nat) (hc : c ≤ 1) (a0 : m0 ≤ 9) (a1 : m1 ≤ 9) (b0 : n0 ≤ 9) (b1 : n1 ≤ 9) (a2 : m2 ≤ 9) (a3 : m3 ≤ 9) (b2 : n2 ≤ 9) (b3 : n3 ≤ 9)
    (x0 : x % 16 = m0) (x1 : x / 16 % 16 = m1) (y0 : y % 16 = n0 + off) (y1 : y / 16 % 16 = n1 + off)
    (x2 : x / 256 % 16 = m2) (x3 : x / 4096 % 16 = m3) (y2 : y / 256 % 16 = n2 + off) (y3 : y / 4096 % 16 = n3 + off) :
    ∃ r0 r1 r2 r3 k4, r0 ≤ 9 ∧ r1 ≤ 9 ∧ r2 ≤ 9 ∧ r3 ≤ 9 ∧ k4 ≤ 1 ∧ (m0 + 10 * m1 + 100 * m2 + 1000 * m3) + (n0 + 10 * n1 + 100 * n2 + 1000 * n3) + c = r0 + 10 * r1 + 100 * r2 + 1000 * r3 + 10000 * k4 ∧
      (q0 cor x y c).1 = r0 ∧ (q1 cor x y c).1 = r1 ∧ (q2 cor x y c).1 = r2 ∧ q3 cor x y c = (r3, k4) := by
  obtain ⟨r0, k1, r1, k2, h1, h2, h3, h4, h5, h6⟩ := chain2 cor off hcor x y c m0 m1 n0 n1 hc a0 a1 b0 b1 x0 x1 y0 y1
  obtain ⟨r2, k3, g1, g2, g3, g4⟩ := one_step cor off hcor m2 n2 k2 a2 b2 h3
  obtain ⟨r3, k4, g5, g6, g7, g8⟩ := one_step cor off hcor m3 n3 k3 a3 b3 g2
  have e2 : q2 cor x y c = (r2, k3) := by unfold q2; rw [h6, x2, y2, g4]
  refine ⟨r0, r1, r2, r3, k4, h1, h2, g1, g5, g6, sum4 _ _ _ _ _ _ _ _ _ _ _ _ _ _ _ _ h4 g3 g7, by rw [h5], by rw [h6], by rw [e2], ?_⟩
  unfold q3
  rw [e2, x3, y3, g8]
theorem ofD4 (n r0 r1 r2 r3 k : Nat) (h : n = r0 + 10 * r1 + 100 * r2 + 1000 * r3 + 10000 * k) (a0 : r0 ≤ 9) (a1 : r1 ≤ 9) (a2 : r2 ≤ 9) (a3 : r3 ≤ 9) : ofD true n = r0 + 16 * r1 + 256 * r2 + 4096 * r3 := by
  have h0 : n % 10 = r0 := by omega
  have h1 : n / 10 % 10 = r1 := by omega
  have h2 : n / 100 % 10 = r2 := by omega
  have h3 : n / 1000 % 10 = r3 := by omega
  show n % 10 + 16 * (n / 10 % 10) + 256 * (n / 100 % 10) + 4096 * (n / 1000 % 10) = _
  rw [h0, h1, h2, h3]
theorem ofD2 (n r0 r1 k : Nat) (h : n = r0 + 10 * r1 + 100 * k) (a0 : r0 ≤ 9) (a1 : r1 ≤ 9) : ofD false n = r0 + 16 * r1 := by
  have h0 : n % 10 = r0 := by omega
  have h1 : n / 10 % 10 = r1 := by omega
  show n % 10 + 16 * (n / 10 % 10) = _
  rw [h0, h1]
theorem split4 (n : Nat) (h : n < 10000) : ∃ r0 r1 r2 r3, r0 ≤ 9 ∧ r1 ≤ 9 ∧ r2 ≤ 9 ∧ r3 ≤ 9 ∧ n = r0 + 10 * r1 + 100 * r2 + 1000 * r3 :=
  ⟨n % 10, n / 10 % 10, n / 10 / 10 % 10, n / 10 / 10 / 10, by omega, by omega, by omega, by omega, by omega⟩
theorem split2 (n : Nat) (h : n < 100) : ∃ r0 r1, r0 ≤ 9 ∧ r1 ≤ 9 ∧ n = r0 + 10 * r1 :=
  ⟨n % 10, n / 10, by omega, by omega, by omega⟩
theorem hex4 (x r0 r1 r2 r3 : Nat) (h : x = r0 + 16 * r1 + 256 * r2 + 4096 * r3) (a0 : r0 < 16) (a1 : r1 < 16) (a2 : r2 < 16) (a3 : r3 < 16) : x < 65536 ∧ x % 16 = r0 ∧ x / 16 % 16 = r1 ∧ x / 256 % 16 = r2 ∧ x / 4096 % 16 = r3 := by
  refine ⟨?_, ?_, ?_, ?_, ?_⟩ <;> omega
theorem hex2 (x r0 r1 : Nat) (h : x = r0 + 16 * r1) (a0 : r0 < 16) (a1 : r1 < 16) : x < 256 ∧ x % 16 = r0 ∧ x / 16 % 16 = r1 ∧ x / 256 % 16 = 0 ∧ x / 4096 % 16 = 0 := by
  refine ⟨?_, ?_, ?_, ?_, ?_⟩ <;> omega
/-- What the digits of a number that is written so say. -/
theorem rest2 (n r0 r1 : Nat) (h : n % 100 = r0 + 10 * r1) : n = r0 + 10 * r1 + 100 * (n / 100) := by omega
theorem rest4 (n r0 r1 r2 r3 : Nat) (h : n % 10000 = r0 + 10 * r1 + 100 * r2 + 1000 * r3) : n = r0 + 10 * r1 + 100 * r2 + 1000 * r3 + 10000 * (n / 10000) := by omega
theorem swap2 (n r0 r1 : Nat) (h : n = r0 + 10 * r1) : 1000 * 0 + 100 * 0 + 10 * r1 + r0 = n := by omega
theorem swap4 (n r0 r1 r2 r3 : Nat) (h : n = r0 + 10 * r1 + 100 * r2 + 1000 * r3) : 1000 * r3 + 100 * r2 + 10 * r1 + r0 = n := by omega
theorem to16 (a : Nat) (h : a ≤ 9) : a < 16 := by omega
theorem ofD_back (wide : Bool) (n : Nat) : ofD wide n < sz wide ∧ decB wide (ofD wide n) = true ∧ tens (ofD wide n) = n % lim wide := by
  cases wide
  · obtain ⟨r0, r1, a0, a1, h⟩ := split2 (n % 100) (Nat.mod_lt _ (by decide))
    have e := ofD2 n r0 r1 (n / 100) (rest2 n r0 r1 h) a0 a1
    obtain ⟨g, h0, h1, h2, h3⟩ := hex2 _ r0 r1 e (to16 _ a0) (to16 _ a1)
    refine ⟨g, (dec_true (wide := false) (x := ofD false n) ⟨g, h0 ▸ a0, h1 ▸ a1, h2 ▸ (by decide), h3 ▸ (by decide)⟩).1, ?_⟩
    show tens (ofD false n) = n % 100
    unfold tens
    rw [h0, h1, h2, h3]
    exact swap2 _ _ _ h
  · obtain ⟨r0, r1, r2, r3, a0, a1, a2, a3, h⟩ := split4 (n % 10000) (Nat.mod_lt _ (by decide))
    have e := ofD4 n r0 r1 r2 r3 (n / 10000) (rest4 n r0 r1 r2 r3 h) a0 a1 a2 a3
    obtain ⟨g, h0, h1, h2, h3⟩ := hex4 _ r0 r1 r2 r3 e (to16 _ a0) (to16 _ a1) (to16 _ a2) (to16 _ a3)
    refine ⟨g, (dec_true (wide := true) (x := ofD true n) ⟨g, h0 ▸ a0, h1 ▸ a1, h2 ▸ a2, h3 ▸ a3⟩).1, ?_⟩
    show tens (ofD true n) = n % 10000
    unfold tens
    rw [h0, h1, h2, h3]
    exact swap4 _ _ _ _ _ h
theorem bool01 (k : Nat) (P : Prop) [Decidable P] (hk : k ≤ 1) (h : P ↔ k = 1) : (k != 0) = decide P := by
  have : k = 0 ∨ k = 1 := by omega
  rcases this with rfl | rfl
  · rw [decide_eq_false (by rw [h]; omega)]; rfl
  · rw [decide_eq_true (by rw [h])]; rfl
theorem lt16 (a : Nat) (h : a ≤ 9) : a < 16 := by omega
theorem up4 (n r0 r1 r2 r3 : Nat) (h : n = r0 + 10 * r1 + 100 * r2 + 1000 * r3) : n = r0 + 10 * r1 + 100 * r2 + 1000 * r3 + 10000 * 0 := by omega
theorem up2 (n r0 r1 : Nat) (h : n = r0 + 10 * r1) : n = r0 + 10 * r1 + 100 * 0 := by omega
theorem tot4 (m z c m0 m1 m2 m3 z0 z1 z2 z3 R : Nat) (h : m = m0 + 10 * m1 + 100 * m2 + 1000 * m3) (hz : z = z0 + 10 * z1 + 100 * z2 + 1000 * z3) (h6 : (m0 + 10 * m1 + 100 * m2 + 1000 * m3) + (z0 + 10 * z1 + 100 * z2 + 1000 * z3) + c = R) : m + z + c = R := by omega
theorem tot2 (m z c m0 m1 z0 z1 R : Nat) (h : m = m0 + 10 * m1) (hz : z = z0 + 10 * z1) (h6 : (m0 + 10 * m1) + (z0 + 10 * z1) + c = R) : m + z + c = R := by omega
theorem over4 (T r0 r1 r2 r3 k : Nat) (h : T = r0 + 10 * r1 + 100 * r2 + 1000 * r3 + 10000 * k) (a0 : r0 ≤ 9) (a1 : r1 ≤ 9) (a2 : r2 ≤ 9) (a3 : r3 ≤ 9) (hk : k ≤ 1) : 10000 ≤ T ↔ k = 1 := by omega
theorem over2 (T r0 r1 k : Nat) (h : T = r0 + 10 * r1 + 100 * k) (a0 : r0 ≤ 9) (a1 : r1 ≤ 9) (hk : k ≤ 1) : 100 ≤ T ↔ k = 1 := by omega
theorem nines4 (n n0 n1 n2 n3 : Nat) (h : n = n0 + 10 * n1 + 100 * n2 + 1000 * n3) (a0 : n0 ≤ 9) (a1 : n1 ≤ 9) (a2 : n2 ≤ 9) (a3 : n3 ≤ 9) : 10000 - 1 - n = (9 - n0) + 10 * (9 - n1) + 100 * (9 - n2) + 1000 * (9 - n3) := by omega
theorem nines2 (n n0 n1 : Nat) (h : n = n0 + 10 * n1) (a0 : n0 ≤ 9) (a1 : n1 ≤ 9) : 100 - 1 - n = (9 - n0) + 10 * (9 - n1) := by omega
theorem hexes4 (n0 n1 n2 n3 : Nat) (a0 : n0 ≤ 9) (a1 : n1 ≤ 9) (a2 : n2 ≤ 9) (a3 : n3 ≤ 9) : 65536 - 1 - (n0 + 16 * n1 + 256 * n2 + 4096 * n3) % 65536 = (9 - n0 + 6) + 16 * (9 - n1 + 6) + 256 * (9 - n2 + 6) + 4096 * (9 - n3 + 6) := by omega
theorem hexes2 (n0 n1 : Nat) (a0 : n0 ≤ 9) (a1 : n1 ≤ 9) : 256 - 1 - (n0 + 16 * n1) % 256 = (9 - n0 + 6) + 16 * (9 - n1 + 6) := by omega
theorem same4 (n0 n1 n2 n3 : Nat) (a0 : n0 ≤ 9) (a1 : n1 ≤ 9) (a2 : n2 ≤ 9) (a3 : n3 ≤ 9) : (n0 + 16 * n1 + 256 * n2 + 4096 * n3) % 65536 = n0 + 16 * n1 + 256 * n2 + 4096 * n3 := by omega
theorem same2 (n0 n1 : Nat) (a0 : n0 ≤ 9) (a1 : n1 ≤ 9) : (n0 + 16 * n1) % 256 = n0 + 16 * n1 := by omega
theorem nine (n : Nat) : 9 - n ≤ 9 := by omega
theorem nine16 (n : Nat) : 9 - n + 6 < 16 := by omega
def other (less wide : Bool) (n : Nat) : Nat := if less then lim wide - 1 - n else n
theorem cr_cd (less : Bool) : Cd (cr less) (if less then 6 else 0) := by
  cases less
  · exact corS_dec
  · exact corD_dec
/-- The sum of decimal numbers, or of one and what is taken, as Do makes it. -/
theorem dec_sum (less wide : Bool) (m n c : Nat) (hc : c ≤ 1) (hm : m < lim wide) (hn : n < lim wide) :
    sX true less wide (ofD wide m) (yy less wide (ofD wide n)) c = ofD wide (m + other less wide n + c) ∧
    sC true less wide (ofD wide m) (yy less wide (ofD wide n)) c = decide (lim wide ≤ m + other less wide n + c) := by
  cases wide
  · obtain ⟨m0, m1, a0, a1, hm'⟩ := split2 m hm
    obtain ⟨n0, n1, b0, b1, hn'⟩ := split2 n hn
    have em := ofD2 m m0 m1 0 (up2 _ _ _ hm') a0 a1
    have en := ofD2 n n0 n1 0 (up2 _ _ _ hn') b0 b1
    obtain ⟨g, x0, x1, x2, x3⟩ := hex2 _ m0 m1 em (lt16 _ a0) (lt16 _ a1)
    obtain ⟨z0, z1, c0, c1, y0, y1, hz⟩ : ∃ z0 z1, z0 ≤ 9 ∧ z1 ≤ 9 ∧ yy less false (ofD false n) % 16 = z0 + (if less then 6 else 0) ∧ yy less false (ofD false n) / 16 % 16 = z1 + (if less then 6 else 0) ∧ other less false n = z0 + 10 * z1 := by
      rw [en]
      cases less
      · obtain ⟨_, p0, p1, _, _⟩ := hex2 (yy false false (n0 + 16 * n1)) n0 n1 (same2 n0 n1 b0 b1) (lt16 _ b0) (lt16 _ b1)
        exact ⟨n0, n1, b0, b1, p0, p1, hn'⟩
      · obtain ⟨_, p0, p1, _, _⟩ := hex2 (yy true false (n0 + 16 * n1)) _ _ (hexes2 n0 n1 b0 b1) (nine16 _) (nine16 _)
        exact ⟨9 - n0, 9 - n1, nine _, nine _, p0, p1, nines2 n n0 n1 hn' b0 b1⟩
    obtain ⟨r0, k1, r1, k2, h1, h2, h3, h4, h5, h6⟩ := chain2 (cr less) _ (cr_cd less) (ofD false m) (yy less false (ofD false n)) c m0 m1 z0 z1 hc a0 a1 c0 c1 x0 x1 y0 y1
    have tT := tot2 m (other less false n) c m0 m1 z0 z1 _ hm' hz h4
    have eT := ofD2 (m + other less false n + c) r0 r1 k2 tT h1 h2
    constructor
    · show dX2 (cr less) _ _ c = _
      unfold dX2
      rw [h5, h6, x2, x3, eT]
      rfl
    · show ((q1 (cr less) _ _ c).2 != 0) = decide (100 ≤ m + other less false n + c)
      rw [h6]
      exact bool01 k2 _ h3 (over2 _ r0 r1 k2 tT h1 h2 h3)
  · obtain ⟨m0, m1, m2, m3, a0, a1, a2, a3, hm'⟩ := split4 m hm
    obtain ⟨n0, n1, n2, n3, b0, b1, b2, b3, hn'⟩ := split4 n hn
    have em := ofD4 m m0 m1 m2 m3 0 (up4 _ _ _ _ _ hm') a0 a1 a2 a3
    have en := ofD4 n n0 n1 n2 n3 0 (up4 _ _ _ _ _ hn') b0 b1 b2 b3
    obtain ⟨g, x0, x1, x2, x3⟩ := hex4 _ m0 m1 m2 m3 em (lt16 _ a0) (lt16 _ a1) (lt16 _ a2) (lt16 _ a3)
    obtain ⟨z0, z1, z2, z3, c0, c1, c2, c3, y0, y1, y2, y3, hz⟩ : ∃ z0 z1 z2 z3, z0 ≤ 9 ∧ z1 ≤ 9 ∧ z2 ≤ 9 ∧ z3 ≤ 9 ∧ yy less true (ofD true n) % 16 = z0 + (if less then 6 else 0) ∧ yy less true (ofD true n) / 16 % 16 = z1 + (if less then 6 else 0) ∧
        yy less true (ofD true n) / 256 % 16 = z2 + (if less then 6 else 0) ∧ yy less true (ofD true n) / 4096 % 16 = z3 + (if less then 6 else 0) ∧ other less true n = z0 + 10 * z1 + 100 * z2 + 1000 * z3 := by
      rw [en]
      cases less
      · obtain ⟨_, p0, p1, p2, p3⟩ := hex4 (yy false true (n0 + 16 * n1 + 256 * n2 + 4096 * n3)) n0 n1 n2 n3 (same4 n0 n1 n2 n3 b0 b1 b2 b3) (lt16 _ b0) (lt16 _ b1) (lt16 _ b2) (lt16 _ b3)
        exact ⟨n0, n1, n2, n3, b0, b1, b2, b3, p0, p1, p2, p3, hn'⟩
      · obtain ⟨_, p0, p1, p2, p3⟩ := hex4 (yy true true (n0 + 16 * n1 + 256 * n2 + 4096 * n3)) _ _ _ _ (hexes4 n0 n1 n2 n3 b0 b1 b2 b3) (nine16 _) (nine16 _) (nine16 _) (nine16 _)
        exact ⟨9 - n0, 9 - n1, 9 - n2, 9 - n3, nine _, nine _, nine _, nine _, p0, p1, p2, p3, nines4 n n0 n1 n2 n3 hn' b0 b1 b2 b3⟩
    obtain ⟨r0, r1, r2, r3, k4, h1, h2, h3, h4, h5, h6, h7, h8, h9, h10⟩ := chain4 (cr less) _ (cr_cd less) (ofD true m) (yy less true (ofD true n)) c m0 m1 m2 m3 z0 z1 z2 z3 hc a0 a1 c0 c1 a2 a3 c2 c3 x0 x1 y0 y1 x2 x3 y2 y3
    have tT := tot4 m (other less true n) c m0 m1 m2 m3 z0 z1 z2 z3 _ hm' hz h6
    have eT := ofD4 (m + other less true n + c) r0 r1 r2 r3 k4 tT h1 h2 h3 h4
    constructor
    · show dX4 (cr less) _ _ c = _
      unfold dX4
      rw [h7, h8, h9, h10, eT]
    · show ((q3 (cr less) _ _ c).2 != 0) = decide (10000 ≤ m + other less true n + c)
      rw [h10]
      exact bool01 k4 _ h5 (over4 _ r0 r1 r2 r3 k4 tT h1 h2 h3 h4 h5)
end Go.Proofs.Ytnjbgnkbncjnlaa
