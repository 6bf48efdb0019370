/-
  A writer's methods.
-/
import Derived.Test.YtacnmnodbmbplaaClo4
namespace Go.Proofs.Ytacnmnodbmbplaa
open Go.RowKit Go.Shelf
set_option maxRecDepth 100000
set_option maxHeartbeats 1000000
set_option linter.unusedVariables false

/-- s', unless something went wrong before. -/
def St.when (s s' : St) : St := if s.e = 0 then s' else s
/-- What is asked of what an attempt does: it goes well whatever the world is, or goes wrong. -/
def Does (w : World) (b k : Nat) (caps : Array Value) (v : Value) (s s' : St) (Q : World → Prop) : Prop :=
  (s'.e = 0 ∧ ∀ V, Below w.heap.size w V → Wr V b v s → Q V → Calls Try.prog k caps V fun e w' => e = .returned (.tuple #[]) ∧ ∃ v', Wr w' b v' s' ∧ Only2 b v.ownBlock V w' ∧ NewOwn v v' V) ∨
  ∃ c, s' = { s with e := c } ∧ ∀ V, Below w.heap.size w V → Wr V b v s → Q V → Calls Try.prog k caps V fun e w' => e = fault c ∧ Below V.heap.size V w'
theorem meth_any {b k : Nat} {caps : Array Value} {v : Value} {s s' : St} {Q : World → Prop} (w W : World) (h : Wr w b v s) (hB : Below w.heap.size w W) (hq : Q (W.alloc (.cells #[.int .i64 0] 27)))
    (hen : ∀ (args : Array Value) (W : World), (callFunc k args).run Try.prog W = .ok (.enter k args) W) (hd : s.e = 0 → Does w b k caps v s s' Q) :
    Calls Try.prog 56 #[.pointer (some ⟨b, 0, none⟩), .func (.func k) #[] caps] W fun e w' => e = .returned (.tuple #[]) ∧ ∃ v', Wr w' b v' (s.when s') ∧ Only2 b v.ownBlock w w' ∧ NewOwn v v' w := by
  have hW := h.below hB
  have hO : Only2 b v.ownBlock w W := Only2.of_below hB
  have hB1 : Below w.heap.size w (W.alloc (.cells #[.int .i64 0] 27)) := hB.alloc hB.size _
  unfold St.when
  by_cases he : s.e = 0
  · rw [if_pos he]
    rcases hd he with ⟨he', hd2⟩ | ⟨c, rfl, hd2⟩
    · refine (wattempt_ok W hW he he' hen (hd2 _ hB1 (hW.alloc _) hq)).mono ?_
      rintro e w' ⟨rfl, v', h1, h2, h3⟩
      exact ⟨rfl, v', h1, hO.trans h2 (.inl rfl), h3.imp id (fun h y hy => Nat.le_trans hB.size (h y hy))⟩
    · refine (wattempt_no W hW he hen ((hd2 _ hB1 (hW.alloc _) hq).mono (by rintro e w' ⟨rfl, hb⟩; exact ⟨rfl, by rw [World.size_alloc] at hb; exact hb⟩))).mono ?_
      rintro e w' ⟨rfl, h1, h2⟩
      exact ⟨rfl, v, h1, hO.trans h2 (.inl rfl), NewOwn.refl _ _⟩
  · rw [if_neg he]
    refine (wattempt_skip _ W hW he).mono ?_
    rintro e w' ⟨rfl, rfl⟩
    exact ⟨rfl, v, hW, hO, NewOwn.refl _ _⟩
/-- The two boxes that a method makes. -/
def Boxes (w : World) (b : Nat) (x : Value) (V : World) : Prop := V.cell? ⟨w.heap.size, 0, none⟩ = some (.pointer (some ⟨b, 0, none⟩)) ∧ V.cell? ⟨w.heap.size + 1, 0, none⟩ = some x
theorem boxes_any (w : World) (b : Nat) (x : Value) (T : TypeId) (hx : ∀ V : World, (V.alloc (.cells #[x] T)).cell? ⟨V.heap.size, 0, none⟩ = some x) :
    Below w.heap.size w ((w.alloc (.cells #[.pointer (some ⟨b, 0, none⟩)] 23)).alloc (.cells #[x] T)) ∧ Boxes w b x (((w.alloc (.cells #[.pointer (some ⟨b, 0, none⟩)] 23)).alloc (.cells #[x] T)).alloc (.cells #[.int .i64 0] 27)) := by
  refine ⟨((Below.refl _ w).alloc (Nat.le_refl _) _).alloc (by simp) _, ?_, ?_⟩
  · exact (((Whole.fresh w 23 #[.pointer (some ⟨b, 0, none⟩)]).alloc (.cells #[x] T)).alloc (.cells #[.int .i64 0] 27)).cell 0
  · have := ((Whole.fresh (w.alloc (.cells #[.pointer (some ⟨b, 0, none⟩)] 23)) T #[x]).alloc (.cells #[.int .i64 0] 27)).cell 0
    rw [World.size_alloc] at this
    exact this
/-- A box is neither the writer nor its body. -/
theorem Wr.boxes {w : World} {b : Nat} {v : Value} {s : St} (h : Wr w b v s) : (w.heap.size ≠ b ∧ v.ownBlock ≠ some w.heap.size) ∧ (w.heap.size + 1 ≠ b ∧ v.ownBlock ≠ some (w.heap.size + 1)) := by
  have h1 := h.head.lt
  have h2 := h.body.lt
  exact ⟨⟨by omega, fun e => by have := h2 _ e; omega⟩, ⟨by omega, fun e => by have := h2 _ e; omega⟩⟩
def St.openW (s : St) (x : Nat) : St := if s.op = 16 then { s with e := 4 } else if 16777216 < s.n + 5 then { s with e := 4 } else s.openOk x
def St.closeW (s : St) : St := if s.op = 0 then { s with e := 2 } else s.closeOk (s.op - 1)
theorem byte_put {b x : Nat} {v : Value} {s : St} (w : World) (h : Wr w b v s) (he : s.e = 0) (hx : x < 256) : Does w b 60 #[.pointer (some ⟨w.heap.size, 0, none⟩), .pointer (some ⟨w.heap.size + 1, 0, none⟩)] v s (s.putW 1 (byteAt x)) (Boxes w b (.int .u8 x)) := by
  unfold St.putW
  by_cases hn : 16777216 < s.n + 1
  · rw [if_pos hn]
    refine .inr ⟨4, rfl, fun V _ hV hq => ?_⟩
    obtain ⟨q0, q1⟩ := hq
    have HP := Lib.hid (put_no_uint8 b x v s V hV hn)
    clear hn hV h
    go_enter Try.func60, Try.ntmps60
    go_wp2_with fail
    refine HP.out.mono ?_
    rintro e w' ⟨rfl, rfl⟩
    unfold fault
    go_wp2_with fail
    exact ⟨rfl, by rfl, Below.refl _ _⟩
  · rw [if_neg hn]
    refine .inl ⟨he, fun V _ hV hq => ?_⟩
    obtain ⟨q0, q1⟩ := hq
    have HP := Lib.hid (put_ok_uint8 b x v s V hV hx (by omega))
    clear hn hV h hx
    go_enter Try.func60, Try.ntmps60
    go_wp2_with fail
    refine HP.out.mono ?_
    rintro e w' ⟨rfl, h2⟩
    clear HP
    go_wp2_with fail
    go_end0
    exact ⟨rfl, h2⟩
theorem word_put {b x : Nat} {v : Value} {s : St} (w : World) (h : Wr w b v s) (he : s.e = 0) (hx : x < 65536) : Does w b 62 #[.pointer (some ⟨w.heap.size, 0, none⟩), .pointer (some ⟨w.heap.size + 1, 0, none⟩)] v s (s.putW 2 (byteAt x)) (Boxes w b (.int .u16 x)) := by
  unfold St.putW
  by_cases hn : 16777216 < s.n + 2
  · rw [if_pos hn]
    refine .inr ⟨4, rfl, fun V _ hV hq => ?_⟩
    obtain ⟨q0, q1⟩ := hq
    have HP := Lib.hid (put_no_uint16 b x v s V hV hn)
    clear hn hV h
    go_enter Try.func62, Try.ntmps62
    go_wp2_with fail
    refine HP.out.mono ?_
    rintro e w' ⟨rfl, rfl⟩
    unfold fault
    go_wp2_with fail
    exact ⟨rfl, by rfl, Below.refl _ _⟩
  · rw [if_neg hn]
    refine .inl ⟨he, fun V _ hV hq => ?_⟩
    obtain ⟨q0, q1⟩ := hq
    have HP := Lib.hid (put_ok_uint16 b x v s V hV hx (by omega))
    clear hn hV h hx
    go_enter Try.func62, Try.ntmps62
    go_wp2_with fail
    refine HP.out.mono ?_
    rintro e w' ⟨rfl, h2⟩
    clear HP
    go_wp2_with fail
    go_end0
    exact ⟨rfl, h2⟩
theorem long_put {b x : Nat} {v : Value} {s : St} (w : World) (h : Wr w b v s) (he : s.e = 0) (hx : x < 4294967296) : Does w b 64 #[.pointer (some ⟨w.heap.size, 0, none⟩), .pointer (some ⟨w.heap.size + 1, 0, none⟩)] v s (s.putW 4 (byteAt x)) (Boxes w b (.int .u32 x)) := by
  unfold St.putW
  by_cases hn : 16777216 < s.n + 4
  · rw [if_pos hn]
    refine .inr ⟨4, rfl, fun V _ hV hq => ?_⟩
    obtain ⟨q0, q1⟩ := hq
    have HP := Lib.hid (put_no_uint32 b x v s V hV hn)
    clear hn hV h
    go_enter Try.func64, Try.ntmps64
    go_wp2_with fail
    refine HP.out.mono ?_
    rintro e w' ⟨rfl, rfl⟩
    unfold fault
    go_wp2_with fail
    exact ⟨rfl, by rfl, Below.refl _ _⟩
  · rw [if_neg hn]
    refine .inl ⟨he, fun V _ hV hq => ?_⟩
    obtain ⟨q0, q1⟩ := hq
    have HP := Lib.hid (put_ok_uint32 b x v s V hV hx (by omega))
    clear hn hV h hx
    go_enter Try.func64, Try.ntmps64
    go_wp2_with fail
    refine HP.out.mono ?_
    rintro e w' ⟨rfl, h2⟩
    clear HP
    go_wp2_with fail
    go_end0
    exact ⟨rfl, h2⟩
theorem number_put {b x : Nat} {z : Int} {v : Value} {s : St} (w : World) (h : Wr w b v s) (hz : IntKind.u64.wrap z = ((x : Nat) : Int)) (hx : x < 18446744073709551616) (he : s.e = 0) : Does w b 66 #[.pointer (some ⟨w.heap.size, 0, none⟩), .pointer (some ⟨w.heap.size + 1, 0, none⟩)] v s (s.putW 8 (byteAt x)) (Boxes w b (.int .i64 z)) := by
  unfold St.putW
  by_cases hn : 16777216 < s.n + 8
  · rw [if_pos hn]
    exact .inr ⟨4, rfl, fun V _ hV hq => (number1_no V hV hq.1 hq.2 hz hn).mono (by rintro e w' ⟨rfl, rfl⟩; exact ⟨rfl, Below.refl _ _⟩)⟩
  · rw [if_neg hn]
    exact .inl ⟨he, fun V _ hV hq => number1_ok V hV hq.1 hq.2 hz hx (by omega)⟩
theorem open_put1 {b x : Nat} {v : Value} {s : St} (w : World) (h : Wr w b v s) (hx : x < 256) (he : s.e = 0) : Does w b 70 #[.pointer (some ⟨w.heap.size, 0, none⟩), .pointer (some ⟨w.heap.size + 1, 0, none⟩)] v s (s.openW x) (Boxes w b (.int .u8 x)) := by
  obtain ⟨n0, n1⟩ := h.boxes
  have hop := h.good.op
  unfold St.openW
  by_cases h16 : s.op = 16
  · rw [if_pos h16]
    exact .inr ⟨4, rfl, fun V _ hV hq => (open1_full V hV hq.1 h16).mono (by rintro e w' ⟨rfl, rfl⟩; exact ⟨rfl, Below.refl _ _⟩)⟩
  · rw [if_neg h16]
    by_cases hn : 16777216 < s.n + 5
    · rw [if_pos hn]
      exact .inr ⟨4, rfl, fun V _ hV hq => (open1_no V hV hq.1 hq.2 h16 hn).mono (by rintro e w' ⟨rfl, q, rfl⟩; exact ⟨rfl, below_drewN (Below.refl _ _) q⟩)⟩
    · rw [if_neg hn]
      exact .inl ⟨he, fun V _ hV hq => open1_ok V hV hq.1 hq.2 n0 n1 (by omega) hx (by omega)⟩
theorem bytes_put {b len c : Nat} {a : Option Addr} {f : Nat → Nat} {v : Value} {s : St} (w : World) (h : Wr w b v s) (hR : Row w a len f) (hl : len ≤ 140737488355328) (hF : Far a b v.ownBlock) (hA : ∀ ad, a = some ad → ad.block < w.heap.size) (he : s.e = 0) :
    Does w b 68 #[.pointer (some ⟨w.heap.size, 0, none⟩), .pointer (some ⟨w.heap.size + 1, 0, none⟩)] v s (s.putW (4 + len) (rowB len f)) (Boxes w b (.slice a len c)) := by
  obtain ⟨n0, n1⟩ := h.boxes
  unfold St.putW
  by_cases hn : 16777216 < s.n + (4 + len)
  · rw [if_pos hn]
    exact .inr ⟨4, rfl, fun V _ hV hq => (bytes1_no V hV hq.1 hq.2 hl hn).mono (by rintro e w' ⟨rfl, rfl⟩; exact ⟨rfl, Below.refl _ _⟩)⟩
  · rw [if_neg hn]
    exact .inl ⟨he, fun V hB hV hq => bytes1_ok V hV hq.1 hq.2 n0 n1 (hR.below hB) hF (fun ad e => Nat.lt_of_lt_of_le (hA ad e) hB.size) (by omega)⟩
theorem close_put {b : Nat} {v : Value} {s : St} (w : World) (h : Wr w b v s) (he : s.e = 0) : Does w b 57 #[.pointer (some ⟨w.heap.size, 0, none⟩)] v s s.closeW (fun V => V.cell? ⟨w.heap.size, 0, none⟩ = some (.pointer (some ⟨b, 0, none⟩))) := by
  obtain ⟨n0, n1⟩ := h.boxes
  unfold St.closeW
  by_cases h0 : s.op = 0
  · rw [if_pos h0]
    exact .inr ⟨2, rfl, fun V _ hV hq => (close1_no V hV hq h0).mono (by rintro e w' ⟨rfl, rfl⟩; exact ⟨rfl, Below.refl _ _⟩)⟩
  · rw [if_neg h0]
    exact .inl ⟨he, fun V _ hV hq => close1_ok V hV hq n0 (by omega)⟩
theorem mbyte {b : Nat} {v : Value} {s : St} {x : Nat} (w : World) (h : Wr w b v s) (hx : x < 256) :
    Calls Try.prog 29 #[.pointer (some ⟨b, 0, none⟩), .int .u8 x] w fun e w' => e = .returned (.tuple #[]) ∧ ∃ v', Wr w' b v' (s.when (s.putW 1 (byteAt x))) ∧ Only2 b v.ownBlock w w' ∧ NewOwn v v' w := by
  have hmf := makeF
  obtain ⟨hB, hQ⟩ := boxes_any w b (.int .u8 x) 5 (fun V => (Whole.fresh V _ _).cell 0)
  have hen := enters_of Try.func60 (by kernel_rfl) rfl
  have HM := Lib.hid (meth_any (Q := Boxes w b (.int .u8 x)) (s' := s.putW 1 (byteAt x)) (caps := #[.pointer (some ⟨w.heap.size, 0, none⟩), .pointer (some ⟨w.heap.size + 1, 0, none⟩)]) w _ h hB hQ hen (fun he => byte_put w h he hx))
  clear h hB hQ hen
  go_enter Try.func29, Try.ntmps29
  go_wp2_with fail
  refine HM.out.mono ?_
  rintro e w' ⟨rfl, h2⟩
  clear HM
  go_wp2_with fail
  go_end0
  exact ⟨rfl, h2⟩
theorem mword {b : Nat} {v : Value} {s : St} {x : Nat} (w : World) (h : Wr w b v s) (hx : x < 65536) :
    Calls Try.prog 30 #[.pointer (some ⟨b, 0, none⟩), .int .u16 x] w fun e w' => e = .returned (.tuple #[]) ∧ ∃ v', Wr w' b v' (s.when (s.putW 2 (byteAt x))) ∧ Only2 b v.ownBlock w w' ∧ NewOwn v v' w := by
  have hmf := makeF
  obtain ⟨hB, hQ⟩ := boxes_any w b (.int .u16 x) 60 (fun V => (Whole.fresh V _ _).cell 0)
  have hen := enters_of Try.func62 (by kernel_rfl) rfl
  have HM := Lib.hid (meth_any (Q := Boxes w b (.int .u16 x)) (s' := s.putW 2 (byteAt x)) (caps := #[.pointer (some ⟨w.heap.size, 0, none⟩), .pointer (some ⟨w.heap.size + 1, 0, none⟩)]) w _ h hB hQ hen (fun he => word_put w h he hx))
  clear h hB hQ hen
  go_enter Try.func30, Try.ntmps30
  go_wp2_with fail
  refine HM.out.mono ?_
  rintro e w' ⟨rfl, h2⟩
  clear HM
  go_wp2_with fail
  go_end0
  exact ⟨rfl, h2⟩
theorem mlong {b : Nat} {v : Value} {s : St} {x : Nat} (w : World) (h : Wr w b v s) (hx : x < 4294967296) :
    Calls Try.prog 31 #[.pointer (some ⟨b, 0, none⟩), .int .u32 x] w fun e w' => e = .returned (.tuple #[]) ∧ ∃ v', Wr w' b v' (s.when (s.putW 4 (byteAt x))) ∧ Only2 b v.ownBlock w w' ∧ NewOwn v v' w := by
  have hmf := makeF
  obtain ⟨hB, hQ⟩ := boxes_any w b (.int .u32 x) 39 (fun V => (Whole.fresh V _ _).cell 0)
  have hen := enters_of Try.func64 (by kernel_rfl) rfl
  have HM := Lib.hid (meth_any (Q := Boxes w b (.int .u32 x)) (s' := s.putW 4 (byteAt x)) (caps := #[.pointer (some ⟨w.heap.size, 0, none⟩), .pointer (some ⟨w.heap.size + 1, 0, none⟩)]) w _ h hB hQ hen (fun he => long_put w h he hx))
  clear h hB hQ hen
  go_enter Try.func31, Try.ntmps31
  go_wp2_with fail
  refine HM.out.mono ?_
  rintro e w' ⟨rfl, h2⟩
  clear HM
  go_wp2_with fail
  go_end0
  exact ⟨rfl, h2⟩
theorem mnumber {b : Nat} {v : Value} {s : St} {x : Nat} {z : Int} (w : World) (h : Wr w b v s) (hz : IntKind.u64.wrap z = ((x : Nat) : Int)) (hx : x < 18446744073709551616) :
    Calls Try.prog 32 #[.pointer (some ⟨b, 0, none⟩), .int .i64 z] w fun e w' => e = .returned (.tuple #[]) ∧ ∃ v', Wr w' b v' (s.when (s.putW 8 (byteAt x))) ∧ Only2 b v.ownBlock w w' ∧ NewOwn v v' w := by
  have hmf := makeF
  obtain ⟨hB, hQ⟩ := boxes_any w b (.int .i64 z) 2 (fun V => (Whole.fresh V _ _).cell 0)
  have hen := enters_of Try.func66 (by kernel_rfl) rfl
  have HM := Lib.hid (meth_any (Q := Boxes w b (.int .i64 z)) (s' := s.putW 8 (byteAt x)) (caps := #[.pointer (some ⟨w.heap.size, 0, none⟩), .pointer (some ⟨w.heap.size + 1, 0, none⟩)]) w _ h hB hQ hen (fun he => number_put w h hz hx he))
  clear h hB hQ hen
  go_enter Try.func32, Try.ntmps32
  go_wp2_with fail
  refine HM.out.mono ?_
  rintro e w' ⟨rfl, h2⟩
  clear HM
  go_wp2_with fail
  go_end0
  exact ⟨rfl, h2⟩
theorem mopen {b : Nat} {v : Value} {s : St} {x : Nat} (w : World) (h : Wr w b v s) (hx : x < 256) :
    Calls Try.prog 35 #[.pointer (some ⟨b, 0, none⟩), .int .u8 x] w fun e w' => e = .returned (.tuple #[]) ∧ ∃ v', Wr w' b v' (s.when (s.openW x)) ∧ Only2 b v.ownBlock w w' ∧ NewOwn v v' w := by
  have hmf := makeF
  obtain ⟨hB, hQ⟩ := boxes_any w b (.int .u8 x) 5 (fun V => (Whole.fresh V _ _).cell 0)
  have hen := enters_of Try.func70 (by kernel_rfl) rfl
  have HM := Lib.hid (meth_any (Q := Boxes w b (.int .u8 x)) (s' := s.openW x) (caps := #[.pointer (some ⟨w.heap.size, 0, none⟩), .pointer (some ⟨w.heap.size + 1, 0, none⟩)]) w _ h hB hQ hen (fun he => open_put1 w h hx he))
  clear h hB hQ hen
  go_enter Try.func35, Try.ntmps35
  go_wp2_with fail
  refine HM.out.mono ?_
  rintro e w' ⟨rfl, h2⟩
  clear HM
  go_wp2_with fail
  go_end0
  exact ⟨rfl, h2⟩
theorem mbytes {b : Nat} {v : Value} {s : St} {len c : Nat} {a : Option Addr} {f : Nat → Nat} (w : World) (h : Wr w b v s) (hR : Row w a len f) (hl : len ≤ 140737488355328) (hF : Far a b v.ownBlock) (hA : ∀ ad, a = some ad → ad.block < w.heap.size) :
    Calls Try.prog 34 #[.pointer (some ⟨b, 0, none⟩), .slice a len c] w fun e w' => e = .returned (.tuple #[]) ∧ ∃ v', Wr w' b v' (s.when (s.putW (4 + len) (rowB len f))) ∧ Only2 b v.ownBlock w w' ∧ NewOwn v v' w := by
  have hmf := makeF
  obtain ⟨hB, hQ⟩ := boxes_any w b (.slice a len c) 25 (fun V => (Whole.fresh V _ _).cell 0)
  have hen := enters_of Try.func68 (by kernel_rfl) rfl
  have HM := Lib.hid (meth_any (Q := Boxes w b (.slice a len c)) (s' := s.putW (4 + len) (rowB len f)) (caps := #[.pointer (some ⟨w.heap.size, 0, none⟩), .pointer (some ⟨w.heap.size + 1, 0, none⟩)]) w _ h hB hQ hen (fun he => bytes_put w h hR hl hF hA he))
  clear h hB hQ hen
  go_enter Try.func34, Try.ntmps34
  go_wp2_with fail
  refine HM.out.mono ?_
  rintro e w' ⟨rfl, h2⟩
  clear HM
  go_wp2_with fail
  go_end0
  exact ⟨rfl, h2⟩
theorem mclose {b : Nat} {v : Value} {s : St} (w : World) (h : Wr w b v s) :
    Calls Try.prog 27 #[.pointer (some ⟨b, 0, none⟩)] w fun e w' => e = .returned (.tuple #[]) ∧ ∃ v', Wr w' b v' (s.when s.closeW) ∧ Only2 b v.ownBlock w w' ∧ NewOwn v v' w := by
  have hmf := makeF
  have hB := (Below.refl w.heap.size w).alloc (Nat.le_refl _) (.cells #[.pointer (some ⟨b, 0, none⟩)] 23)
  have hQ := ((Whole.fresh w 23 #[.pointer (some ⟨b, 0, none⟩)]).alloc (.cells #[.int .i64 0] 27)).cell 0
  have hen := enters_of Try.func57 (by kernel_rfl) rfl
  have HM := Lib.hid (meth_any (Q := fun V => V.cell? ⟨w.heap.size, 0, none⟩ = some (.pointer (some ⟨b, 0, none⟩))) (s' := s.closeW) (caps := #[.pointer (some ⟨w.heap.size, 0, none⟩)]) w _ h hB hQ hen (fun he => close_put w h he))
  clear h hB hQ hen
  go_enter Try.func27, Try.ntmps27
  go_wp2_with fail
  refine HM.out.mono ?_
  rintro e w' ⟨rfl, h2⟩
  clear HM
  go_wp2_with fail
  go_end0
  exact ⟨rfl, h2⟩
theorem mflag {b : Nat} {v : Value} {s : St} (t : Bool) (w : World) (h : Wr w b v s) :
    Calls Try.prog 33 #[.pointer (some ⟨b, 0, none⟩), .bool t] w fun e w' => e = .returned (.tuple #[]) ∧ ∃ v', Wr w' b v' (s.when (s.putW 1 (byteAt (if t then 1 else 0)))) ∧ Only2 b v.ownBlock w w' ∧ NewOwn v v' w := by
  cases t
  · have HM := Lib.hid (mbyte (x := 0) w h (by decide))
    clear h
    go_enter Try.func33, Try.ntmps33
    go_wp2_with fail
    refine HM.out.mono ?_
    rintro e w' ⟨rfl, h2⟩
    clear HM
    go_wp2_with fail
    go_end0
    exact ⟨rfl, h2⟩
  · have HM := Lib.hid (mbyte (x := 1) w h (by decide))
    clear h
    go_enter Try.func33, Try.ntmps33
    go_wp2_with fail
    refine HM.out.mono ?_
    rintro e w' ⟨rfl, h2⟩
    clear HM
    go_wp2_with fail
    go_end0
    exact ⟨rfl, h2⟩
end Go.Proofs.Ytacnmnodbmbplaa
