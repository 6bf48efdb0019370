/-
  A writer's methods that put numbers.
-/
import Derived.Test.YtacnmnodbmbplaaAtt
import Derived.Test.YtacnmnodbmbplaaNil
namespace Go.Proofs.Ytacnmnodbmbplaa
open Go.RowKit Go.Shelf
set_option maxRecDepth 100000
set_option maxHeartbeats 1000000

/-- m bytes more at the body's end. -/
def St.put (s : St) (m : Nat) (g : Nat → Nat) : St := { s with n := s.n + m, f := fun i => if i < s.n then s.f i else g (i - s.n) }
/-- As far as there is room. -/
def St.putW (s : St) (m : Nat) (g : Nat → Nat) : St := if 16777216 < s.n + m then { s with e := 4 } else s.put m g
def over (f : Nat → Nat) (o k : Nat) (g : Nat → Nat) : Nat → Nat := fun i => if o ≤ i ∧ i < o + k then g (i - o) else f i
theorem Wr.cs {w : World} {b g N cap : Nat} {s : St} (h : Wr w b (.slice (some ⟨g, 0, none⟩) N cap) s) : ∃ cs, Whole w g 5 cs ∧ cs.size = cap ∧ s.n = N ∧ N ≤ cap ∧ cap ≤ maxLen ∧ ∀ i, i < N → cs[i]? = some (.int .u8 (s.f i : Nat)) := by
  rcases h.body.2 with ⟨e, _⟩ | ⟨g', cap', cs, e, h1, h2, h3, h4, h5⟩
  · cases e
  · injection e with e1 e2 e3
    injection e1 with e1
    injection e1 with e1
    subst e1 e2 e3
    exact ⟨cs, h1, h4, rfl, h2, h3, h5⟩
theorem Wr.laid {w w' : World} {b g N cap o k x : Nat} {s : St} {cs : Array Value} (h : Wr w b (.slice (some ⟨g, 0, none⟩) N cap) s) (hcs : Whole w g 5 cs) (hL : Laid w g o k x cs w') (_ : o + k ≤ N) :
    Wr w' b (.slice (some ⟨g, 0, none⟩) N cap) { s with f := over s.f o k (byteAt x) } := by
  obtain ⟨cs', h1, h2, h3, h4, h5, h6⟩ := h.cs
  have e : cs = cs' := by
    have := Option.some.inj ((show w.heap[g]? = _ from hcs).symm.trans h1)
    injection this
  subst e
  obtain ⟨⟨ds, hd, hs, l1, l2⟩, hO⟩ := hL
  have hgb : g ≠ b := by have := h.far; simpa [Value.ownBlock] using this
  refine ⟨h.head.kept (hO.block b h.head.lt (fun e => hgb (by injection e with e; exact e.symm))), ⟨fun i hi => ?_, .inr ⟨g, cap, ds, by rw [← h3], hd, by rw [h3]; exact h4, h5, by omega, fun i hi => ?_⟩⟩, h.far, h.good.op, h.good.n, h.good.ps⟩
  · show over s.f o k (byteAt x) i < 256
    unfold over
    split
    · exact byteAt_lt _ _
    · exact h.body.1 i hi
  · show ds[i]? = some (.int .u8 (over s.f o k (byteAt x) i : Nat))
    unfold over
    split
    · rename_i hc
      have := l1 (i - o) (by omega)
      rw [show o + (i - o) = i by omega] at this
      exact this
    · rename_i hc
      rw [l2 i (by omega)]
      exact h6 i (by rw [← h3]; exact hi)
theorem Only2.laid {w w' : World} {b g o k x : Nat} {cs : Array Value} (hL : Laid w g o k x cs w') : Only2 b (some g) w w' := Only2.of_grown hL.only
theorem St.put_eq (s : St) (m : Nat) (x : Nat) : ({ s with n := s.n + m, f := over (zeroed s.f s.n) s.n m (byteAt x) } : St) = { s.put m (byteAt x) with f := over (zeroed s.f s.n) s.n m (byteAt x) } := rfl
theorem Wr.congr {w : World} {b : Nat} {v : Value} {s s' : St} (h : Wr w b v s) (hn : s'.n = s.n) (hp : s'.ps = s.ps) (ho : s'.op = s.op) (he : s'.e = s.e) (hf : ∀ i, i < s.n → s'.f i = s.f i) : Wr w b v s' := by
  obtain ⟨n, f, ps, op, e⟩ := s
  obtain ⟨n', f', ps', op', e'⟩ := s'
  dsimp only at hn hp ho he hf
  subst hn hp ho he
  exact ⟨h.head, h.body.congr hf, h.far, h.good.op, h.good.n, h.good.ps⟩
theorem put_no_uint8 (b x : Nat) (v : Value) (s : St) (w : World) (h : Wr w b v s) (hn : 16777216 < s.n + 1) :
    Calls Try.prog 61 #[.pointer (some ⟨b, 0, none⟩), .int .u8 x] w fun e w' => e = fault 4 ∧ w' = w := by
  have HR := Lib.hid (room_no b 1 v s w h (by decide) hn)
  clear h hn
  go_enter Try.func61, Try.ntmps61
  go_wp2_with (go_at_call 85; refine (size_uint8 _).mono ?_; rintro e w' ⟨rfl, rfl⟩)
  refine HR.out.mono ?_
  rintro e w' ⟨rfl, rfl⟩
  unfold fault
  go_wp2_with fail
  exact ⟨rfl, by rfl, rfl⟩
theorem put_ok_uint8 (b x : Nat) (v : Value) (s : St) (w : World) (h : Wr w b v s) (hx : x < 256) (hn : s.n + 1 ≤ 16777216) :
    Calls Try.prog 61 #[.pointer (some ⟨b, 0, none⟩), .int .u8 x] w fun e w' => e = .returned (.tuple #[]) ∧ ∃ v', Wr w' b v' (s.put 1 (byteAt x)) ∧ Only2 b v.ownBlock w w' ∧ NewOwn v v' w := by
  have HR := Lib.hid (room_ok b 1 v s w h (by decide) hn)
  clear h
  replace hx := Lib.hid hx
  replace hn := Lib.hid hn
  go_enter Try.func61, Try.ntmps61
  go_wp2_with (go_at_call 85; refine (size_uint8 _).mono ?_; rintro e w' ⟨rfl, rfl⟩)
  refine HR.out.mono ?_
  rintro e w1 ⟨g, cap, rfl, hW, hO, hg⟩
  obtain ⟨cs, hcs, hsz, _, hcap, _, _⟩ := hW.cs
  have HL := Lib.hid (lay_uint8 g s.n 1 (cap - s.n) x cs w1 hcs hx.out (by decide) (by omega))
  clear HR
  go_wp2_with fail
  refine HL.out.mono ?_
  rintro e w2 ⟨rfl, hL⟩
  have hW2 := hW.laid hcs hL (Nat.le_refl _)
  have hO2 := hO.trans (Only2.laid (b := b) hL) (hg.imp id (fun h y hy => by injection hy with hy; omega))
  clear HL
  go_wp2_with fail
  go_end0
  refine ⟨rfl, _, hW2.congr rfl rfl rfl rfl (fun i hi => ?_), hO2, hg.imp (fun h => h) (fun h y hy => Nat.le_trans h (Nat.le_of_eq (by simpa [Value.ownBlock] using hy)))⟩
  simp only [St.put, over, zeroed]
  by_cases hin : i < s.n
  · rw [if_pos hin, if_neg (by omega), if_pos hin]
  · rw [if_neg hin, if_pos ⟨by omega, hi⟩]
theorem wbyte (b x : Nat) (v : Value) (s : St) (w : World) (h : Wr w b v s) (he : s.e = 0) (hx : x < 256) :
    Calls Try.prog 29 #[.pointer (some ⟨b, 0, none⟩), .int .u8 x] w fun e w' => e = .returned (.tuple #[]) ∧ ∃ v', Wr w' b v' (s.putW 1 (byteAt x)) ∧ Only2 b v.ownBlock w w' ∧ NewOwn v v' w := by
  have hmf := makeF
  have h1 := (h.alloc (.cells #[.pointer (some ⟨b, 0, none⟩)] 23)).alloc (.cells #[.int .u8 x] 5)
  have hp0 := (Whole.fresh w 23 #[.pointer (some ⟨b, 0, none⟩)]).alloc (.cells #[.int .u8 x] 5)
  have hp1 := Whole.fresh (w.alloc (.cells #[.pointer (some ⟨b, 0, none⟩)] 23)) 5 #[.int .u8 x]
  rw [World.size_alloc] at hp1
  have hB := ((Below.refl w.heap.size w).alloc (Nat.le_refl _) (.cells #[.pointer (some ⟨b, 0, none⟩)] 23)).alloc (by simp) (.cells #[.int .u8 x] 5)
  have hsz := hB.size
  have hol := h.body.lt
  clear h
  go_enter Try.func29, Try.ntmps29
  go_wp2_with fail
  generalize (w.alloc (.cells #[.pointer (some ⟨b, 0, none⟩)] 23)).alloc (.cells #[.int .u8 x] 5) = W at *
  have hen := enters_of Try.func60 (by kernel_rfl) rfl
  have q0 := (hp0.alloc (.cells #[.int .i64 0] 27)).cell 0
  have q1 := (hp1.alloc (.cells #[.int .i64 0] 27)).cell 0
  simp only [List.getElem?_toArray, List.getElem?_cons_zero] at q0 q1
  by_cases hn : 16777216 < s.n + 1
  · have hdo : Calls Try.prog 60 #[.pointer (some ⟨w.heap.size, 0, none⟩), .pointer (some ⟨w.heap.size + 1, 0, none⟩)] (W.alloc (.cells #[.int .i64 0] 27)) fun e w' => e = fault 4 ∧ Below (W.heap.size + 1) (W.alloc (.cells #[.int .i64 0] 27)) w' := by
      have HP := Lib.hid (put_no_uint8 b x v s _ (h1.alloc (.cells #[.int .i64 0] 27)) hn)
      generalize W.alloc (.cells #[.int .i64 0] 27) = V at *
      clear hn h1 hmf hp0 hp1 hB hsz hol hen
      go_enter Try.func60, Try.ntmps60
      go_wp2_with fail
      refine HP.out.mono ?_
      rintro e w' ⟨rfl, rfl⟩
      unfold fault
      go_wp2_with fail
      exact ⟨rfl, by rfl, Below.refl _ _⟩
    have HA := Lib.hid (wattempt_no W h1 he hen hdo)
    clear hdo hen q0 q1 h1 hp0 hp1
    refine HA.out.mono ?_
    rintro e w' ⟨rfl, h2, h3⟩
    clear HA
    go_wp2_with fail
    go_end0
    exact ⟨rfl, v, by unfold St.putW; rw [if_pos hn]; exact h2, (Only2.of_below hB).trans h3 (.inl rfl), NewOwn.refl _ _⟩
  · have hdo : Calls Try.prog 60 #[.pointer (some ⟨w.heap.size, 0, none⟩), .pointer (some ⟨w.heap.size + 1, 0, none⟩)] (W.alloc (.cells #[.int .i64 0] 27)) fun e w' => e = .returned (.tuple #[]) ∧ ∃ v', Wr w' b v' (s.put 1 (byteAt x)) ∧ Only2 b v.ownBlock (W.alloc (.cells #[.int .i64 0] 27)) w' ∧ NewOwn v v' (W.alloc (.cells #[.int .i64 0] 27)) := by
      have HP := Lib.hid (put_ok_uint8 b x v s _ (h1.alloc (.cells #[.int .i64 0] 27)) hx (by omega))
      generalize W.alloc (.cells #[.int .i64 0] 27) = V at *
      clear hn h1 hmf hp0 hp1 hB hsz hol hen hx
      go_enter Try.func60, Try.ntmps60
      go_wp2_with fail
      refine HP.out.mono ?_
      rintro e w' ⟨rfl, h2⟩
      clear HP
      go_wp2_with fail
      go_end0
      exact ⟨rfl, h2⟩
    have HA := Lib.hid (wattempt_ok W h1 he (show (s.put 1 (byteAt x)).e = 0 from he) hen hdo)
    clear hdo hen q0 q1 h1 hp0 hp1
    refine HA.out.mono ?_
    rintro e w' ⟨rfl, v', h2, h3, h4⟩
    clear HA
    go_wp2_with fail
    go_end0
    exact ⟨rfl, v', by unfold St.putW; rw [if_neg hn]; exact h2, (Only2.of_below hB).trans h3 (.inl rfl), h4.imp id (fun h y hy => Nat.le_trans hsz (h y hy))⟩
theorem put_no_uint16 (b x : Nat) (v : Value) (s : St) (w : World) (h : Wr w b v s) (hn : 16777216 < s.n + 2) :
    Calls Try.prog 63 #[.pointer (some ⟨b, 0, none⟩), .int .u16 x] w fun e w' => e = fault 4 ∧ w' = w := by
  have HR := Lib.hid (room_no b 2 v s w h (by decide) hn)
  clear h hn
  go_enter Try.func63, Try.ntmps63
  go_wp2_with (go_at_call 87; refine (size_uint16 _).mono ?_; rintro e w' ⟨rfl, rfl⟩)
  refine HR.out.mono ?_
  rintro e w' ⟨rfl, rfl⟩
  unfold fault
  go_wp2_with fail
  exact ⟨rfl, by rfl, rfl⟩
theorem put_ok_uint16 (b x : Nat) (v : Value) (s : St) (w : World) (h : Wr w b v s) (hx : x < 65536) (hn : s.n + 2 ≤ 16777216) :
    Calls Try.prog 63 #[.pointer (some ⟨b, 0, none⟩), .int .u16 x] w fun e w' => e = .returned (.tuple #[]) ∧ ∃ v', Wr w' b v' (s.put 2 (byteAt x)) ∧ Only2 b v.ownBlock w w' ∧ NewOwn v v' w := by
  have HR := Lib.hid (room_ok b 2 v s w h (by decide) hn)
  clear h
  replace hx := Lib.hid hx
  replace hn := Lib.hid hn
  go_enter Try.func63, Try.ntmps63
  go_wp2_with (go_at_call 87; refine (size_uint16 _).mono ?_; rintro e w' ⟨rfl, rfl⟩)
  refine HR.out.mono ?_
  rintro e w1 ⟨g, cap, rfl, hW, hO, hg⟩
  obtain ⟨cs, hcs, hsz, _, hcap, _, _⟩ := hW.cs
  have HL := Lib.hid (lay_uint16 g s.n 2 (cap - s.n) x cs w1 hcs hx.out (by decide) (by omega))
  clear HR
  go_wp2_with fail
  refine HL.out.mono ?_
  rintro e w2 ⟨rfl, hL⟩
  have hW2 := hW.laid hcs hL (Nat.le_refl _)
  have hO2 := hO.trans (Only2.laid (b := b) hL) (hg.imp id (fun h y hy => by injection hy with hy; omega))
  clear HL
  go_wp2_with fail
  go_end0
  refine ⟨rfl, _, hW2.congr rfl rfl rfl rfl (fun i hi => ?_), hO2, hg.imp (fun h => h) (fun h y hy => Nat.le_trans h (Nat.le_of_eq (by simpa [Value.ownBlock] using hy)))⟩
  simp only [St.put, over, zeroed]
  by_cases hin : i < s.n
  · rw [if_pos hin, if_neg (by omega), if_pos hin]
  · rw [if_neg hin, if_pos ⟨by omega, hi⟩]
theorem wword (b x : Nat) (v : Value) (s : St) (w : World) (h : Wr w b v s) (he : s.e = 0) (hx : x < 65536) :
    Calls Try.prog 30 #[.pointer (some ⟨b, 0, none⟩), .int .u16 x] w fun e w' => e = .returned (.tuple #[]) ∧ ∃ v', Wr w' b v' (s.putW 2 (byteAt x)) ∧ Only2 b v.ownBlock w w' ∧ NewOwn v v' w := by
  have hmf := makeF
  have h1 := (h.alloc (.cells #[.pointer (some ⟨b, 0, none⟩)] 23)).alloc (.cells #[.int .u16 x] 60)
  have hp0 := (Whole.fresh w 23 #[.pointer (some ⟨b, 0, none⟩)]).alloc (.cells #[.int .u16 x] 60)
  have hp1 := Whole.fresh (w.alloc (.cells #[.pointer (some ⟨b, 0, none⟩)] 23)) 60 #[.int .u16 x]
  rw [World.size_alloc] at hp1
  have hB := ((Below.refl w.heap.size w).alloc (Nat.le_refl _) (.cells #[.pointer (some ⟨b, 0, none⟩)] 23)).alloc (by simp) (.cells #[.int .u16 x] 60)
  have hsz := hB.size
  have hol := h.body.lt
  clear h
  go_enter Try.func30, Try.ntmps30
  go_wp2_with fail
  generalize (w.alloc (.cells #[.pointer (some ⟨b, 0, none⟩)] 23)).alloc (.cells #[.int .u16 x] 60) = W at *
  have hen := enters_of Try.func62 (by kernel_rfl) rfl
  have q0 := (hp0.alloc (.cells #[.int .i64 0] 27)).cell 0
  have q1 := (hp1.alloc (.cells #[.int .i64 0] 27)).cell 0
  simp only [List.getElem?_toArray, List.getElem?_cons_zero] at q0 q1
  by_cases hn : 16777216 < s.n + 2
  · have hdo : Calls Try.prog 62 #[.pointer (some ⟨w.heap.size, 0, none⟩), .pointer (some ⟨w.heap.size + 1, 0, none⟩)] (W.alloc (.cells #[.int .i64 0] 27)) fun e w' => e = fault 4 ∧ Below (W.heap.size + 1) (W.alloc (.cells #[.int .i64 0] 27)) w' := by
      have HP := Lib.hid (put_no_uint16 b x v s _ (h1.alloc (.cells #[.int .i64 0] 27)) hn)
      generalize W.alloc (.cells #[.int .i64 0] 27) = V at *
      clear hn h1 hmf hp0 hp1 hB hsz hol hen
      go_enter Try.func62, Try.ntmps62
      go_wp2_with fail
      refine HP.out.mono ?_
      rintro e w' ⟨rfl, rfl⟩
      unfold fault
      go_wp2_with fail
      exact ⟨rfl, by rfl, Below.refl _ _⟩
    have HA := Lib.hid (wattempt_no W h1 he hen hdo)
    clear hdo hen q0 q1 h1 hp0 hp1
    refine HA.out.mono ?_
    rintro e w' ⟨rfl, h2, h3⟩
    clear HA
    go_wp2_with fail
    go_end0
    exact ⟨rfl, v, by unfold St.putW; rw [if_pos hn]; exact h2, (Only2.of_below hB).trans h3 (.inl rfl), NewOwn.refl _ _⟩
  · have hdo : Calls Try.prog 62 #[.pointer (some ⟨w.heap.size, 0, none⟩), .pointer (some ⟨w.heap.size + 1, 0, none⟩)] (W.alloc (.cells #[.int .i64 0] 27)) fun e w' => e = .returned (.tuple #[]) ∧ ∃ v', Wr w' b v' (s.put 2 (byteAt x)) ∧ Only2 b v.ownBlock (W.alloc (.cells #[.int .i64 0] 27)) w' ∧ NewOwn v v' (W.alloc (.cells #[.int .i64 0] 27)) := by
      have HP := Lib.hid (put_ok_uint16 b x v s _ (h1.alloc (.cells #[.int .i64 0] 27)) hx (by omega))
      generalize W.alloc (.cells #[.int .i64 0] 27) = V at *
      clear hn h1 hmf hp0 hp1 hB hsz hol hen hx
      go_enter Try.func62, Try.ntmps62
      go_wp2_with fail
      refine HP.out.mono ?_
      rintro e w' ⟨rfl, h2⟩
      clear HP
      go_wp2_with fail
      go_end0
      exact ⟨rfl, h2⟩
    have HA := Lib.hid (wattempt_ok W h1 he (show (s.put 2 (byteAt x)).e = 0 from he) hen hdo)
    clear hdo hen q0 q1 h1 hp0 hp1
    refine HA.out.mono ?_
    rintro e w' ⟨rfl, v', h2, h3, h4⟩
    clear HA
    go_wp2_with fail
    go_end0
    exact ⟨rfl, v', by unfold St.putW; rw [if_neg hn]; exact h2, (Only2.of_below hB).trans h3 (.inl rfl), h4.imp id (fun h y hy => Nat.le_trans hsz (h y hy))⟩
theorem put_no_uint32 (b x : Nat) (v : Value) (s : St) (w : World) (h : Wr w b v s) (hn : 16777216 < s.n + 4) :
    Calls Try.prog 65 #[.pointer (some ⟨b, 0, none⟩), .int .u32 x] w fun e w' => e = fault 4 ∧ w' = w := by
  have HR := Lib.hid (room_no b 4 v s w h (by decide) hn)
  clear h hn
  go_enter Try.func65, Try.ntmps65
  go_wp2_with (go_at_call 84; refine (size_uint32 _).mono ?_; rintro e w' ⟨rfl, rfl⟩)
  refine HR.out.mono ?_
  rintro e w' ⟨rfl, rfl⟩
  unfold fault
  go_wp2_with fail
  exact ⟨rfl, by rfl, rfl⟩
theorem put_ok_uint32 (b x : Nat) (v : Value) (s : St) (w : World) (h : Wr w b v s) (hx : x < 4294967296) (hn : s.n + 4 ≤ 16777216) :
    Calls Try.prog 65 #[.pointer (some ⟨b, 0, none⟩), .int .u32 x] w fun e w' => e = .returned (.tuple #[]) ∧ ∃ v', Wr w' b v' (s.put 4 (byteAt x)) ∧ Only2 b v.ownBlock w w' ∧ NewOwn v v' w := by
  have HR := Lib.hid (room_ok b 4 v s w h (by decide) hn)
  clear h
  replace hx := Lib.hid hx
  replace hn := Lib.hid hn
  go_enter Try.func65, Try.ntmps65
  go_wp2_with (go_at_call 84; refine (size_uint32 _).mono ?_; rintro e w' ⟨rfl, rfl⟩)
  refine HR.out.mono ?_
  rintro e w1 ⟨g, cap, rfl, hW, hO, hg⟩
  obtain ⟨cs, hcs, hsz, _, hcap, _, _⟩ := hW.cs
  have HL := Lib.hid (lay_uint32 g s.n 4 (cap - s.n) x cs w1 hcs hx.out (by decide) (by omega))
  clear HR
  go_wp2_with fail
  refine HL.out.mono ?_
  rintro e w2 ⟨rfl, hL⟩
  have hW2 := hW.laid hcs hL (Nat.le_refl _)
  have hO2 := hO.trans (Only2.laid (b := b) hL) (hg.imp id (fun h y hy => by injection hy with hy; omega))
  clear HL
  go_wp2_with fail
  go_end0
  refine ⟨rfl, _, hW2.congr rfl rfl rfl rfl (fun i hi => ?_), hO2, hg.imp (fun h => h) (fun h y hy => Nat.le_trans h (Nat.le_of_eq (by simpa [Value.ownBlock] using hy)))⟩
  simp only [St.put, over, zeroed]
  by_cases hin : i < s.n
  · rw [if_pos hin, if_neg (by omega), if_pos hin]
  · rw [if_neg hin, if_pos ⟨by omega, hi⟩]
theorem wlong (b x : Nat) (v : Value) (s : St) (w : World) (h : Wr w b v s) (he : s.e = 0) (hx : x < 4294967296) :
    Calls Try.prog 31 #[.pointer (some ⟨b, 0, none⟩), .int .u32 x] w fun e w' => e = .returned (.tuple #[]) ∧ ∃ v', Wr w' b v' (s.putW 4 (byteAt x)) ∧ Only2 b v.ownBlock w w' ∧ NewOwn v v' w := by
  have hmf := makeF
  have h1 := (h.alloc (.cells #[.pointer (some ⟨b, 0, none⟩)] 23)).alloc (.cells #[.int .u32 x] 39)
  have hp0 := (Whole.fresh w 23 #[.pointer (some ⟨b, 0, none⟩)]).alloc (.cells #[.int .u32 x] 39)
  have hp1 := Whole.fresh (w.alloc (.cells #[.pointer (some ⟨b, 0, none⟩)] 23)) 39 #[.int .u32 x]
  rw [World.size_alloc] at hp1
  have hB := ((Below.refl w.heap.size w).alloc (Nat.le_refl _) (.cells #[.pointer (some ⟨b, 0, none⟩)] 23)).alloc (by simp) (.cells #[.int .u32 x] 39)
  have hsz := hB.size
  have hol := h.body.lt
  clear h
  go_enter Try.func31, Try.ntmps31
  go_wp2_with fail
  generalize (w.alloc (.cells #[.pointer (some ⟨b, 0, none⟩)] 23)).alloc (.cells #[.int .u32 x] 39) = W at *
  have hen := enters_of Try.func64 (by kernel_rfl) rfl
  have q0 := (hp0.alloc (.cells #[.int .i64 0] 27)).cell 0
  have q1 := (hp1.alloc (.cells #[.int .i64 0] 27)).cell 0
  simp only [List.getElem?_toArray, List.getElem?_cons_zero] at q0 q1
  by_cases hn : 16777216 < s.n + 4
  · have hdo : Calls Try.prog 64 #[.pointer (some ⟨w.heap.size, 0, none⟩), .pointer (some ⟨w.heap.size + 1, 0, none⟩)] (W.alloc (.cells #[.int .i64 0] 27)) fun e w' => e = fault 4 ∧ Below (W.heap.size + 1) (W.alloc (.cells #[.int .i64 0] 27)) w' := by
      have HP := Lib.hid (put_no_uint32 b x v s _ (h1.alloc (.cells #[.int .i64 0] 27)) hn)
      generalize W.alloc (.cells #[.int .i64 0] 27) = V at *
      clear hn h1 hmf hp0 hp1 hB hsz hol hen
      go_enter Try.func64, Try.ntmps64
      go_wp2_with fail
      refine HP.out.mono ?_
      rintro e w' ⟨rfl, rfl⟩
      unfold fault
      go_wp2_with fail
      exact ⟨rfl, by rfl, Below.refl _ _⟩
    have HA := Lib.hid (wattempt_no W h1 he hen hdo)
    clear hdo hen q0 q1 h1 hp0 hp1
    refine HA.out.mono ?_
    rintro e w' ⟨rfl, h2, h3⟩
    clear HA
    go_wp2_with fail
    go_end0
    exact ⟨rfl, v, by unfold St.putW; rw [if_pos hn]; exact h2, (Only2.of_below hB).trans h3 (.inl rfl), NewOwn.refl _ _⟩
  · have hdo : Calls Try.prog 64 #[.pointer (some ⟨w.heap.size, 0, none⟩), .pointer (some ⟨w.heap.size + 1, 0, none⟩)] (W.alloc (.cells #[.int .i64 0] 27)) fun e w' => e = .returned (.tuple #[]) ∧ ∃ v', Wr w' b v' (s.put 4 (byteAt x)) ∧ Only2 b v.ownBlock (W.alloc (.cells #[.int .i64 0] 27)) w' ∧ NewOwn v v' (W.alloc (.cells #[.int .i64 0] 27)) := by
      have HP := Lib.hid (put_ok_uint32 b x v s _ (h1.alloc (.cells #[.int .i64 0] 27)) hx (by omega))
      generalize W.alloc (.cells #[.int .i64 0] 27) = V at *
      clear hn h1 hmf hp0 hp1 hB hsz hol hen hx
      go_enter Try.func64, Try.ntmps64
      go_wp2_with fail
      refine HP.out.mono ?_
      rintro e w' ⟨rfl, h2⟩
      clear HP
      go_wp2_with fail
      go_end0
      exact ⟨rfl, h2⟩
    have HA := Lib.hid (wattempt_ok W h1 he (show (s.put 4 (byteAt x)).e = 0 from he) hen hdo)
    clear hdo hen q0 q1 h1 hp0 hp1
    refine HA.out.mono ?_
    rintro e w' ⟨rfl, v', h2, h3, h4⟩
    clear HA
    go_wp2_with fail
    go_end0
    exact ⟨rfl, v', by unfold St.putW; rw [if_neg hn]; exact h2, (Only2.of_below hB).trans h3 (.inl rfl), h4.imp id (fun h y hy => Nat.le_trans hsz (h y hy))⟩
theorem put_no_uint64 (b x : Nat) (v : Value) (s : St) (w : World) (h : Wr w b v s) (hn : 16777216 < s.n + 8) :
    Calls Try.prog 67 #[.pointer (some ⟨b, 0, none⟩), .int .u64 x] w fun e w' => e = fault 4 ∧ w' = w := by
  have HR := Lib.hid (room_no b 8 v s w h (by decide) hn)
  clear h hn
  go_enter Try.func67, Try.ntmps67
  go_wp2_with (go_at_call 89; refine (size_uint64 _).mono ?_; rintro e w' ⟨rfl, rfl⟩)
  refine HR.out.mono ?_
  rintro e w' ⟨rfl, rfl⟩
  unfold fault
  go_wp2_with fail
  exact ⟨rfl, by rfl, rfl⟩
theorem put_ok_uint64 (b x : Nat) (v : Value) (s : St) (w : World) (h : Wr w b v s) (hx : x < 18446744073709551616) (hn : s.n + 8 ≤ 16777216) :
    Calls Try.prog 67 #[.pointer (some ⟨b, 0, none⟩), .int .u64 x] w fun e w' => e = .returned (.tuple #[]) ∧ ∃ v', Wr w' b v' (s.put 8 (byteAt x)) ∧ Only2 b v.ownBlock w w' ∧ NewOwn v v' w := by
  have HR := Lib.hid (room_ok b 8 v s w h (by decide) hn)
  clear h
  replace hx := Lib.hid hx
  replace hn := Lib.hid hn
  go_enter Try.func67, Try.ntmps67
  go_wp2_with (go_at_call 89; refine (size_uint64 _).mono ?_; rintro e w' ⟨rfl, rfl⟩)
  refine HR.out.mono ?_
  rintro e w1 ⟨g, cap, rfl, hW, hO, hg⟩
  obtain ⟨cs, hcs, hsz, _, hcap, _, _⟩ := hW.cs
  have HL := Lib.hid (lay_uint64 g s.n 8 (cap - s.n) x cs w1 hcs hx.out (by decide) (by omega))
  clear HR
  go_wp2_with fail
  refine HL.out.mono ?_
  rintro e w2 ⟨rfl, hL⟩
  have hW2 := hW.laid hcs hL (Nat.le_refl _)
  have hO2 := hO.trans (Only2.laid (b := b) hL) (hg.imp id (fun h y hy => by injection hy with hy; omega))
  clear HL
  go_wp2_with fail
  go_end0
  refine ⟨rfl, _, hW2.congr rfl rfl rfl rfl (fun i hi => ?_), hO2, hg.imp (fun h => h) (fun h y hy => Nat.le_trans h (Nat.le_of_eq (by simpa [Value.ownBlock] using hy)))⟩
  simp only [St.put, over, zeroed]
  by_cases hin : i < s.n
  · rw [if_pos hin, if_neg (by omega), if_pos hin]
  · rw [if_neg hin, if_pos ⟨by omega, hi⟩]
end Go.Proofs.Ytacnmnodbmbplaa
