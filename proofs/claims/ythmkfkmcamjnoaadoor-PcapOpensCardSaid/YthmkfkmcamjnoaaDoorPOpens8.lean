/-
  PROVED HERE (the walk): the statement PcapOpens: what any bytes are opened as, and the header of any file, are the document's.
-/
import Derived.Test.YthmkfkmcamjnoaaDoorPKnown8
import Derived.Test.YthmkfkmcamjnoaaDoorPROpen8
import Derived.Test.YthmkfkmcamjnoaaDoorZeros
namespace Go.Proofs.YthmkfkmcamjnoaaDoor
open Go.RowKit Go.Sort
set_option maxRecDepth 100000
theorem wpAnyH_mono {P : Program} {md : Region.Mode} {ops : Array Oper} {Q : Exit → Act → World → Prop} {S T : World → Prop} (h : ∀ w, T w → S w) : ∀ (fuel : Nat) (listed : Array Bool) (a : Act) (w : World), wpAnyH P md ops Q T fuel listed a w → wpAnyH P md ops Q S fuel listed a w
  | 0, _, _, _, k => k
  | fuel + 1, _, _, _, k => ⟨k.1, fun i hi => wpOp_mono (fun a' w' hw => ⟨h _ hw.1, wpAnyH_mono h fuel _ a' w' hw.2⟩) (k.2 i hi)⟩
theorem castP {P : Program} {md : Region.Mode} {ops : Array Oper} {Q : Exit → Act → World → Prop} {S : World → Prop} {fuel : Nat} {listed : Array Bool} {ts ts' : List Value} {df : List _} {o : Option Tmp} {d : Nat} {v : Value} {w : World} (hd : o = some d) (hts : ts.set d v = ts')
    (h : wpAnyH P md ops Q S fuel listed ⟨ts'.toArray, df⟩ w) : wpAnyH P md ops Q S fuel listed (Act.put ⟨ts.toArray, df⟩ o v) w := by
  subst hd hts
  simpa [Act.put] using h
theorem below_cell {w w' : World} {p : Addr} {v : Value} (hb : Below w.heap.size w w') (h : w.cell? p = some v) : w'.cell? p = some v := by
  rw [hb.cell (block_lt_of_cell h)]; exact h
theorem r_den (b : Bool) (w : World) : Calls Tryd.prog 13 #[.bool b] w fun e w' => e = .returned (.int .u64 (den b)) ∧ w = w' := by
  cases b
  all_goals
    go_enter Tryd.func13, Tryd.ntmps13
    go_wp2
    go_ret
    exact ⟨rfl, rfl⟩
/-- What the probe is: the first four bytes, and zeros behind. -/
def probe (l : List UInt8) : List UInt8 := l.take (min l.length 4) ++ List.replicate 20 0
theorem probe_length (l : List UInt8) : (probe l).length = min l.length 4 + 20 := by unfold probe; simp
theorem probe_le (l : List UInt8) : (probe l).length ≤ 24 := by rw [probe_length]; omega
theorem probe_which (l : List UInt8) (h : 4 ≤ l.length) : which (probe l) = which l := by
  unfold probe
  rw [Nat.min_eq_right h]
  exact which_first l _ h
theorem open_nil (q : List UInt8) : ((openS q).2 = 120) ↔ which q = none := by
  unfold openS
  cases h : which q with
  | none => simp
  | some p =>
    obtain ⟨a, b⟩ := p
    simp only
    split
    · simp
    · split <;> simp
/-- What Magic tells, and what the probe tells. -/
theorem magic_cases (l : List UInt8) : (l.length < 4 ∧ magicS l = ((false, false), false)) ∨ (4 ≤ l.length ∧ magicS l = ((false, false), false) ∧ (openS (probe l)).2 = 120) ∨
    (∃ x y, 4 ≤ l.length ∧ magicS l = ((x, y), true) ∧ (openS (probe l)).2 ≠ 120 ∧ l.take 4 = magicL x y) := by
  by_cases h : 4 ≤ l.length
  · right
    cases hw : which l with
    | none =>
      left
      exact ⟨h, by unfold magicS; rw [if_pos h, hw], (open_nil _).2 (by rw [probe_which l h, hw])⟩
    | some p =>
      right
      obtain ⟨x, y⟩ := p
      refine ⟨x, y, h, by unfold magicS; rw [if_pos h, hw], fun e => ?_, (which_take l h x y hw).symm⟩
      have := (open_nil _).1 e
      rw [probe_which l h, hw] at this
      cases this
  · left
    exact ⟨by omega, by unfold magicS; rw [if_neg h]⟩
/-- What stays: the struct that came in, the variables. -/
def FoSt (w wr : World) (fo : Obj) : Prop := KeepP w wr ∧ wr.heap[w.heap.size]? = some fo
theorem FoSt.on {w wr w2 : World} {fo : Obj} (h : FoSt w wr fo) (hb : Below wr.heap.size wr w2) : FoSt w w2 fo := ⟨h.1.on hb, keepRow h.2 hb⟩
set_option maxHeartbeats 4000000 in
theorem pcapOpens_small (a b : Bool) (k s : Nat) (v : Value) (l : List UInt8) (hf : k < 65536 ∧ s < 4294967296) (w : World) (hE : EnvP w) (hB : Byt w v l) (hl : l.length ≤ 300) :
    Calls Tryd.prog 3 #[v, (.agg #[.bool a, .bool b, .int .u16 k, .int .u32 s])] w fun e w' => e = .returned (.bool true) ∧ Below w.heap.size w w' := by
  have TO := Lib.hid (fun w hB hM => t_open v l w hB hM (by omega))
  have RO := Lib.hid (fun w hB => r_open v l w hB (by omega))
  have TB := Lib.hid (fun w => t_bytes a b k s hf.1 hf.2 w)
  have RB := Lib.hid (fun w => r_bytes a b k s hf.1 hf.2 w)
  have TD := Lib.hid (fun w => t_den a b k s w)
  have RD := Lib.hid (fun w => r_den b w)
  have TM := Lib.hid (fun w hB => t_magic v l w hB (by omega))
  have R2 := Lib.hid (fun v w hB => r_open v (probe l) w hB (by have := probe_le l; omega))
  have HB := Lib.hid hB
  have HC := magic_cases l
  obtain ⟨⟨⟨f0, f1, f2, f3⟩, fn⟩, hfo⟩ : ∃ o, o = openS l := ⟨_, rfl⟩
  obtain ⟨⟨⟨e0, e1, e2, e3⟩, en⟩, heo⟩ : ∃ o, o = openS (probe l) := ⟨_, rfl⟩
  obtain ⟨⟨⟨m0, m1⟩, mo⟩, hmo⟩ : ∃ o, o = magicS l := ⟨_, rfl⟩
  rw [← hfo] at TO RO
  rw [← heo] at R2 HC
  rw [← hmo] at TM HC
  unfold fileV at TO RO R2
  simp only at TO RO R2 TM HC
  clear hfo heo hmo
  obtain ⟨ad, c, rfl, hc, hA⟩ := hB.open
  have HA := Lib.hid hA
  have LB : (bytesS a b k s).length = 24 := bytesS_length _ _ _ _
  have g3 : decide ((300 : Int) < (l.length : Nat)) = false := by simp; omega
  obtain ⟨fo, hfo⟩ : ∃ o, o = Obj.cells #[.bool a, .bool b, .int .u16 k, .int .u32 s] 26 (0, 0) := ⟨_, rfl⟩
  have S0 := Lib.hid (show FoSt w (w.alloc fo) fo from ⟨(show KeepP w w from ⟨hE, Below.refl _ _⟩).alloc fo, row_new w fo rfl⟩)
  have HL := Lib.hid hl
  obtain ⟨n, hn⟩ : ∃ n, n = l.length := ⟨_, rfl⟩
  have HN := Lib.hid hn
  rw [← hn] at g3 HB hc HL HC hl TO RO TM ⊢
  generalize den b = dn at *
  clear hn hE hB hA
  go_enter Tryd.func3, Tryd.ntmps3
  go_upto_region 1 with fail
  rw [← hfo]
  generalize w.alloc fo = u0 at *
  rw [hfo] at S0
  clear hfo
  go_upto_region 5 with (go_at_call 7; refine (t_known _ S0.out.1.1).mono ?_; rintro e u1 ⟨rfl, hb⟩; have S1 := Lib.hid (S0.out.on hb); clear hb S0)
  go_upto_region 6 with (go_at_call 8; refine (TO.out _ (HB.out.on S1.out.1.2) S1.out.1.1.2).mono ?_; rintro e u2 ⟨rfl, hb⟩; have S2 := Lib.hid (S1.out.on hb); clear hb S1)
  have S3 := Lib.hid (S2.out.on (below_alloc u2 (.cells #[.bool f0, .bool f1, .int .u16 f2, .int .u32 f3] 26)))
  have G3 := Lib.hid (row_new u2 (.cells #[.bool f0, .bool f1, .int .u16 f2, .int .u32 f3] 26) rfl)
  clear S2
  generalize u2.alloc (.cells #[.bool f0, .bool f1, .int .u16 f2, .int .u32 f3] 26) = u3 at *
  generalize u2.heap.size = q1 at *
  go_upto_region 7 with (go_at_call 9; refine (RO.out _ (HB.out.on S3.out.1.2)).mono ?_; rintro e u4 ⟨rfl, hb⟩; have S4 := Lib.hid (S3.out.on hb); have G4 := Lib.hid (keepRow G3.out hb); clear hb S3 G3)
  have S5 := Lib.hid (S4.out.on (below_alloc u4 (.cells #[.bool f0, .bool f1, .int .u16 f2, .int .u32 f3] 31)))
  have G5 := Lib.hid (keepRow G4.out (below_alloc u4 (.cells #[.bool f0, .bool f1, .int .u16 f2, .int .u32 f3] 31)))
  have K5 := Lib.hid (row_new u4 (.cells #[.bool f0, .bool f1, .int .u16 f2, .int .u32 f3] 31) rfl)
  clear S4 G4
  generalize u4.alloc (.cells #[.bool f0, .bool f1, .int .u16 f2, .int .u32 f3] 31) = u5 at *
  generalize u4.heap.size = q2 at *
  obtain ⟨⟨c0, c1, c2, c3⟩, _⟩ := row4 S5.out.2
  obtain ⟨⟨d0, d1, d2, d3⟩, _⟩ := row4 G5.out
  obtain ⟨⟨h0, h1, h2, h3⟩, _⟩ := row4 K5.out
  -- from here on: tools/gen8p.py
  obtain ⟨S, hS0⟩ : ∃ S : World → Prop, S = (fun W' => (W'.cell? ⟨w.heap.size, 0, none⟩ = some (.bool a) ∧ W'.cell? ⟨w.heap.size, 1, none⟩ = some (.bool b) ∧ W'.cell? ⟨w.heap.size, 2, none⟩ = some (.int .u16 k) ∧ W'.cell? ⟨w.heap.size, 3, none⟩ = some (.int .u32 s)) ∧ (W'.cell? ⟨q1, 0, none⟩ = some (.bool f0) ∧ W'.cell? ⟨q1, 1, none⟩ = some (.bool f1) ∧ W'.cell? ⟨q1, 2, none⟩ = some (.int .u16 f2) ∧ W'.cell? ⟨q1, 3, none⟩ = some (.int .u32 f3)) ∧ W'.cell? ⟨q2, 0, none⟩ = some (.bool f0) ∧ W'.cell? ⟨q2, 1, none⟩ = some (.bool f1) ∧ W'.cell? ⟨q2, 2, none⟩ = some (.int .u16 f2) ∧ W'.cell? ⟨q2, 3, none⟩ = some (.int .u32 f3)) := ⟨_, rfl⟩
  have SX := Lib.hid (fun W' => show S W' ↔ _ from by rw [hS0])
  have SI := Lib.hid (show ∀ W' W2, S W' → Below W'.heap.size W' W2 → S W2 from fun W' W2 h hb => by
    rw [hS0] at h ⊢
    obtain ⟨⟨a0, a1, a2, a3⟩, ⟨b0, b1, b2, b3⟩, z0, z1, z2, z3⟩ := h
    exact ⟨⟨below_cell hb a0, below_cell hb a1, below_cell hb a2, below_cell hb a3⟩, ⟨below_cell hb b0, below_cell hb b1, below_cell hb b2, below_cell hb b3⟩, below_cell hb z0, below_cell hb z1, below_cell hb z2, below_cell hb z3⟩)
  refine wp_region_held_drew (S := S) (by kernel_rfl) (by rw [hS0]; exact ⟨⟨c0, c1, c2, c3⟩, ⟨d0, d1, d2, d3⟩, h0, h1, h2, h3⟩) (fun hHeld => ?_)
  clear c0 c1 c2 c3 d0 d1 d2 d3 h0 h1 h2 h3 hS0
  refine wpAnyH_take (i := 0) (v := .agg #[.bool f0, .bool f1, .int .u16 f2, .int .u32 f3]) rfl (by kernel_rfl) (by kernel_rfl) (by kernel_rfl) (fun _ _ _ h => h) (Or.inl ⟨by rfl, ?_⟩) (by assumption) ?_
  · intro W' hS; obtain ⟨⟨c0, c1, c2, c3⟩, ⟨d0, d1, d2, d3⟩, h0, h1, h2, h3⟩ := (SX.out W').1 hS; go_simp
  refine castP (d := 29) rfl (by simp only [List.set_cons_succ, List.set_cons_zero]; exact rfl) ?_
  refine wpAnyH_take (i := 1) (v := .agg #[.bool f0, .bool f1, .int .u16 f2, .int .u32 f3]) rfl (by kernel_rfl) (by kernel_rfl) (by kernel_rfl) (fun _ _ _ h => h) (Or.inl ⟨by rfl, ?_⟩) (by assumption) ?_
  · intro W' hS; obtain ⟨⟨c0, c1, c2, c3⟩, ⟨d0, d1, d2, d3⟩, h0, h1, h2, h3⟩ := (SX.out W').1 hS; go_simp
  refine castP (d := 30) rfl (by simp only [List.set_cons_succ, List.set_cons_zero]; exact rfl) ?_
  refine wpAnyH_take (i := 2) (v := .bool false) rfl (by kernel_rfl) (by kernel_rfl) (by kernel_rfl) (fun _ _ _ h => h) (Or.inl ⟨by rfl, ?_⟩) (by assumption) ?_
  · intro W' hS; obtain ⟨⟨c0, c1, c2, c3⟩, ⟨d0, d1, d2, d3⟩, h0, h1, h2, h3⟩ := (SX.out W').1 hS; go_simp
  refine castP (d := 31) rfl (by simp only [List.set_cons_succ, List.set_cons_zero]; exact rfl) ?_
  refine wpAnyH_take (i := 3) (v := .bool false) rfl (by kernel_rfl) (by kernel_rfl) (by kernel_rfl) (fun _ _ _ h => h) (Or.inl ⟨by rfl, ?_⟩) (by assumption) ?_
  · intro W' hS; obtain ⟨⟨c0, c1, c2, c3⟩, ⟨d0, d1, d2, d3⟩, h0, h1, h2, h3⟩ := (SX.out W').1 hS; go_simp
  refine castP (d := 32) rfl (by simp only [List.set_cons_succ, List.set_cons_zero]; exact rfl) ?_
  refine wpAnyH_take (i := 4) (v := .int .i64 fn) rfl (by kernel_rfl) (by kernel_rfl) (by kernel_rfl) (fun _ _ _ h => h) (Or.inl ⟨by rfl, ?_⟩) (by assumption) ?_
  · intro W' hS; obtain ⟨⟨c0, c1, c2, c3⟩, ⟨d0, d1, d2, d3⟩, h0, h1, h2, h3⟩ := (SX.out W').1 hS; go_simp
  refine castP (d := 33) rfl (by simp only [List.set_cons_succ, List.set_cons_zero]; exact rfl) ?_
  refine wpAnyH_take (i := 5) (v := .int .i64 fn) rfl (by kernel_rfl) (by kernel_rfl) (by kernel_rfl) (fun _ _ _ h => h) (Or.inl ⟨by rfl, ?_⟩) (by assumption) ?_
  · intro W' hS; obtain ⟨⟨c0, c1, c2, c3⟩, ⟨d0, d1, d2, d3⟩, h0, h1, h2, h3⟩ := (SX.out W').1 hS; go_simp
  refine castP (d := 34) rfl (by simp only [List.set_cons_succ, List.set_cons_zero]; exact rfl) ?_
  refine wpAnyH_take (i := 6) (v := .bool false) rfl (by kernel_rfl) (by kernel_rfl) (by kernel_rfl) (fun _ _ _ h => h) (Or.inl ⟨by rfl, ?_⟩) (by assumption) ?_
  · intro W' hS; obtain ⟨⟨c0, c1, c2, c3⟩, ⟨d0, d1, d2, d3⟩, h0, h1, h2, h3⟩ := (SX.out W').1 hS; go_simp
  refine castP (d := 35) rfl (by simp only [List.set_cons_succ, List.set_cons_zero]; exact rfl) ?_
  refine wpAnyH_take (i := 7) (v := .bool false) rfl (by kernel_rfl) (by kernel_rfl) (by kernel_rfl) (fun _ _ _ h => h) (Or.inl ⟨by rfl, ?_⟩) (by assumption) ?_
  · intro W' hS; obtain ⟨⟨c0, c1, c2, c3⟩, ⟨d0, d1, d2, d3⟩, h0, h1, h2, h3⟩ := (SX.out W').1 hS; go_simp
  refine castP (d := 36) rfl (by simp only [List.set_cons_succ, List.set_cons_zero]; exact rfl) ?_
  refine wpAnyH_take (i := 8) (v := .bool false) rfl (by kernel_rfl) (by kernel_rfl) (by kernel_rfl) (fun _ _ _ h => h) (Or.inl ⟨by rfl, ?_⟩) (by assumption) ?_
  · intro W' hS; obtain ⟨⟨c0, c1, c2, c3⟩, ⟨d0, d1, d2, d3⟩, h0, h1, h2, h3⟩ := (SX.out W').1 hS; go_simp
  refine castP (d := 37) rfl (by simp only [List.set_cons_succ, List.set_cons_zero]; exact rfl) ?_
  refine wpAnyH_take (i := 9) (v := (.agg #[.bool a, .bool b, .int .u16 k, .int .u32 s])) rfl (by kernel_rfl) (by kernel_rfl) (by kernel_rfl) (fun _ _ _ h => h) (Or.inl ⟨by rfl, ?_⟩) (by assumption) ?_
  · intro W' hS; obtain ⟨⟨c0, c1, c2, c3⟩, ⟨d0, d1, d2, d3⟩, h0, h1, h2, h3⟩ := (SX.out W').1 hS; go_simp
  refine castP (d := 38) rfl (by simp only [List.set_cons_succ, List.set_cons_zero]; exact rfl) ?_
  refine wpAnyH_take (i := 12) (v := (.agg #[.bool a, .bool b, .int .u16 k, .int .u32 s])) rfl (by kernel_rfl) (by kernel_rfl) (by kernel_rfl) (fun _ _ _ h => h) (Or.inl ⟨by rfl, ?_⟩) (by assumption) ?_
  · intro W' hS; obtain ⟨⟨c0, c1, c2, c3⟩, ⟨d0, d1, d2, d3⟩, h0, h1, h2, h3⟩ := (SX.out W').1 hS; go_simp
  refine castP (d := 41) rfl (by simp only [List.set_cons_succ, List.set_cons_zero]; exact rfl) ?_
  refine wpAnyH_ready (rs := [10]) (by kernel_rfl) (by simp) ?_
  refine AllReadyH.cons rfl (fun K hK => ?_) AllReadyH.nil
  go_simp
  go_at_call 10
  refine (TB.out _).mono ?_
  rintro e u6 ⟨v6, rfl, hY, hb0⟩
  have hb := Below.trans (Below.refl u5.heap.size _).drew (hb0.mono (by simp))
  have S6 := Lib.hid (S5.out.on hb)
  have Y6 := Lib.hid hY
  obtain ⟨a6, n6, d6, rfl⟩ := hY.slice
  refine hK.out _ _ (SI.out _ _ hHeld hb0) (fun hHeld => ?_)
  clear hK K hY
  have CQ := Lib.hid (show ∀ W', Byt W' (.slice a6 n6 d6) (bytesS a b k s) → (convert 22 9 (.slice a6 n6 d6)).run Tryd.prog W' = .ok (.string ⟨(bytesS a b k s).toArray⟩) W' from fun W' h => conv_bytes h.bytes)
  refine wpAnyH_mono (T := fun W' => S W' ∧ Byt W' (.slice a6 n6 d6) (bytesS a b k s)) (fun _ h => h.1) _ _ _ _ ?_
  have hHeld2 : S u6 ∧ Byt u6 (.slice a6 n6 d6) (bytesS a b k s) := ⟨hHeld, Y6.out⟩
  refine wpAnyH_take (i := 11) (v := .string ⟨(bytesS a b k s).toArray⟩) rfl (by kernel_rfl) (by kernel_rfl) (by kernel_rfl) (fun _ _ _ h => h) (Or.inl ⟨by rfl, ?_⟩) (by assumption) ?_
  · intro W' hS; have cv := CQ.out W' hS.2; go_simp
  refine castP (d := 40) rfl (by simp only [List.set_cons_succ, List.set_cons_zero]; exact rfl) ?_
  refine wpAnyH_ready (rs := [13]) (by kernel_rfl) (by simp) ?_
  refine AllReadyH.cons rfl (fun K hK => ?_) AllReadyH.nil
  go_simp
  go_at_call 11
  refine (RB.out _).mono ?_
  rintro e u7 ⟨v7, rfl, hY, hb1⟩
  have S7 := Lib.hid (S6.out.on hb1)
  have G7 := Lib.hid (keepRow (keepRow G5.out hb) hb1)
  have Y7 := Lib.hid hY
  obtain ⟨a7, n7, d7, rfl⟩ := hY.slice
  refine hK.out _ _ ⟨SI.out _ _ hHeld hb1, Y6.out.on hb1⟩ (fun hHeld3 => ?_)
  clear hK K hY CQ
  have CQ := Lib.hid (show ∀ W', Byt W' (.slice a7 n7 d7) (bytesS a b k s) → (convert 22 9 (.slice a7 n7 d7)).run Tryd.prog W' = .ok (.string ⟨(bytesS a b k s).toArray⟩) W' from fun W' h => conv_bytes h.bytes)
  refine wpAnyH_mono (T := fun W' => (S W' ∧ Byt W' (.slice a6 n6 d6) (bytesS a b k s)) ∧ Byt W' (.slice a7 n7 d7) (bytesS a b k s)) (fun _ h => h.1) _ _ _ _ ?_
  have hHeld4 : (S u7 ∧ Byt u7 (.slice a6 n6 d6) (bytesS a b k s)) ∧ Byt u7 (.slice a7 n7 d7) (bytesS a b k s) := ⟨hHeld3, Y7.out⟩
  refine wpAnyH_take (i := 14) (v := .string ⟨(bytesS a b k s).toArray⟩) rfl (by kernel_rfl) (by kernel_rfl) (by kernel_rfl) (fun _ _ _ h => h) (Or.inl ⟨by rfl, ?_⟩) (by assumption) ?_
  · intro W' hS; have cv := CQ.out W' hS.2; go_simp
  refine castP (d := 43) rfl (by simp only [List.set_cons_succ, List.set_cons_zero]; exact rfl) ?_
  refine wpAnyH_take (i := 15) (v := .bool false) rfl (by kernel_rfl) (by kernel_rfl) (by kernel_rfl) (fun _ _ _ h => h) (Or.inl ⟨by rfl, ?_⟩) (by assumption) ?_
  · intro W' hS; obtain ⟨⟨c0, c1, c2, c3⟩, ⟨d0, d1, d2, d3⟩, h0, h1, h2, h3⟩ := (SX.out W').1 hS.1.1; go_simp
  refine castP (d := 44) rfl (by simp only [List.set_cons_succ, List.set_cons_zero]; exact rfl) ?_
  refine wpAnyH_take (i := 16) (v := .bool false) rfl (by kernel_rfl) (by kernel_rfl) (by kernel_rfl) (fun _ _ _ h => h) (Or.inl ⟨by rfl, ?_⟩) (by assumption) ?_
  · intro W' hS; obtain ⟨⟨c0, c1, c2, c3⟩, ⟨d0, d1, d2, d3⟩, h0, h1, h2, h3⟩ := (SX.out W').1 hS.1.1; go_simp
  refine castP (d := 45) rfl (by simp only [List.set_cons_succ, List.set_cons_zero]; exact rfl) ?_
  refine wpAnyH_take (i := 17) (v := .bool false) rfl (by kernel_rfl) (by kernel_rfl) (by kernel_rfl) (fun _ _ _ h => h) (Or.inl ⟨by rfl, ?_⟩) (by assumption) ?_
  · intro W' hS; obtain ⟨⟨c0, c1, c2, c3⟩, ⟨d0, d1, d2, d3⟩, h0, h1, h2, h3⟩ := (SX.out W').1 hS.1.1; go_simp
  refine castP (d := 46) rfl (by simp only [List.set_cons_succ, List.set_cons_zero]; exact rfl) ?_
  refine wpAnyH_take (i := 18) (v := (.agg #[.bool a, .bool b, .int .u16 k, .int .u32 s])) rfl (by kernel_rfl) (by kernel_rfl) (by kernel_rfl) (fun _ _ _ h => h) (Or.inl ⟨by rfl, ?_⟩) (by assumption) ?_
  · intro W' hS; obtain ⟨⟨c0, c1, c2, c3⟩, ⟨d0, d1, d2, d3⟩, h0, h1, h2, h3⟩ := (SX.out W').1 hS.1.1; go_simp
  refine castP (d := 47) rfl (by simp only [List.set_cons_succ, List.set_cons_zero]; exact rfl) ?_
  refine wpAnyH_take (i := 20) (v := .pointer (some ⟨w.heap.size, 1, none⟩)) rfl (by kernel_rfl) (by kernel_rfl) (by kernel_rfl) (fun _ _ _ h => h) (Or.inl ⟨by rfl, ?_⟩) (by assumption) ?_
  · intro W' hS; obtain ⟨⟨c0, c1, c2, c3⟩, ⟨d0, d1, d2, d3⟩, h0, h1, h2, h3⟩ := (SX.out W').1 hS.1.1; go_simp
  refine castP (d := 49) rfl (by simp only [List.set_cons_succ, List.set_cons_zero]; exact rfl) ?_
  refine wpAnyH_take (i := 21) (v := .bool b) rfl (by kernel_rfl) (by kernel_rfl) (by kernel_rfl) (fun _ _ _ h => h) (Or.inl ⟨by rfl, ?_⟩) (by assumption) ?_
  · intro W' hS; obtain ⟨⟨c0, c1, c2, c3⟩, ⟨d0, d1, d2, d3⟩, h0, h1, h2, h3⟩ := (SX.out W').1 hS.1.1; go_simp
  refine castP (d := 50) rfl (by simp only [List.set_cons_succ, List.set_cons_zero]; exact rfl) ?_
  refine wpAnyH_ready (rs := [19]) (by kernel_rfl) (by simp) ?_
  refine AllReadyH.cons rfl (fun K hK => ?_) AllReadyH.nil
  go_simp
  go_at_call 12
  refine (TD.out _).mono ?_
  rintro e u8 ⟨rfl, hb2⟩
  have S8 := Lib.hid (S7.out.on hb2)
  refine hK.out _ _ ⟨⟨SI.out _ _ hHeld4.1.1 hb2, Y6.out.on (hb1.trans (hb2.mono hb1.size))⟩, Y7.out.on hb2⟩ (fun hHeld5 => ?_)
  clear hK K
  refine wpAnyH_ready (rs := [22]) (by kernel_rfl) (by simp) ?_
  refine AllReadyH.cons rfl (fun K hK => ?_) AllReadyH.nil
  go_simp
  go_at_call 13
  refine (RD.out _).mono ?_
  rintro e u9 ⟨rfl, rfl⟩
  refine hK.out _ _ hHeld5 (fun hHeld6 => ?_)
  clear hK K
  refine wpAnyH_take (i := 23) (v := .bool false) rfl (by kernel_rfl) (by kernel_rfl) (by kernel_rfl) (fun _ _ _ h => h) (Or.inl ⟨by rfl, ?_⟩) (by assumption) ?_
  · intro W' hS; obtain ⟨⟨c0, c1, c2, c3⟩, ⟨d0, d1, d2, d3⟩, h0, h1, h2, h3⟩ := (SX.out W').1 hS.1.1; go_simp
  refine castP (d := 52) rfl (by simp only [List.set_cons_succ, List.set_cons_zero]; exact rfl) ?_
  refine wpAnyH_take (i := 24) (v := .bool false) rfl (by kernel_rfl) (by kernel_rfl) (by kernel_rfl) (fun _ _ _ h => h) (Or.inl ⟨by rfl, ?_⟩) (by assumption) ?_
  · intro W' hS; obtain ⟨⟨c0, c1, c2, c3⟩, ⟨d0, d1, d2, d3⟩, h0, h1, h2, h3⟩ := (SX.out W').1 hS.1.1; go_simp
  refine castP (d := 53) rfl (by simp only [List.set_cons_succ, List.set_cons_zero]; exact rfl) ?_
  refine wpAnyH_done (by kernel_rfl) ?_ _
  clear hHeld2 hHeld3 hHeld4 hHeld5 hHeld6 SX SI CQ Y6 Y7 S6 S7 G7 S5 G5 K5 hb hb0 hb1 hb2
  go_upto_region 9 with fail
  go_upto_region 10 with (go_at_call 14; refine (TM.out _ (HB.out.on S8.out.1.2)).mono ?_; rintro e v1 ⟨rfl, hb⟩; have S9 := Lib.hid (S8.out.on hb); clear hb S8)
  have S10 := Lib.hid (S9.out.on (below_alloc v1 (.cells #[.bool m0, .bool m1, .int .u16 0, .int .u32 0] 26)))
  have G10 := Lib.hid (row_new v1 (.cells #[.bool m0, .bool m1, .int .u16 0, .int .u32 0] 26) rfl)
  clear S9 TO RO TM TB RB TD RD LB
  generalize v1.alloc (.cells #[.bool m0, .bool m1, .int .u16 0, .int .u32 0] 26) = v2 at *
  generalize v1.heap.size = q3 at *
  have OE := Lib.hid (ownB_empty v2)
  rcases (show (min n 4 = n ∧ n ≤ 4 ∧ (4 < (n : Int)) = False) ∨ (min n 4 = 4 ∧ (4 < (n : Int)) = True ∧ (4 < n)) by
    by_cases h : n ≤ 4
    · left; refine ⟨by omega, h, by simp; omega⟩
    · right; refine ⟨by omega, by simp; omega, by omega⟩) with ⟨M, g1, g2⟩ | ⟨M, g1, g2⟩
  · have d1 : n ≤ c := by omega
    have mi : min (n : Int) 4 = n := by omega
    have PR := Lib.hid (show probe l = l.take n ++ List.replicate 20 0 by unfold probe; rw [← HN.out, M])
    have LT := Lib.hid (show n = (l.take n).length by rw [List.length_take, ← HN.out]; omega)
    go_wp2_with (at_builtin; refine wp_append_bytes rfl (.tmp 60) (.tmp 65) rfl v2 _ [] _ rfl OE.out ad (l.take n) n c LT.out rfl ((HA.out.upto n).on (S10.out.1.2.trans ((below_alloc v2 _).mono S10.out.1.2.size))) (by have := LT.out; simp; omega) ?_)
    intro v5 w5 hO
    have O5 := Lib.hid hO
    obtain ⟨a5, n5, d5, rfl⟩ := hO.slice
    clear hO
    go_wp2_with (at_builtin; refine wp_append_zeros rfl (.tmp 66) (.const (.int .i64 20)) rfl v2 _ _ _ rfl O5.out 20 rfl (by omega) (by omega) (by have := LT.out; simp; omega) ?_)
    intro v6 w6 hO
    have Y6 := Lib.hid (show Byt w6 v6 (probe l) from by rw [PR.out]; simpa using hO.byt)
    have S11 := Lib.hid (S10.out.on hO.below)
    have G11 := Lib.hid (keepRow G10.out hO.below)
    obtain ⟨a6, n6, d6, rfl⟩ := hO.slice
    clear hO O5 OE S10 G10
    go_wp2_with fail
    refine (R2.out _ _ Y6.out).mono ?_
    rintro e w7 ⟨rfl, hb⟩
    have S12 := Lib.hid (S11.out.on hb)
    have G12 := Lib.hid (keepRow G11.out hb)
    clear hb S11 G11 Y6
    go_upto_region 11 with fail
    have S13 := Lib.hid (S12.out.on (below_alloc w7 (.cells #[.bool e0, .bool e1, .int .u16 e2, .int .u32 e3] 31)))
    have G13 := Lib.hid (keepRow G12.out (below_alloc w7 (.cells #[.bool e0, .bool e1, .int .u16 e2, .int .u32 e3] 31)))
    clear S12 G12
    generalize w7.alloc (.cells #[.bool e0, .bool e1, .int .u16 e2, .int .u32 e3] 31) = w8 at *
    rcases HC with ⟨c4, h⟩ | ⟨c4, h, he⟩ | ⟨x, y, c4, h, he, hm⟩
    · simp only [Prod.mk.injEq] at h
      obtain ⟨⟨rfl, rfl⟩, rfl⟩ := h
      have q4 : ((4 : Int) ≤ (n : Nat)) = False := by simp; omega
      have q4' : (4 ≤ n) = False := by simp; omega
      obtain ⟨⟨x0, x1, x2, x3⟩, _⟩ := row4 G13.out
      go_upto_region 14 with fail
      refine wp_region_quiet_below (by kernel_rfl) (by kernel_rfl) ?_
      repeat (go_big_quiet_step (fail))
      (refine wpQuiet_nil ?_; intro _ hw'; obtain ⟨⟨dq, osq⟩, hw''⟩ := hw'; subst hw'')
      go_wp2
      go_ret
      exact ⟨rfl, S13.out.1.2.trans ((below_regrown w8 dq osq).mono S13.out.1.2.size)⟩
    · simp only [Prod.mk.injEq] at h
      obtain ⟨⟨rfl, rfl⟩, rfl⟩ := h
      have q4 : ((4 : Int) ≤ (n : Nat)) = True := by simp; omega
      have q4' : (4 ≤ n) = True := by simp; omega
      subst he
      obtain ⟨⟨x0, x1, x2, x3⟩, _⟩ := row4 G13.out
      go_upto_region 14 with fail
      refine wp_region_quiet_below (by kernel_rfl) (by kernel_rfl) ?_
      repeat (go_big_quiet_step (fail))
      (refine wpQuiet_nil ?_; intro _ hw'; obtain ⟨⟨dq, osq⟩, hw''⟩ := hw'; subst hw'')
      go_wp2
      go_ret
      exact ⟨rfl, S13.out.1.2.trans ((below_regrown w8 dq osq).mono S13.out.1.2.size)⟩
    · simp only [Prod.mk.injEq] at h
      obtain ⟨⟨rfl, rfl⟩, rfl⟩ := h
      have q4 : ((4 : Int) ≤ (n : Nat)) = True := by simp; omega
      have q4' : (4 ≤ n) = True := by simp; omega
      have ne : (((en : Int) != 120) : Bool) = true := by simp; omega
      have c4' : 4 ≤ c := by omega
      have TB := Lib.hid (fun w => t_bytes m0 m1 0 0 (by omega) (by omega) w)
      have LB : (bytesS m0 m1 0 0).length = 24 := bytesS_length _ _ _ _
      have EQ := Lib.hid (show (bytesS m0 m1 0 0).take 4 = l.take 4 by
        have e := bytesS_take4 m0 m1 0 0 4 (Nat.le_refl _) []
        rw [List.append_nil] at e
        rw [e, hm, List.take_of_length_le (by rw [magicL_length]; exact Nat.le_refl _)])
      have CL := Lib.hid (show ∀ W', BytA W' ad l → (convert 22 9 (.slice ad 4 c)).run Tryd.prog W' = .ok (.string ⟨(l.take 4).toArray⟩) W' from fun W' h => conv_bytes ((h.upto 4).byt (by rw [List.length_take, ← HN.out]; omega) c4').bytes)
      obtain ⟨⟨x0, x1, x2, x3⟩, _⟩ := row4 G13.out
      go_upto_region 14 with fail
      obtain ⟨S, hS0⟩ : ∃ S : World → Prop, S = (fun W' => (W'.cell? ⟨q3, 0, none⟩ = some (.bool m0) ∧ W'.cell? ⟨q3, 1, none⟩ = some (.bool m1) ∧ W'.cell? ⟨q3, 2, none⟩ = some (.int .u16 0) ∧ W'.cell? ⟨q3, 3, none⟩ = some (.int .u32 0)) ∧ BytA W' ad l) := ⟨_, rfl⟩
      have SX := Lib.hid (fun W' => show S W' ↔ _ from by rw [hS0])
      have SI := Lib.hid (show ∀ W' W2, S W' → Below W'.heap.size W' W2 → S W2 from fun W' W2 h hb => by
        rw [hS0] at h ⊢
        obtain ⟨⟨a0, a1, a2, a3⟩, zA⟩ := h
        exact ⟨⟨below_cell hb a0, below_cell hb a1, below_cell hb a2, below_cell hb a3⟩, zA.on hb⟩)
      refine wp_region_held_drew (S := S) (by kernel_rfl) (by rw [hS0]; exact ⟨⟨x0, x1, x2, x3⟩, (HA.out.on (S13.out.1.2.trans (Below.mono (Below.refl _ _).drew S13.out.1.2.size)))⟩) (fun hHeld => ?_)
      clear x0 x1 x2 x3 hS0
      refine wpAnyH_take (i := 0) (v := .bool true) rfl (by kernel_rfl) (by kernel_rfl) (by kernel_rfl) (fun _ _ _ h => h) (Or.inl ⟨by rfl, ?_⟩) (by assumption) ?_
      · intro W' hS; obtain ⟨⟨c0, c1, c2, c3⟩, cA⟩ := (SX.out W').1 hS; go_simp
      refine castP (d := 90) rfl (by simp only [List.set_cons_succ, List.set_cons_zero]; exact rfl) ?_
      refine wpAnyH_take (i := 1) (v := .bool false) rfl (by kernel_rfl) (by kernel_rfl) (by kernel_rfl) (fun _ _ _ h => h) (Or.inl ⟨by rfl, ?_⟩) (by assumption) ?_
      · intro W' hS; obtain ⟨⟨c0, c1, c2, c3⟩, cA⟩ := (SX.out W').1 hS; go_simp
      refine castP (d := 91) rfl (by simp only [List.set_cons_succ, List.set_cons_zero]; exact rfl) ?_
      refine wpAnyH_take (i := 2) (v := .bool false) rfl (by kernel_rfl) (by kernel_rfl) (by kernel_rfl) (fun _ _ _ h => h) (Or.inl ⟨by rfl, ?_⟩) (by assumption) ?_
      · intro W' hS; obtain ⟨⟨c0, c1, c2, c3⟩, cA⟩ := (SX.out W').1 hS; go_simp
      refine castP (d := 92) rfl (by simp only [List.set_cons_succ, List.set_cons_zero]; exact rfl) ?_
      refine wpAnyH_take (i := 3) (v := .pointer (some ⟨q3, 2, none⟩)) rfl (by kernel_rfl) (by kernel_rfl) (by kernel_rfl) (fun _ _ _ h => h) (Or.inl ⟨by rfl, ?_⟩) (by assumption) ?_
      · intro W' hS; obtain ⟨⟨c0, c1, c2, c3⟩, cA⟩ := (SX.out W').1 hS; go_simp
      refine castP (d := 93) rfl (by simp only [List.set_cons_succ, List.set_cons_zero]; exact rfl) ?_
      refine wpAnyH_take (i := 4) (v := .int .u16 0) rfl (by kernel_rfl) (by kernel_rfl) (by kernel_rfl) (fun _ _ _ h => h) (Or.inl ⟨by rfl, ?_⟩) (by assumption) ?_
      · intro W' hS; obtain ⟨⟨c0, c1, c2, c3⟩, cA⟩ := (SX.out W').1 hS; go_simp
      refine castP (d := 94) rfl (by simp only [List.set_cons_succ, List.set_cons_zero]; exact rfl) ?_
      refine wpAnyH_take (i := 5) (v := .bool true) rfl (by kernel_rfl) (by kernel_rfl) (by kernel_rfl) (fun _ _ _ h => h) (Or.inl ⟨by rfl, ?_⟩) (by assumption) ?_
      · intro W' hS; obtain ⟨⟨c0, c1, c2, c3⟩, cA⟩ := (SX.out W').1 hS; go_simp
      refine castP (d := 95) rfl (by simp only [List.set_cons_succ, List.set_cons_zero]; exact rfl) ?_
      refine wpAnyH_take (i := 6) (v := .bool true) rfl (by kernel_rfl) (by kernel_rfl) (by kernel_rfl) (fun _ _ _ h => h) (Or.inl ⟨by rfl, ?_⟩) (by assumption) ?_
      · intro W' hS; obtain ⟨⟨c0, c1, c2, c3⟩, cA⟩ := (SX.out W').1 hS; go_simp
      refine castP (d := 96) rfl (by simp only [List.set_cons_succ, List.set_cons_zero]; exact rfl) ?_
      refine wpAnyH_take (i := 7) (v := .pointer (some ⟨q3, 3, none⟩)) rfl (by kernel_rfl) (by kernel_rfl) (by kernel_rfl) (fun _ _ _ h => h) (Or.inl ⟨by rfl, ?_⟩) (by assumption) ?_
      · intro W' hS; obtain ⟨⟨c0, c1, c2, c3⟩, cA⟩ := (SX.out W').1 hS; go_simp
      refine castP (d := 97) rfl (by simp only [List.set_cons_succ, List.set_cons_zero]; exact rfl) ?_
      refine wpAnyH_take (i := 8) (v := .int .u32 0) rfl (by kernel_rfl) (by kernel_rfl) (by kernel_rfl) (fun _ _ _ h => h) (Or.inl ⟨by rfl, ?_⟩) (by assumption) ?_
      · intro W' hS; obtain ⟨⟨c0, c1, c2, c3⟩, cA⟩ := (SX.out W').1 hS; go_simp
      refine castP (d := 98) rfl (by simp only [List.set_cons_succ, List.set_cons_zero]; exact rfl) ?_
      refine wpAnyH_take (i := 9) (v := .bool true) rfl (by kernel_rfl) (by kernel_rfl) (by kernel_rfl) (fun _ _ _ h => h) (Or.inl ⟨by rfl, ?_⟩) (by assumption) ?_
      · intro W' hS; obtain ⟨⟨c0, c1, c2, c3⟩, cA⟩ := (SX.out W').1 hS; go_simp
      refine castP (d := 99) rfl (by simp only [List.set_cons_succ, List.set_cons_zero]; exact rfl) ?_
      refine wpAnyH_take (i := 10) (v := .bool true) rfl (by kernel_rfl) (by kernel_rfl) (by kernel_rfl) (fun _ _ _ h => h) (Or.inl ⟨by rfl, ?_⟩) (by assumption) ?_
      · intro W' hS; obtain ⟨⟨c0, c1, c2, c3⟩, cA⟩ := (SX.out W').1 hS; go_simp
      refine castP (d := 100) rfl (by simp only [List.set_cons_succ, List.set_cons_zero]; exact rfl) ?_
      refine wpAnyH_take (i := 11) (v := .bool true) rfl (by kernel_rfl) (by kernel_rfl) (by kernel_rfl) (fun _ _ _ h => h) (Or.inl ⟨by rfl, ?_⟩) (by assumption) ?_
      · intro W' hS; obtain ⟨⟨c0, c1, c2, c3⟩, cA⟩ := (SX.out W').1 hS; go_simp
      refine castP (d := 101) rfl (by simp only [List.set_cons_succ, List.set_cons_zero]; exact rfl) ?_
      refine wpAnyH_take (i := 12) (v := .agg #[.bool m0, .bool m1, .int .u16 0, .int .u32 0]) rfl (by kernel_rfl) (by kernel_rfl) (by kernel_rfl) (fun _ _ _ h => h) (Or.inl ⟨by rfl, ?_⟩) (by assumption) ?_
      · intro W' hS; obtain ⟨⟨c0, c1, c2, c3⟩, cA⟩ := (SX.out W').1 hS; go_simp
      refine castP (d := 102) rfl (by simp only [List.set_cons_succ, List.set_cons_zero]; exact rfl) ?_
      refine wpAnyH_take (i := 16) (v := .slice ad n c) rfl (by kernel_rfl) (by kernel_rfl) (by kernel_rfl) (fun _ _ _ h => h) (Or.inl ⟨by rfl, ?_⟩) (by assumption) ?_
      · intro W' hS; obtain ⟨⟨c0, c1, c2, c3⟩, cA⟩ := (SX.out W').1 hS; go_simp
      refine castP (d := 106) rfl (by simp only [List.set_cons_succ, List.set_cons_zero]; exact rfl) ?_
      refine wpAnyH_take (i := 17) (v := .slice ad 4 c) rfl (by kernel_rfl) (by kernel_rfl) (by kernel_rfl) (fun _ _ _ h => h) (Or.inl ⟨by rfl, ?_⟩) (by assumption) ?_
      · intro W' hS; obtain ⟨⟨c0, c1, c2, c3⟩, cA⟩ := (SX.out W').1 hS; go_simp; (try (intro h; exact absurd h (by omega)))
      refine castP (d := 107) rfl (by simp only [List.set_cons_succ, List.set_cons_zero]; exact rfl) ?_
      refine wpAnyH_take (i := 18) (v := .string ⟨(l.take 4).toArray⟩) rfl (by kernel_rfl) (by kernel_rfl) (by kernel_rfl) (fun _ _ _ h => h) (Or.inl ⟨by rfl, ?_⟩) (by assumption) ?_
      · intro W' hS; obtain ⟨⟨c0, c1, c2, c3⟩, cA⟩ := (SX.out W').1 hS; have cv := CL.out W' cA; go_simp
      refine castP (d := 108) rfl (by simp only [List.set_cons_succ, List.set_cons_zero]; exact rfl) ?_
      refine wpAnyH_ready (rs := [13]) (by kernel_rfl) (by simp) ?_
      refine AllReadyH.cons rfl (fun K hK => ?_) AllReadyH.nil
      go_simp
      go_at_call 10
      refine (TB.out _).mono ?_
      rintro e w9 ⟨v9, rfl, hY, hb0⟩
      have hb := Below.trans (Below.refl w8.heap.size _).drew (hb0.mono (by simp))
      have S14 := Lib.hid (S13.out.on hb)
      obtain ⟨a9, d9, rfl, hd9, hA9⟩ := hY.open
      rw [LB] at hd9 ⊢
      have A9 := Lib.hid hA9
      have d94 : 4 ≤ d9 := by omega
      refine hK.out _ _ (SI.out _ _ hHeld hb0) (fun hHeld => ?_)
      clear hK K hY hA9
      have CQ := Lib.hid (show ∀ W', BytA W' a9 (bytesS m0 m1 0 0) → (convert 22 9 (.slice a9 4 d9)).run Tryd.prog W' = .ok (.string ⟨(l.take 4).toArray⟩) W' from fun W' h => by
        have := conv_bytes ((h.upto 4).byt (n := 4) (c := d9) (by rw [List.length_take, LB]; rfl) d94).bytes
        rwa [EQ.out] at this)
      refine wpAnyH_mono (T := fun W' => S W' ∧ BytA W' a9 (bytesS m0 m1 0 0)) (fun _ h => h.1) _ _ _ _ ?_
      have hHeld2 : S w9 ∧ BytA w9 a9 (bytesS m0 m1 0 0) := ⟨hHeld, A9.out⟩
      refine wpAnyH_take (i := 14) (v := .slice a9 4 d9) rfl (by kernel_rfl) (by kernel_rfl) (by kernel_rfl) (fun _ _ _ h => h) (Or.inl ⟨by rfl, ?_⟩) (by assumption) ?_
      · intro W' hS; obtain ⟨⟨c0, c1, c2, c3⟩, cA⟩ := (SX.out W').1 hS.1; go_simp; (try (intro h; exact absurd h (by omega)))
      refine castP (d := 104) rfl (by simp only [List.set_cons_succ, List.set_cons_zero]; exact rfl) ?_
      refine wpAnyH_take (i := 15) (v := .string ⟨(l.take 4).toArray⟩) rfl (by kernel_rfl) (by kernel_rfl) (by kernel_rfl) (fun _ _ _ h => h) (Or.inl ⟨by rfl, ?_⟩) (by assumption) ?_
      · intro W' hS; obtain ⟨⟨c0, c1, c2, c3⟩, cA⟩ := (SX.out W').1 hS.1; have cv := CQ.out W' hS.2; go_simp
      refine castP (d := 105) rfl (by simp only [List.set_cons_succ, List.set_cons_zero]; exact rfl) ?_
      refine wpAnyH_take (i := 19) (v := .bool true) rfl (by kernel_rfl) (by kernel_rfl) (by kernel_rfl) (fun _ _ _ h => h) (Or.inl ⟨by rfl, ?_⟩) (by assumption) ?_
      · intro W' hS; obtain ⟨⟨c0, c1, c2, c3⟩, cA⟩ := (SX.out W').1 hS.1; go_simp
      refine castP (d := 109) rfl (by simp only [List.set_cons_succ, List.set_cons_zero]; exact rfl) ?_
      refine wpAnyH_take (i := 20) (v := .bool true) rfl (by kernel_rfl) (by kernel_rfl) (by kernel_rfl) (fun _ _ _ h => h) (Or.inl ⟨by rfl, ?_⟩) (by assumption) ?_
      · intro W' hS; obtain ⟨⟨c0, c1, c2, c3⟩, cA⟩ := (SX.out W').1 hS.1; go_simp
      refine castP (d := 110) rfl (by simp only [List.set_cons_succ, List.set_cons_zero]; exact rfl) ?_
      refine wpAnyH_take (i := 21) (v := .bool true) rfl (by kernel_rfl) (by kernel_rfl) (by kernel_rfl) (fun _ _ _ h => h) (Or.inl ⟨by rfl, ?_⟩) (by assumption) ?_
      · intro W' hS; obtain ⟨⟨c0, c1, c2, c3⟩, cA⟩ := (SX.out W').1 hS.1; go_simp
      refine castP (d := 111) rfl (by simp only [List.set_cons_succ, List.set_cons_zero]; exact rfl) ?_
      refine wpAnyH_take (i := 22) (v := .bool true) rfl (by kernel_rfl) (by kernel_rfl) (by kernel_rfl) (fun _ _ _ h => h) (Or.inl ⟨by rfl, ?_⟩) (by assumption) ?_
      · intro W' hS; obtain ⟨⟨c0, c1, c2, c3⟩, cA⟩ := (SX.out W').1 hS.1; go_simp
      refine castP (d := 4) rfl (by simp only [List.set_cons_succ, List.set_cons_zero]; exact rfl) ?_
      refine wpAnyH_done (by kernel_rfl) ?_ _
      go_wp2
      go_ret
      exact ⟨rfl, S14.out.1.2⟩
  · have d1 : 4 ≤ c := by omega
    have mi : min (n : Int) 4 = 4 := by omega
    have PR := Lib.hid (show probe l = l.take 4 ++ List.replicate 20 0 by unfold probe; rw [← HN.out, M])
    have LT := Lib.hid (show 4 = (l.take 4).length by rw [List.length_take, ← HN.out]; omega)
    go_wp2_with (at_builtin; refine wp_append_bytes rfl (.tmp 60) (.tmp 65) rfl v2 _ [] _ rfl OE.out ad (l.take 4) 4 c LT.out rfl ((HA.out.upto 4).on (S10.out.1.2.trans ((below_alloc v2 _).mono S10.out.1.2.size))) (by have := LT.out; simp; omega) ?_)
    intro v5 w5 hO
    have O5 := Lib.hid hO
    obtain ⟨a5, n5, d5, rfl⟩ := hO.slice
    clear hO
    go_wp2_with (at_builtin; refine wp_append_zeros rfl (.tmp 66) (.const (.int .i64 20)) rfl v2 _ _ _ rfl O5.out 20 rfl (by omega) (by omega) (by have := LT.out; simp; omega) ?_)
    intro v6 w6 hO
    have Y6 := Lib.hid (show Byt w6 v6 (probe l) from by rw [PR.out]; simpa using hO.byt)
    have S11 := Lib.hid (S10.out.on hO.below)
    have G11 := Lib.hid (keepRow G10.out hO.below)
    obtain ⟨a6, n6, d6, rfl⟩ := hO.slice
    clear hO O5 OE S10 G10
    go_wp2_with fail
    refine (R2.out _ _ Y6.out).mono ?_
    rintro e w7 ⟨rfl, hb⟩
    have S12 := Lib.hid (S11.out.on hb)
    have G12 := Lib.hid (keepRow G11.out hb)
    clear hb S11 G11 Y6
    go_upto_region 11 with fail
    have S13 := Lib.hid (S12.out.on (below_alloc w7 (.cells #[.bool e0, .bool e1, .int .u16 e2, .int .u32 e3] 31)))
    have G13 := Lib.hid (keepRow G12.out (below_alloc w7 (.cells #[.bool e0, .bool e1, .int .u16 e2, .int .u32 e3] 31)))
    clear S12 G12
    generalize w7.alloc (.cells #[.bool e0, .bool e1, .int .u16 e2, .int .u32 e3] 31) = w8 at *
    rcases HC with ⟨c4, h⟩ | ⟨c4, h, he⟩ | ⟨x, y, c4, h, he, hm⟩
    · exfalso; omega
    · simp only [Prod.mk.injEq] at h
      obtain ⟨⟨rfl, rfl⟩, rfl⟩ := h
      have q4 : ((4 : Int) ≤ (n : Nat)) = True := by simp; omega
      have q4' : (4 ≤ n) = True := by simp; omega
      subst he
      obtain ⟨⟨x0, x1, x2, x3⟩, _⟩ := row4 G13.out
      go_upto_region 14 with fail
      refine wp_region_quiet_below (by kernel_rfl) (by kernel_rfl) ?_
      repeat (go_big_quiet_step (fail))
      (refine wpQuiet_nil ?_; intro _ hw'; obtain ⟨⟨dq, osq⟩, hw''⟩ := hw'; subst hw'')
      go_wp2
      go_ret
      exact ⟨rfl, S13.out.1.2.trans ((below_regrown w8 dq osq).mono S13.out.1.2.size)⟩
    · simp only [Prod.mk.injEq] at h
      obtain ⟨⟨rfl, rfl⟩, rfl⟩ := h
      have q4 : ((4 : Int) ≤ (n : Nat)) = True := by simp; omega
      have q4' : (4 ≤ n) = True := by simp; omega
      have ne : (((en : Int) != 120) : Bool) = true := by simp; omega
      have c4' : 4 ≤ c := by omega
      have TB := Lib.hid (fun w => t_bytes m0 m1 0 0 (by omega) (by omega) w)
      have LB : (bytesS m0 m1 0 0).length = 24 := bytesS_length _ _ _ _
      have EQ := Lib.hid (show (bytesS m0 m1 0 0).take 4 = l.take 4 by
        have e := bytesS_take4 m0 m1 0 0 4 (Nat.le_refl _) []
        rw [List.append_nil] at e
        rw [e, hm, List.take_of_length_le (by rw [magicL_length]; exact Nat.le_refl _)])
      have CL := Lib.hid (show ∀ W', BytA W' ad l → (convert 22 9 (.slice ad 4 c)).run Tryd.prog W' = .ok (.string ⟨(l.take 4).toArray⟩) W' from fun W' h => conv_bytes ((h.upto 4).byt (by rw [List.length_take, ← HN.out]; omega) c4').bytes)
      obtain ⟨⟨x0, x1, x2, x3⟩, _⟩ := row4 G13.out
      go_upto_region 14 with fail
      obtain ⟨S, hS0⟩ : ∃ S : World → Prop, S = (fun W' => (W'.cell? ⟨q3, 0, none⟩ = some (.bool m0) ∧ W'.cell? ⟨q3, 1, none⟩ = some (.bool m1) ∧ W'.cell? ⟨q3, 2, none⟩ = some (.int .u16 0) ∧ W'.cell? ⟨q3, 3, none⟩ = some (.int .u32 0)) ∧ BytA W' ad l) := ⟨_, rfl⟩
      have SX := Lib.hid (fun W' => show S W' ↔ _ from by rw [hS0])
      have SI := Lib.hid (show ∀ W' W2, S W' → Below W'.heap.size W' W2 → S W2 from fun W' W2 h hb => by
        rw [hS0] at h ⊢
        obtain ⟨⟨a0, a1, a2, a3⟩, zA⟩ := h
        exact ⟨⟨below_cell hb a0, below_cell hb a1, below_cell hb a2, below_cell hb a3⟩, zA.on hb⟩)
      refine wp_region_held_drew (S := S) (by kernel_rfl) (by rw [hS0]; exact ⟨⟨x0, x1, x2, x3⟩, (HA.out.on (S13.out.1.2.trans (Below.mono (Below.refl _ _).drew S13.out.1.2.size)))⟩) (fun hHeld => ?_)
      clear x0 x1 x2 x3 hS0
      refine wpAnyH_take (i := 0) (v := .bool true) rfl (by kernel_rfl) (by kernel_rfl) (by kernel_rfl) (fun _ _ _ h => h) (Or.inl ⟨by rfl, ?_⟩) (by assumption) ?_
      · intro W' hS; obtain ⟨⟨c0, c1, c2, c3⟩, cA⟩ := (SX.out W').1 hS; go_simp
      refine castP (d := 90) rfl (by simp only [List.set_cons_succ, List.set_cons_zero]; exact rfl) ?_
      refine wpAnyH_take (i := 1) (v := .bool false) rfl (by kernel_rfl) (by kernel_rfl) (by kernel_rfl) (fun _ _ _ h => h) (Or.inl ⟨by rfl, ?_⟩) (by assumption) ?_
      · intro W' hS; obtain ⟨⟨c0, c1, c2, c3⟩, cA⟩ := (SX.out W').1 hS; go_simp
      refine castP (d := 91) rfl (by simp only [List.set_cons_succ, List.set_cons_zero]; exact rfl) ?_
      refine wpAnyH_take (i := 2) (v := .bool false) rfl (by kernel_rfl) (by kernel_rfl) (by kernel_rfl) (fun _ _ _ h => h) (Or.inl ⟨by rfl, ?_⟩) (by assumption) ?_
      · intro W' hS; obtain ⟨⟨c0, c1, c2, c3⟩, cA⟩ := (SX.out W').1 hS; go_simp
      refine castP (d := 92) rfl (by simp only [List.set_cons_succ, List.set_cons_zero]; exact rfl) ?_
      refine wpAnyH_take (i := 3) (v := .pointer (some ⟨q3, 2, none⟩)) rfl (by kernel_rfl) (by kernel_rfl) (by kernel_rfl) (fun _ _ _ h => h) (Or.inl ⟨by rfl, ?_⟩) (by assumption) ?_
      · intro W' hS; obtain ⟨⟨c0, c1, c2, c3⟩, cA⟩ := (SX.out W').1 hS; go_simp
      refine castP (d := 93) rfl (by simp only [List.set_cons_succ, List.set_cons_zero]; exact rfl) ?_
      refine wpAnyH_take (i := 4) (v := .int .u16 0) rfl (by kernel_rfl) (by kernel_rfl) (by kernel_rfl) (fun _ _ _ h => h) (Or.inl ⟨by rfl, ?_⟩) (by assumption) ?_
      · intro W' hS; obtain ⟨⟨c0, c1, c2, c3⟩, cA⟩ := (SX.out W').1 hS; go_simp
      refine castP (d := 94) rfl (by simp only [List.set_cons_succ, List.set_cons_zero]; exact rfl) ?_
      refine wpAnyH_take (i := 5) (v := .bool true) rfl (by kernel_rfl) (by kernel_rfl) (by kernel_rfl) (fun _ _ _ h => h) (Or.inl ⟨by rfl, ?_⟩) (by assumption) ?_
      · intro W' hS; obtain ⟨⟨c0, c1, c2, c3⟩, cA⟩ := (SX.out W').1 hS; go_simp
      refine castP (d := 95) rfl (by simp only [List.set_cons_succ, List.set_cons_zero]; exact rfl) ?_
      refine wpAnyH_take (i := 6) (v := .bool true) rfl (by kernel_rfl) (by kernel_rfl) (by kernel_rfl) (fun _ _ _ h => h) (Or.inl ⟨by rfl, ?_⟩) (by assumption) ?_
      · intro W' hS; obtain ⟨⟨c0, c1, c2, c3⟩, cA⟩ := (SX.out W').1 hS; go_simp
      refine castP (d := 96) rfl (by simp only [List.set_cons_succ, List.set_cons_zero]; exact rfl) ?_
      refine wpAnyH_take (i := 7) (v := .pointer (some ⟨q3, 3, none⟩)) rfl (by kernel_rfl) (by kernel_rfl) (by kernel_rfl) (fun _ _ _ h => h) (Or.inl ⟨by rfl, ?_⟩) (by assumption) ?_
      · intro W' hS; obtain ⟨⟨c0, c1, c2, c3⟩, cA⟩ := (SX.out W').1 hS; go_simp
      refine castP (d := 97) rfl (by simp only [List.set_cons_succ, List.set_cons_zero]; exact rfl) ?_
      refine wpAnyH_take (i := 8) (v := .int .u32 0) rfl (by kernel_rfl) (by kernel_rfl) (by kernel_rfl) (fun _ _ _ h => h) (Or.inl ⟨by rfl, ?_⟩) (by assumption) ?_
      · intro W' hS; obtain ⟨⟨c0, c1, c2, c3⟩, cA⟩ := (SX.out W').1 hS; go_simp
      refine castP (d := 98) rfl (by simp only [List.set_cons_succ, List.set_cons_zero]; exact rfl) ?_
      refine wpAnyH_take (i := 9) (v := .bool true) rfl (by kernel_rfl) (by kernel_rfl) (by kernel_rfl) (fun _ _ _ h => h) (Or.inl ⟨by rfl, ?_⟩) (by assumption) ?_
      · intro W' hS; obtain ⟨⟨c0, c1, c2, c3⟩, cA⟩ := (SX.out W').1 hS; go_simp
      refine castP (d := 99) rfl (by simp only [List.set_cons_succ, List.set_cons_zero]; exact rfl) ?_
      refine wpAnyH_take (i := 10) (v := .bool true) rfl (by kernel_rfl) (by kernel_rfl) (by kernel_rfl) (fun _ _ _ h => h) (Or.inl ⟨by rfl, ?_⟩) (by assumption) ?_
      · intro W' hS; obtain ⟨⟨c0, c1, c2, c3⟩, cA⟩ := (SX.out W').1 hS; go_simp
      refine castP (d := 100) rfl (by simp only [List.set_cons_succ, List.set_cons_zero]; exact rfl) ?_
      refine wpAnyH_take (i := 11) (v := .bool true) rfl (by kernel_rfl) (by kernel_rfl) (by kernel_rfl) (fun _ _ _ h => h) (Or.inl ⟨by rfl, ?_⟩) (by assumption) ?_
      · intro W' hS; obtain ⟨⟨c0, c1, c2, c3⟩, cA⟩ := (SX.out W').1 hS; go_simp
      refine castP (d := 101) rfl (by simp only [List.set_cons_succ, List.set_cons_zero]; exact rfl) ?_
      refine wpAnyH_take (i := 12) (v := .agg #[.bool m0, .bool m1, .int .u16 0, .int .u32 0]) rfl (by kernel_rfl) (by kernel_rfl) (by kernel_rfl) (fun _ _ _ h => h) (Or.inl ⟨by rfl, ?_⟩) (by assumption) ?_
      · intro W' hS; obtain ⟨⟨c0, c1, c2, c3⟩, cA⟩ := (SX.out W').1 hS; go_simp
      refine castP (d := 102) rfl (by simp only [List.set_cons_succ, List.set_cons_zero]; exact rfl) ?_
      refine wpAnyH_take (i := 16) (v := .slice ad n c) rfl (by kernel_rfl) (by kernel_rfl) (by kernel_rfl) (fun _ _ _ h => h) (Or.inl ⟨by rfl, ?_⟩) (by assumption) ?_
      · intro W' hS; obtain ⟨⟨c0, c1, c2, c3⟩, cA⟩ := (SX.out W').1 hS; go_simp
      refine castP (d := 106) rfl (by simp only [List.set_cons_succ, List.set_cons_zero]; exact rfl) ?_
      refine wpAnyH_take (i := 17) (v := .slice ad 4 c) rfl (by kernel_rfl) (by kernel_rfl) (by kernel_rfl) (fun _ _ _ h => h) (Or.inl ⟨by rfl, ?_⟩) (by assumption) ?_
      · intro W' hS; obtain ⟨⟨c0, c1, c2, c3⟩, cA⟩ := (SX.out W').1 hS; go_simp; (try (intro h; exact absurd h (by omega)))
      refine castP (d := 107) rfl (by simp only [List.set_cons_succ, List.set_cons_zero]; exact rfl) ?_
      refine wpAnyH_take (i := 18) (v := .string ⟨(l.take 4).toArray⟩) rfl (by kernel_rfl) (by kernel_rfl) (by kernel_rfl) (fun _ _ _ h => h) (Or.inl ⟨by rfl, ?_⟩) (by assumption) ?_
      · intro W' hS; obtain ⟨⟨c0, c1, c2, c3⟩, cA⟩ := (SX.out W').1 hS; have cv := CL.out W' cA; go_simp
      refine castP (d := 108) rfl (by simp only [List.set_cons_succ, List.set_cons_zero]; exact rfl) ?_
      refine wpAnyH_ready (rs := [13]) (by kernel_rfl) (by simp) ?_
      refine AllReadyH.cons rfl (fun K hK => ?_) AllReadyH.nil
      go_simp
      go_at_call 10
      refine (TB.out _).mono ?_
      rintro e w9 ⟨v9, rfl, hY, hb0⟩
      have hb := Below.trans (Below.refl w8.heap.size _).drew (hb0.mono (by simp))
      have S14 := Lib.hid (S13.out.on hb)
      obtain ⟨a9, d9, rfl, hd9, hA9⟩ := hY.open
      rw [LB] at hd9 ⊢
      have A9 := Lib.hid hA9
      have d94 : 4 ≤ d9 := by omega
      refine hK.out _ _ (SI.out _ _ hHeld hb0) (fun hHeld => ?_)
      clear hK K hY hA9
      have CQ := Lib.hid (show ∀ W', BytA W' a9 (bytesS m0 m1 0 0) → (convert 22 9 (.slice a9 4 d9)).run Tryd.prog W' = .ok (.string ⟨(l.take 4).toArray⟩) W' from fun W' h => by
        have := conv_bytes ((h.upto 4).byt (n := 4) (c := d9) (by rw [List.length_take, LB]; rfl) d94).bytes
        rwa [EQ.out] at this)
      refine wpAnyH_mono (T := fun W' => S W' ∧ BytA W' a9 (bytesS m0 m1 0 0)) (fun _ h => h.1) _ _ _ _ ?_
      have hHeld2 : S w9 ∧ BytA w9 a9 (bytesS m0 m1 0 0) := ⟨hHeld, A9.out⟩
      refine wpAnyH_take (i := 14) (v := .slice a9 4 d9) rfl (by kernel_rfl) (by kernel_rfl) (by kernel_rfl) (fun _ _ _ h => h) (Or.inl ⟨by rfl, ?_⟩) (by assumption) ?_
      · intro W' hS; obtain ⟨⟨c0, c1, c2, c3⟩, cA⟩ := (SX.out W').1 hS.1; go_simp; (try (intro h; exact absurd h (by omega)))
      refine castP (d := 104) rfl (by simp only [List.set_cons_succ, List.set_cons_zero]; exact rfl) ?_
      refine wpAnyH_take (i := 15) (v := .string ⟨(l.take 4).toArray⟩) rfl (by kernel_rfl) (by kernel_rfl) (by kernel_rfl) (fun _ _ _ h => h) (Or.inl ⟨by rfl, ?_⟩) (by assumption) ?_
      · intro W' hS; obtain ⟨⟨c0, c1, c2, c3⟩, cA⟩ := (SX.out W').1 hS.1; have cv := CQ.out W' hS.2; go_simp
      refine castP (d := 105) rfl (by simp only [List.set_cons_succ, List.set_cons_zero]; exact rfl) ?_
      refine wpAnyH_take (i := 19) (v := .bool true) rfl (by kernel_rfl) (by kernel_rfl) (by kernel_rfl) (fun _ _ _ h => h) (Or.inl ⟨by rfl, ?_⟩) (by assumption) ?_
      · intro W' hS; obtain ⟨⟨c0, c1, c2, c3⟩, cA⟩ := (SX.out W').1 hS.1; go_simp
      refine castP (d := 109) rfl (by simp only [List.set_cons_succ, List.set_cons_zero]; exact rfl) ?_
      refine wpAnyH_take (i := 20) (v := .bool true) rfl (by kernel_rfl) (by kernel_rfl) (by kernel_rfl) (fun _ _ _ h => h) (Or.inl ⟨by rfl, ?_⟩) (by assumption) ?_
      · intro W' hS; obtain ⟨⟨c0, c1, c2, c3⟩, cA⟩ := (SX.out W').1 hS.1; go_simp
      refine castP (d := 110) rfl (by simp only [List.set_cons_succ, List.set_cons_zero]; exact rfl) ?_
      refine wpAnyH_take (i := 21) (v := .bool true) rfl (by kernel_rfl) (by kernel_rfl) (by kernel_rfl) (fun _ _ _ h => h) (Or.inl ⟨by rfl, ?_⟩) (by assumption) ?_
      · intro W' hS; obtain ⟨⟨c0, c1, c2, c3⟩, cA⟩ := (SX.out W').1 hS.1; go_simp
      refine castP (d := 111) rfl (by simp only [List.set_cons_succ, List.set_cons_zero]; exact rfl) ?_
      refine wpAnyH_take (i := 22) (v := .bool true) rfl (by kernel_rfl) (by kernel_rfl) (by kernel_rfl) (fun _ _ _ h => h) (Or.inl ⟨by rfl, ?_⟩) (by assumption) ?_
      · intro W' hS; obtain ⟨⟨c0, c1, c2, c3⟩, cA⟩ := (SX.out W').1 hS.1; go_simp
      refine castP (d := 4) rfl (by simp only [List.set_cons_succ, List.set_cons_zero]; exact rfl) ?_
      refine wpAnyH_done (by kernel_rfl) ?_ _
      go_wp2
      go_ret
      exact ⟨rfl, S14.out.1.2⟩
set_option maxHeartbeats 1000000 in
theorem pcapOpens_any (a b : Bool) (k s : Nat) (v : Value) (l : List UInt8) (hf : k < 65536 ∧ s < 4294967296) (w : World) (hE : EnvP w) (hB : Byt w v l) :
    Calls Tryd.prog 3 #[v, (.agg #[.bool a, .bool b, .int .u16 k, .int .u32 s])] w fun e w' => e = .returned (.bool true) ∧ Below w.heap.size w w' := by
  by_cases hl : l.length ≤ 300
  · exact pcapOpens_small a b k s v l hf w hE hB hl
  · obtain ⟨ad, c, rfl, hc, _⟩ := hB.open
    have g : decide ((300 : Int) < (l.length : Nat)) = true := by simp; omega
    have S0 := Lib.hid ((show KeepP w w from ⟨hE, Below.refl _ _⟩).alloc (.cells #[.bool a, .bool b, .int .u16 k, .int .u32 s] 26 (0, 0)))
    clear hl hB hE
    generalize l.length = n at *
    go_enter Tryd.func3, Tryd.ntmps3
    go_wp2_with (go_at_call 7; refine (t_known _ S0.out.1).mono ?_; rintro e w1 ⟨rfl, hb⟩)
    go_ret
    exact ⟨rfl, (S0.out.on hb).2⟩
end Go.Proofs.YthmkfkmcamjnoaaDoor
