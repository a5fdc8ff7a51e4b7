/-
  PROVED HERE (the walk): the statement OctetGets: the number of any bytes, at any place, and what is cut there, are the document's; what is cut has no room behind it.
-/
import Derived.Test.YtldgfaoiepnemaaOKnown7
import Derived.Test.YtldgfaoiepnemaaORef7
import Derived.Test.YtldgfaoiepnemaaConvB
import Derived.Test.YtldgfaoiepnemaaOctD
import Derived.Test.YtldgfaoiepnemaaQuiet
namespace Go.Proofs.Ytldgfaoiepnemaa
open Go.RowKit Go.Sort
set_option maxRecDepth 100000
theorem Byt.drewN {w : World} {v : Value} {l : List UInt8} (h : Byt w v l) (n : Nat) : Byt (w.drewN n) v l := h.on (below_drewN (Below.refl _ _) n)
theorem run_sub (w : World) (a : Option Addr) (n c at_ many : Nat) (h : at_ + many ≤ c) : (Instr.slice 22 (.slice a n c) (some (.int .i64 (at_ : Int))) (some (.int .i64 ((at_ : Int) + (many : Int)))) none).run Try.prog w = .ok (.slice (if c = at_ then a else a.map (·.add at_)) many (c - at_)) w := by
  rw [run_slice_lh (P := Try.prog) w 22 a n c Try.underlying22 .i64 .i64 at_ (at_ + many) (by omega) (by omega) (by omega)]
  have hs : (sizeOf (Try.prog.elem 22)).run Try.prog w = .ok 1 w := by kernel_rfl
  rw [hs]
  simp only [Result.andThen, sliced]
  rw [show ((at_ : Int) + (many : Int)).toNat = at_ + many by omega, show ((at_ : Nat) : Int).toNat = at_ by omega, Nat.mul_one, Nat.add_sub_cancel_left]
theorem BytA.sub {w : World} {a : Option Addr} {l : List UInt8} (h : BytA w a l) (at_ many c : Nat) (hl : at_ + many ≤ l.length) (hc : l.length ≤ c) : BytA w (if c = at_ then a else a.map (·.add at_)) ((l.drop at_).take many) := by
  by_cases h0 : many = 0
  · subst h0; left; simp
  · have := h.cut at_ many hl
    unfold cutA at this
    rw [if_neg h0] at this
    rw [if_neg (by omega)]
    exact this
/-- The bytes, and a variable that holds the row. -/
def GSt (w wr : World) (a : Option Addr) (l : List UInt8) (p n c : Nat) (b : Bool) : Prop := BytA wr a l ∧ Below w.heap.size w wr ∧ wr.heap[p]? = some (.cells #[.slice a n c, .bool b] 25 (0, 0))
theorem GSt.on {w wr w2 : World} {a : Option Addr} {l : List UInt8} {p n c : Nat} {b : Bool} (h : GSt w wr a l p n c b) (hb : Below wr.heap.size wr w2) : GSt w w2 a l p n c b :=
  ⟨h.1.on hb, h.2.1.trans (hb.mono h.2.1.size), (hb.block p (Array.getElem?_eq_some_iff.1 h.2.2).1).trans h.2.2⟩
theorem GSt.cells {w wr : World} {a : Option Addr} {l : List UInt8} {p n c : Nat} {b : Bool} (h : GSt w wr a l p n c b) : wr.cell? ⟨p, 0, none⟩ = some (.slice a n c) ∧ wr.cell? ⟨p, 1, none⟩ = some (.bool b) :=
  ⟨cell_of_row _ _ _ _ _ _ h.2.2, cell_of_row _ _ _ _ _ _ h.2.2⟩
theorem gv_bd (l : List UInt8) (b : Bool) (at_ : Int) : gv l b at_ 2 < 65536 ∧ gv l b at_ 4 < 4294967296 := ⟨gv_lt l b at_ 2, gv_lt l b at_ 4⟩
set_option maxHeartbeats 4000000 in
theorem octetGets_yes (a : Option Addr) (l : List UInt8) (c : Nat) (b : Bool) (at_ many : Nat) (w : World) (hc : l.length ≤ c) (hl : l.length ≤ 300) (h : at_ + many ≤ l.length) (hB : BytA w a l) :
    Calls Try.prog 3 #[.slice a l.length c, .bool b, .int .i64 at_, .int .i64 many] w fun e w' => e = .returned (.bool true) ∧ Below w.heap.size w w' := by
  have HB := Lib.hid hB
  have hz : l.length ≤ 140737488355328 := by omega
  have GG := Lib.hid (fun w hB => t_get a l c b at_ many hc (by omega) (by omega) hz w hB)
  have RG := Lib.hid (fun w hB => r_get a l c b at_ many (by omega) (by omega) hz w hB)
  have R2 := Lib.hid (fun w hB => r_get a l c b at_ 2 (by omega) (by omega) hz w hB)
  have R4 := Lib.hid (fun w hB => r_get a l c b at_ 4 (by omega) (by omega) hz w hB)
  have R8 := Lib.hid (fun w hB => r_get a l c b at_ 8 (by omega) (by omega) hz w hB)
  have CC := Lib.hid (fun w => t_cut_yes a l.length c b at_ many hc h hz w)
  have U16 := Lib.hid (fun w hB => t_u16 a l c b at_ hc (by omega) hz w hB)
  have U32 := Lib.hid (fun w hB => t_u32 a l c b at_ hc (by omega) hz w hB)
  have U64 := Lib.hid (fun w hB => t_u64 a l c b at_ hc (by omega) hz w hB)
  have PC := Lib.hid (show ∀ w, BytA w a l → Byt w (.slice (cutA a at_ many) many many) ((l.drop at_).take many) from fun w hB => (hB.cut at_ many h).byt (by rw [piece_length l at_ many h]) (Nat.le_refl _))
  obtain ⟨a', ha'⟩ : ∃ a', a' = if c = at_ then a else a.map (·.add at_) := ⟨_, rfl⟩
  have PD := Lib.hid (show ∀ w, BytA w a l → Byt w (.slice a' many (c - at_)) ((l.drop at_).take many) from fun w hB => by rw [ha']; exact (hB.sub at_ many c h hc).byt (by rw [piece_length l at_ many h]) (by omega))
  have SL := Lib.hid (show ∀ w, (Instr.slice 22 (.slice a l.length c) (some (.int .i64 (at_ : Int))) (some (.int .i64 ((at_ : Int) + (many : Int)))) none).run Try.prog w = .ok (.slice a' many (c - at_)) w from fun w => by rw [ha']; exact run_sub w a l.length c at_ many (by omega))
  clear ha'
  have bd := gv_bd l b at_
  clear hB
  generalize (l.drop at_).take many = q at *
  obtain ⟨n, hn⟩ : ∃ n, n = l.length := ⟨_, rfl⟩
  rw [← hn] at hc hl h GG RG R2 R4 R8 CC U16 U32 U64 SL hz ⊢
  generalize gv l b at_ many = x at *
  generalize gv l b at_ 2 = x2 at *
  generalize gv l b at_ 4 = x4 at *
  generalize gv l b at_ 8 = x8 at *
  generalize gok n at_ many = ok at *
  generalize gok n at_ 2 = ok2 at *
  generalize gok n at_ 4 = ok4 at *
  generalize gok n at_ 8 = ok8 at *
  obtain ⟨bd2, bd4⟩ := bd
  clear hn
  have g1 : decide ((300 : Int) < (n : Nat)) = false := by simp; omega
  go_enter Try.func3, Try.ntmps3
  go_upto_region 1 with fail
  go_upto_region 5 with (go_at_call 7; refine (t_known _).mono ?_; rintro e w1 ⟨rfl, hb⟩)
  have S1 := Lib.hid (show GSt w (w1.alloc (.cells #[.slice a n c, .bool b] 25)) a l w1.heap.size n c b from
    ⟨HB.out.on (hb.trans ((below_alloc w1 _).mono hb.size)), hb.alloc hb.size _, row_new _ _ rfl⟩)
  clear hb HB
  go_upto_region 6 with fail
  generalize w1.alloc (.cells #[.slice a n c, .bool b] 25) = w2 at *
  generalize w1.heap.size = p at *
  obtain ⟨c0, c1⟩ := S1.out.cells
  go_upto_region 7 with (go_at_call 8; refine (GG.out _ S1.out.1).mono ?_; rintro e w3 ⟨rfl, hb⟩)
  have S2 := Lib.hid (S1.out.on hb)
  clear hb S1 GG c0 c1
  go_upto_region 8 with (go_at_call 9; refine (RG.out _ S2.out.1).mono ?_; rintro e w3 ⟨rfl, rfl⟩)
  clear RG
  obtain ⟨c0, c1⟩ := S2.out.cells
  go_upto_region 11 with (go_at_call 10; refine (CC.out _).mono ?_; rintro e w4 ⟨rfl, hb⟩)
  have S3 := Lib.hid (S2.out.on hb)
  clear hb S2 CC c0 c1
  have g2 : decide (at_ ≤ n) = true := by simp; omega
  have g3 : decide ((many : Int) ≤ (n : Int) - (at_ : Int)) = true := by simp; omega
  go_upto_region 12 with fail
  clear g2 g3
  have v1 := fun w' (hw : ∃ p : Regrown, w' = grow (redrawn w4 p.d) p.os) => (show (convert 22 9 (.slice (cutA a at_ many) many many)).run Try.prog w' = .ok (.string ⟨q.toArray⟩) w' from by
    obtain ⟨p, rfl⟩ := hw
    exact conv_bytes ((PC.out w4 S3.out.1).on (below_regrown _ _ _)).bytes)
  have v2 := fun w' (hw : ∃ p : Regrown, w' = grow (redrawn w4 p.d) p.os) => (show (convert 22 9 (.slice a' many (c - at_))).run Try.prog w' = .ok (.string ⟨q.toArray⟩) w' from by
    obtain ⟨p, rfl⟩ := hw
    exact conv_bytes ((PD.out w4 S3.out.1).on (below_regrown _ _ _)).bytes)
  have V1 := Lib.hid v1
  have V2 := Lib.hid v2
  clear v1 v2
  refine wp_region_quiet_below (by kernel_rfl) (by kernel_rfl) ?_
  repeat (go_big_quiet_step (fail))
  refine q_convert rfl 22 9 (.tmp 86) rfl (.slice (cutA a at_ many) many many) rfl (.string ⟨q.toArray⟩) V1.out ?_
  (try simp only [Act.put, List.setIfInBounds_toArray, List.set_cons_zero, List.set_cons_succ])
  iterate 5 (go_big_quiet_step (fail))
  refine q_slice rfl 22 (.tmp 88) (.tmp 89) (.tmp 92) rfl (.slice a n c) (.int .i64 (at_ : Int)) (.int .i64 ((at_ : Int) + (many : Int))) rfl rfl rfl (.slice a' many (c - at_)) Try.underlying22 (fun w _ => SL.out w) ?_
  (try simp only [Act.put, List.setIfInBounds_toArray, List.set_cons_zero, List.set_cons_succ])
  refine q_convert rfl 22 9 (.tmp 93) rfl (.slice a' many (c - at_)) rfl (.string ⟨q.toArray⟩) V2.out ?_
  (try simp only [Act.put, List.setIfInBounds_toArray, List.set_cons_zero, List.set_cons_succ])
  repeat (go_big_quiet_step (fail))
  (refine wpQuiet_nil ?_; intro _ hw'; obtain ⟨⟨dq, osq⟩, hw''⟩ := hw'; subst hw'')
  have S4 := Lib.hid (S3.out.on (below_regrown w4 dq osq))
  clear S3 V1 V2
  generalize grow (redrawn w4 dq) osq = w5 at *
  obtain ⟨c0, c1⟩ := S4.out.cells
  go_wp2_with fail
  refine (R2.out _ S4.out.1).mono ?_
  rintro e w6 ⟨rfl, rfl⟩
  go_wp2_with fail
  refine (R4.out _ S4.out.1).mono ?_
  rintro e w6 ⟨rfl, rfl⟩
  go_wp2_with fail
  refine (R8.out _ S4.out.1).mono ?_
  rintro e w6 ⟨rfl, rfl⟩
  go_wp2_with fail
  refine (U16.out _ S4.out.1).mono ?_
  rintro e w6 ⟨rfl, hb⟩
  have S5 := Lib.hid (S4.out.on hb)
  clear hb S4 c0 c1
  obtain ⟨c0, c1⟩ := S5.out.cells
  go_wp2_with fail
  refine (U32.out _ S5.out.1).mono ?_
  rintro e w7 ⟨rfl, hb⟩
  have S6 := Lib.hid (S5.out.on hb)
  clear hb S5 c0 c1
  obtain ⟨c0, c1⟩ := S6.out.cells
  go_wp2_with fail
  refine (U64.out _ S6.out.1).mono ?_
  rintro e w8 ⟨rfl, hb⟩
  have S7 := Lib.hid (S6.out.on hb)
  clear hb S6 c0 c1
  go_wp2
  go_ret
  exact ⟨rfl, S7.out.2.1⟩
set_option maxHeartbeats 4000000 in
theorem octetGets_no (a : Option Addr) (l : List UInt8) (c : Nat) (b : Bool) (at_ many : Int) (ha : -9223372036854775808 ≤ at_ ∧ at_ ≤ 9223372036854775807) (hm : -9223372036854775808 ≤ many ∧ many ≤ 9223372036854775807) (w : World) (hc : l.length ≤ c) (hl : l.length ≤ 300) (h : ¬ (0 ≤ at_ ∧ 0 ≤ many ∧ at_ + many ≤ l.length)) (hB : BytA w a l) :
    Calls Try.prog 3 #[.slice a l.length c, .bool b, .int .i64 at_, .int .i64 many] w fun e w' => e = .returned (.bool true) ∧ Below w.heap.size w w' := by
  have HB := Lib.hid hB
  have hz : l.length ≤ 140737488355328 := by omega
  have GG := Lib.hid (fun w hB => t_get a l c b at_ many hc ha hm hz w hB)
  have RG := Lib.hid (fun w hB => r_get a l c b at_ many ha hm hz w hB)
  have R2 := Lib.hid (fun w hB => r_get a l c b at_ 2 ha (by omega) hz w hB)
  have R4 := Lib.hid (fun w hB => r_get a l c b at_ 4 ha (by omega) hz w hB)
  have R8 := Lib.hid (fun w hB => r_get a l c b at_ 8 ha (by omega) hz w hB)
  have CC := Lib.hid (fun w => t_cut_no a l.length c b at_ many h ha hm w)
  have U16 := Lib.hid (fun w hB => t_u16 a l c b at_ hc ha hz w hB)
  have U32 := Lib.hid (fun w hB => t_u32 a l c b at_ hc ha hz w hB)
  have U64 := Lib.hid (fun w hB => t_u64 a l c b at_ hc ha hz w hB)
  have bd := gv_bd l b at_
  clear hB
  obtain ⟨n, hn⟩ : ∃ n, n = l.length := ⟨_, rfl⟩
  rw [← hn] at hc hl h GG RG R2 R4 R8 CC U16 U32 U64 hz ⊢
  generalize gv l b at_ many = x at *
  generalize gv l b at_ 2 = x2 at *
  generalize gv l b at_ 4 = x4 at *
  generalize gv l b at_ 8 = x8 at *
  generalize gok n at_ many = ok at *
  generalize gok n at_ 2 = ok2 at *
  generalize gok n at_ 4 = ok4 at *
  generalize gok n at_ 8 = ok8 at *
  obtain ⟨bd2, bd4⟩ := bd
  clear hn
  have g1 : decide ((300 : Int) < (n : Nat)) = false := by simp; omega
  go_enter Try.func3, Try.ntmps3
  go_upto_region 1 with fail
  go_upto_region 5 with (go_at_call 7; refine (t_known _).mono ?_; rintro e w1 ⟨rfl, hb⟩)
  have S1 := Lib.hid (show GSt w (w1.alloc (.cells #[.slice a n c, .bool b] 25)) a l w1.heap.size n c b from
    ⟨HB.out.on (hb.trans ((below_alloc w1 _).mono hb.size)), hb.alloc hb.size _, row_new _ _ rfl⟩)
  clear hb HB
  go_upto_region 6 with fail
  generalize w1.alloc (.cells #[.slice a n c, .bool b] 25) = w2 at *
  generalize w1.heap.size = p at *
  obtain ⟨c0, c1⟩ := S1.out.cells
  go_upto_region 7 with (go_at_call 8; refine (GG.out _ S1.out.1).mono ?_; rintro e w3 ⟨rfl, hb⟩)
  have S2 := Lib.hid (S1.out.on hb)
  clear hb S1 GG c0 c1
  go_upto_region 8 with (go_at_call 9; refine (RG.out _ S2.out.1).mono ?_; rintro e w3 ⟨rfl, rfl⟩)
  clear RG
  obtain ⟨c0, c1⟩ := S2.out.cells
  go_upto_region 11 with (go_at_call 10; refine (CC.out _).mono ?_; rintro e w4 ⟨rfl, hb⟩)
  have S3 := Lib.hid (S2.out.on hb)
  clear hb S2 CC c0 c1
  have T := Lib.hid (show at_ < 0 ∨ (0 ≤ at_ ∧ many < 0) ∨ (0 ≤ at_ ∧ 0 ≤ many ∧ (n : Int) < at_) ∨ (0 ≤ at_ ∧ 0 ≤ many ∧ at_ ≤ n ∧ (n : Int) - at_ < many) by omega)
  clear h
  have TB := Lib.hid (show decide (0 ≤ at_) = false ∨ (decide (0 ≤ at_) = true ∧ decide (0 ≤ many) = false) ∨ (decide (0 ≤ at_) = true ∧ decide (0 ≤ many) = true ∧ decide (at_ ≤ (n : Int)) = false) ∨ (decide (0 ≤ at_) = true ∧ decide (0 ≤ many) = true ∧ decide (at_ ≤ (n : Int)) = true ∧ decide (many ≤ (n : Int) - at_) = false) by
    simp only [decide_eq_true_eq, decide_eq_false_iff_not]; have := T.out; omega)
  clear T
  rcases TB.out with g | ⟨g, g'⟩ | ⟨g, g', g''⟩ | ⟨g, g', g'', g3⟩
  case' inr.inr.inr =>
    have e1 : 0 ≤ at_ := of_decide_eq_true g
    have e2 : at_ ≤ n := of_decide_eq_true g''
  all_goals
    clear TB
    go_upto_region 12 with fail
    refine wp_region_quiet_below (by kernel_rfl) (by kernel_rfl) ?_
    repeat (go_big_quiet_step (fail))
    (refine wpQuiet_nil ?_; intro _ hw'; obtain ⟨⟨dq, osq⟩, hw''⟩ := hw'; subst hw'')
    have S4 := Lib.hid (S3.out.on (below_regrown w4 dq osq))
    clear S3
    generalize grow (redrawn w4 dq) osq = w5 at *
    obtain ⟨c0, c1⟩ := S4.out.cells
    go_wp2_with fail
    refine (R2.out _ S4.out.1).mono ?_
    rintro e w6 ⟨rfl, rfl⟩
    go_wp2_with fail
    refine (R4.out _ S4.out.1).mono ?_
    rintro e w6 ⟨rfl, rfl⟩
    go_wp2_with fail
    refine (R8.out _ S4.out.1).mono ?_
    rintro e w6 ⟨rfl, rfl⟩
    go_wp2_with fail
    refine (U16.out _ S4.out.1).mono ?_
    rintro e w6 ⟨rfl, hb⟩
    have S5 := Lib.hid (S4.out.on hb)
    clear hb S4 c0 c1
    obtain ⟨c0, c1⟩ := S5.out.cells
    go_wp2_with fail
    refine (U32.out _ S5.out.1).mono ?_
    rintro e w7 ⟨rfl, hb⟩
    have S6 := Lib.hid (S5.out.on hb)
    clear hb S5 c0 c1
    obtain ⟨c0, c1⟩ := S6.out.cells
    go_wp2_with fail
    refine (U64.out _ S6.out.1).mono ?_
    rintro e w8 ⟨rfl, hb⟩
    have S7 := Lib.hid (S6.out.on hb)
    clear hb S6 c0 c1
    go_wp2
    go_ret
    exact ⟨rfl, S7.out.2.1⟩
set_option maxHeartbeats 1000000 in
theorem octetGets_any (l : List UInt8) (v : Value) (b : Bool) (at_ many : Int) (w : World) (hB : Byt w v l) (ha : -9223372036854775808 ≤ at_ ∧ at_ ≤ 9223372036854775807) (hm : -9223372036854775808 ≤ many ∧ many ≤ 9223372036854775807) :
    Calls Try.prog 3 #[v, .bool b, .int .i64 at_, .int .i64 many] w fun e w' => e = .returned (.bool true) ∧ Below w.heap.size w w' := by
  obtain ⟨a, c, rfl, hc, hA⟩ := hB.open
  by_cases hl : l.length ≤ 300
  · by_cases h : 0 ≤ at_ ∧ 0 ≤ many ∧ at_ + many ≤ l.length
    · obtain ⟨i, rfl⟩ := Int.eq_ofNat_of_zero_le h.1
      obtain ⟨m, rfl⟩ := Int.eq_ofNat_of_zero_le h.2.1
      exact octetGets_yes a l c b i m w hc hl (by omega) hA
    · exact octetGets_no a l c b at_ many ha hm w hc hl h hA
  · have g : decide ((300 : Int) < (l.length : Nat)) = true := by simp; omega
    clear hl hA hB
    generalize l.length = n at *
    go_enter Try.func3, Try.ntmps3
    go_wp2_with (go_at_call 7; refine (t_known _).mono ?_; rintro e w1 ⟨rfl, hb⟩)
    go_ret
    exact ⟨rfl, hb⟩
end Go.Proofs.Ytldgfaoiepnemaa
