/-
  Parse.
-/
import Derived.Test.YthghanidabmfgaaGreatDoorSix5
import Derived.Test.YthghanidabmfgaaGreatDoorLong5
namespace Go.Proofs.YthghanidabmfgaaGreatDoor
open Go.RowKit Go.Sort
set_option maxRecDepth 8000
/-- What Parse answers. -/
def paV (l : List UInt8) : Value := match parseA l with
  | some (v, b) => .tuple #[.agg (adC v b), .int .i64 0]
  | none => .tuple #[.agg (adC false n16), .int .i64 9]
theorem paV_none {l : List UInt8} (h : parseA l = none) : paV l = .tuple #[.agg (adC false n16), .int .i64 9] := by unfold paV; rw [h]
theorem paV_some {l : List UInt8} {v : Bool} {b : List Int} (h : parseA l = some (v, b)) : paV l = .tuple #[.agg (adC v b), .int .i64 0] := by unfold paV; rw [h]
theorem st_addr {w : World} {g : Nat} {t : TypeId} {old : Array Value} {v : Bool} {b : List Int} (h : Blk w g t old) (ho : old.size = 17) (hl : b.length = 16) : (Instr.storeAt 24 (.pointer (some ⟨g, 0, none⟩)) (.agg (adC v b))).run Tryz.prog w = .ok () (w.setRow g (adC v b)) :=
  st_row 24 h (by rw [infA, adC_size, hl]) (by rw [ho, adC_size, hl]) (adC_ok _ _)
section
variable {ops : Array Oper} {rest : List Oper} {o : Oper} {a : Act} {w : World} {Q : Exit → Act → World → Prop}
/-- A value is built of parts. -/
theorem wl_build (hw : Region.wanted o (yielded ops a.tmps) = true) (T : TypeId) (ps : Array (Nat × Operand)) (ho : o.op = .build T ps) (vs : List (Nat × Value)) (hv : ps.toList.map (fun p => (p.1, a.eval p.2)) = vs) (cells : Array Value) (hB : Tryz.prog.built T vs = some cells)
    (h : wpList Tryz.prog ops Q rest (a.put o.dst (.agg cells)) w) : wpList Tryz.prog ops Q (o :: rest) a w :=
  BigFrame.wpList_want hw fun _ hK => by
    have r := run_build (P := Tryz.prog) w T vs.toArray cells (by simpa using hB)
    have hv' : (ps.map fun (i, x) => (i, a.eval x)) = vs.toArray := by rw [← hv, ← Array.toList_inj]; simp
    unfold Oper.wp execOp
    simp only [ho, hv', Sem.run_bind, r, Result.andThen_ok, Sem.run_pure]
    exact hK _ _ h
end
theorem built_A (parts : List (Nat × Value)) : Tryz.prog.built 24 parts = Instr.fill (#[(0, 1), (1, 16)][·]?) #[.bool false, .int .u8 0, .int .u8 0, .int .u8 0, .int .u8 0, .int .u8 0, .int .u8 0, .int .u8 0, .int .u8 0, .int .u8 0, .int .u8 0, .int .u8 0, .int .u8 0, .int .u8 0, .int .u8 0, .int .u8 0, .int .u8 0] parts := by kernel_rfl
theorem built_E (parts : List (Nat × Value)) : Tryz.prog.built 32 parts = Instr.fill (#[(0, 17), (17, 1)][·]?) #[.bool false, .int .u8 0, .int .u8 0, .int .u8 0, .int .u8 0, .int .u8 0, .int .u8 0, .int .u8 0, .int .u8 0, .int .u8 0, .int .u8 0, .int .u8 0, .int .u8 0, .int .u8 0, .int .u8 0, .int .u8 0, .int .u8 0, .int .u16 0] parts := by kernel_rfl
theorem built_addr {v : Bool} {b : List Int} (hl : b.length = 16) : Tryz.prog.built 24 [(0, .bool v), (1, .agg (u8C b))] = some (adC v b) := by
  rw [built_A]
  obtain ⟨x0, b, rfl⟩ := List.exists_cons_of_length_eq_add_one hl
  rw [List.length_cons] at hl
  replace hl := Nat.succ.inj hl
  obtain ⟨x1, b, rfl⟩ := List.exists_cons_of_length_eq_add_one hl
  rw [List.length_cons] at hl
  replace hl := Nat.succ.inj hl
  obtain ⟨x2, b, rfl⟩ := List.exists_cons_of_length_eq_add_one hl
  rw [List.length_cons] at hl
  replace hl := Nat.succ.inj hl
  obtain ⟨x3, b, rfl⟩ := List.exists_cons_of_length_eq_add_one hl
  rw [List.length_cons] at hl
  replace hl := Nat.succ.inj hl
  obtain ⟨x4, b, rfl⟩ := List.exists_cons_of_length_eq_add_one hl
  rw [List.length_cons] at hl
  replace hl := Nat.succ.inj hl
  obtain ⟨x5, b, rfl⟩ := List.exists_cons_of_length_eq_add_one hl
  rw [List.length_cons] at hl
  replace hl := Nat.succ.inj hl
  obtain ⟨x6, b, rfl⟩ := List.exists_cons_of_length_eq_add_one hl
  rw [List.length_cons] at hl
  replace hl := Nat.succ.inj hl
  obtain ⟨x7, b, rfl⟩ := List.exists_cons_of_length_eq_add_one hl
  rw [List.length_cons] at hl
  replace hl := Nat.succ.inj hl
  obtain ⟨x8, b, rfl⟩ := List.exists_cons_of_length_eq_add_one hl
  rw [List.length_cons] at hl
  replace hl := Nat.succ.inj hl
  obtain ⟨x9, b, rfl⟩ := List.exists_cons_of_length_eq_add_one hl
  rw [List.length_cons] at hl
  replace hl := Nat.succ.inj hl
  obtain ⟨x10, b, rfl⟩ := List.exists_cons_of_length_eq_add_one hl
  rw [List.length_cons] at hl
  replace hl := Nat.succ.inj hl
  obtain ⟨x11, b, rfl⟩ := List.exists_cons_of_length_eq_add_one hl
  rw [List.length_cons] at hl
  replace hl := Nat.succ.inj hl
  obtain ⟨x12, b, rfl⟩ := List.exists_cons_of_length_eq_add_one hl
  rw [List.length_cons] at hl
  replace hl := Nat.succ.inj hl
  obtain ⟨x13, b, rfl⟩ := List.exists_cons_of_length_eq_add_one hl
  rw [List.length_cons] at hl
  replace hl := Nat.succ.inj hl
  obtain ⟨x14, b, rfl⟩ := List.exists_cons_of_length_eq_add_one hl
  rw [List.length_cons] at hl
  replace hl := Nat.succ.inj hl
  obtain ⟨x15, b, rfl⟩ := List.exists_cons_of_length_eq_add_one hl
  rw [List.length_cons] at hl
  replace hl := Nat.succ.inj hl
  obtain rfl := List.length_eq_zero_iff.1 hl
  change Instr.fill _ _ _ = some _
  kernel_rfl
theorem built_ends {v : Bool} {b : List Int} {p : Int} (hl : b.length = 16) : Tryz.prog.built 32 [(0, .agg (adC v b)), (1, .int .u16 p)] = some (enC v b p) := by
  rw [built_E]
  obtain ⟨x0, b, rfl⟩ := List.exists_cons_of_length_eq_add_one hl
  rw [List.length_cons] at hl
  replace hl := Nat.succ.inj hl
  obtain ⟨x1, b, rfl⟩ := List.exists_cons_of_length_eq_add_one hl
  rw [List.length_cons] at hl
  replace hl := Nat.succ.inj hl
  obtain ⟨x2, b, rfl⟩ := List.exists_cons_of_length_eq_add_one hl
  rw [List.length_cons] at hl
  replace hl := Nat.succ.inj hl
  obtain ⟨x3, b, rfl⟩ := List.exists_cons_of_length_eq_add_one hl
  rw [List.length_cons] at hl
  replace hl := Nat.succ.inj hl
  obtain ⟨x4, b, rfl⟩ := List.exists_cons_of_length_eq_add_one hl
  rw [List.length_cons] at hl
  replace hl := Nat.succ.inj hl
  obtain ⟨x5, b, rfl⟩ := List.exists_cons_of_length_eq_add_one hl
  rw [List.length_cons] at hl
  replace hl := Nat.succ.inj hl
  obtain ⟨x6, b, rfl⟩ := List.exists_cons_of_length_eq_add_one hl
  rw [List.length_cons] at hl
  replace hl := Nat.succ.inj hl
  obtain ⟨x7, b, rfl⟩ := List.exists_cons_of_length_eq_add_one hl
  rw [List.length_cons] at hl
  replace hl := Nat.succ.inj hl
  obtain ⟨x8, b, rfl⟩ := List.exists_cons_of_length_eq_add_one hl
  rw [List.length_cons] at hl
  replace hl := Nat.succ.inj hl
  obtain ⟨x9, b, rfl⟩ := List.exists_cons_of_length_eq_add_one hl
  rw [List.length_cons] at hl
  replace hl := Nat.succ.inj hl
  obtain ⟨x10, b, rfl⟩ := List.exists_cons_of_length_eq_add_one hl
  rw [List.length_cons] at hl
  replace hl := Nat.succ.inj hl
  obtain ⟨x11, b, rfl⟩ := List.exists_cons_of_length_eq_add_one hl
  rw [List.length_cons] at hl
  replace hl := Nat.succ.inj hl
  obtain ⟨x12, b, rfl⟩ := List.exists_cons_of_length_eq_add_one hl
  rw [List.length_cons] at hl
  replace hl := Nat.succ.inj hl
  obtain ⟨x13, b, rfl⟩ := List.exists_cons_of_length_eq_add_one hl
  rw [List.length_cons] at hl
  replace hl := Nat.succ.inj hl
  obtain ⟨x14, b, rfl⟩ := List.exists_cons_of_length_eq_add_one hl
  rw [List.length_cons] at hl
  replace hl := Nat.succ.inj hl
  obtain ⟨x15, b, rfl⟩ := List.exists_cons_of_length_eq_add_one hl
  rw [List.length_cons] at hl
  replace hl := Nat.succ.inj hl
  obtain rfl := List.length_eq_zero_iff.1 hl
  change Instr.fill _ _ _ = some _
  kernel_rfl
theorem st_newA {v : Bool} {b : List Int} (hl : b.length = 16) (W : World) : (Instr.storeAt 24 (.pointer (some ⟨W.heap.size, 0, none⟩)) (.agg (adC v b))).run Tryz.prog (W.alloc (.cells #[.bool false, .int .u8 0, .int .u8 0, .int .u8 0, .int .u8 0, .int .u8 0, .int .u8 0, .int .u8 0, .int .u8 0, .int .u8 0, .int .u8 0, .int .u8 0, .int .u8 0, .int .u8 0, .int .u8 0, .int .u8 0, .int .u8 0] 24)) = .ok () ((W.alloc (.cells #[.bool false, .int .u8 0, .int .u8 0, .int .u8 0, .int .u8 0, .int .u8 0, .int .u8 0, .int .u8 0, .int .u8 0, .int .u8 0, .int .u8 0, .int .u8 0, .int .u8 0, .int .u8 0, .int .u8 0, .int .u8 0, .int .u8 0] 24)).setRow W.heap.size (adC v b)) :=
  st_addr (Blk.new _ _ _ rfl) rfl hl
theorem st_new8 {b : List Int} (hl : b.length = 8) (W : World) : (Instr.storeAt 54 (.pointer (some ⟨W.heap.size, 0, none⟩)) (.agg (u16C b))).run Tryz.prog (W.alloc (.cells #[.int .u16 0, .int .u16 0, .int .u16 0, .int .u16 0, .int .u16 0, .int .u16 0, .int .u16 0, .int .u16 0] 54)) = .ok () ((W.alloc (.cells #[.int .u16 0, .int .u16 0, .int .u16 0, .int .u16 0, .int .u16 0, .int .u16 0, .int .u16 0, .int .u16 0] 54)).setRow W.heap.size (u16C b)) :=
  st_row 54 (Blk.new _ _ _ rfl) (by rw [inf8, u16C_size, hl]) (by rw [u16C_size, hl]; rfl) (u16C_ok _)
/-- A block that is new, with a row stored into it: what was there, and what is there. -/
theorem new_row {w W : World} (T : TypeId) (zs cs : Array Value) (h : Below w.heap.size w W) : Blk ((W.alloc (.cells zs T)).setRow W.heap.size cs) W.heap.size T cs ∧ Below w.heap.size w ((W.alloc (.cells zs T)).setRow W.heap.size cs) :=
  ⟨(Blk.new _ _ _ rfl).row _, below_setRow (h.alloc h.size _) h.size _⟩
theorem new_old {W : World} (T : TypeId) (zs cs : Array Value) {g : Nat} {t : TypeId} {c : Array Value} (h : Blk W g t c) : Blk ((W.alloc (.cells zs T)).setRow W.heap.size cs) g t c := (h.alloc _).rowOther (Nat.ne_of_lt h.lt) _
theorem cp_four {w : World} {g h : Nat} {b : List Int} (hb : b.length = 4) (hg : Blk w g 24 (adC false n16)) (hh : Blk w h 57 (u8C b)) :
    (Builtin.copy_ #[33, 33] 3 #[.slice (some ⟨g, 1, none⟩) 16 16, .slice (some ⟨h, 0, none⟩) 4 4]).run Tryz.prog w = .ok (.int .i64 4) (w.setRow g (adC false (b ++ n12))) := by
  have e : (ints .u8 b).length = 4 := by rw [ints_length, hb]
  have := run_copy_row (P := Tryz.prog) w 33 33 3 5 g 1 16 16 ⟨h, 0, none⟩ 4 4 (adC false n16) 24 (ints .u8 b) Tryz.underlying33 (by kernel_rfl) hg (by rw [e]; rfl) (fun j v hj => by
    rw [Lib.add_plain, Nat.zero_add]; exact hh.cell (by simpa [u8C] using hj)) (by rw [e, adC_size]; decide) (ints_one _ _)
  rw [e] at this
  rw [this]
  congr 1
  congr 1
  match b, hb with
  | [x, y, z, u], _ => rfl
set_option maxHeartbeats 2000000 in
theorem t_parse (s : ByteArray) (hs : s.size ≤ 4000) (w : World) (hw : Env5 w) : Calls Tryz.prog 15 #[.string s] w fun e w' => e = .returned (paV s.data.toList) ∧ Below w.heap.size w w' := by
  have G := Lib.hid hw
  have S0 := Lib.hid (below_alloc w (.cells #[.bool false, .int .u8 0, .int .u8 0, .int .u8 0, .int .u8 0, .int .u8 0, .int .u8 0, .int .u8 0, .int .u8 0, .int .u8 0, .int .u8 0, .int .u8 0, .int .u8 0, .int .u8 0, .int .u8 0, .int .u8 0, .int .u8 0] 24))
  have R0 : Hid (Blk (w.alloc (.cells #[.bool false, .int .u8 0, .int .u8 0, .int .u8 0, .int .u8 0, .int .u8 0, .int .u8 0, .int .u8 0, .int .u8 0, .int .u8 0, .int .u8 0, .int .u8 0, .int .u8 0, .int .u8 0, .int .u8 0, .int .u8 0, .int .u8 0] 24)) w.heap.size 24 (adC false n16)) := Lib.hid (Blk.new _ _ _ rfl)
  have hl : s.data.toList.length = s.size := len_list s
  clear hw
  by_cases h45 : 45 < s.size
  · have N := Lib.hid (show parseA s.data.toList = none from parse_long (by omega))
    go_enter Tryz.func15, Tryz.ntmps15
    go_upto_region 1 with fail
    generalize w.alloc (.cells #[.bool false, .int .u8 0, .int .u8 0, .int .u8 0, .int .u8 0, .int .u8 0, .int .u8 0, .int .u8 0, .int .u8 0, .int .u8 0, .int .u8 0, .int .u8 0, .int .u8 0, .int .u8 0, .int .u8 0, .int .u8 0, .int .u8 0] 24) = w1 at *
    have s2 : (Instr.storeAt 24 (.pointer (some ⟨w.heap.size, 0, none⟩)) (.agg #[.bool false, .int .u8 0, .int .u8 0, .int .u8 0, .int .u8 0, .int .u8 0, .int .u8 0, .int .u8 0, .int .u8 0, .int .u8 0, .int .u8 0, .int .u8 0, .int .u8 0, .int .u8 0, .int .u8 0, .int .u8 0, .int .u8 0])).run Tryz.prog w1 = .ok () (w1.setRow w.heap.size (adC false n16)) := st_addr (v := false) (b := n16) R0.out (by rw [adC_size]; rfl) rfl
    have R := Lib.hid (R0.out.row (adC false n16))
    have S := Lib.hid (below_setRow S0.out (Nat.le_refl _) (adC false n16))
    go_wp2_with (refine wl_store rfl _ _ _ rfl _ rfl (.agg #[.bool false, .int .u8 0, .int .u8 0, .int .u8 0, .int .u8 0, .int .u8 0, .int .u8 0, .int .u8 0, .int .u8 0, .int .u8 0, .int .u8 0, .int .u8 0, .int .u8 0, .int .u8 0, .int .u8 0, .int .u8 0, .int .u8 0]) rfl _ s2 ?_)
    exact bodyPost_ret (res_pair (p := 2) (q := 3) rfl _ _ w.heap.size 24 (adC false n16) (.int .i64 9) _ rfl rfl R.out Tryz.underlying24 rfl (by rw [infA, adC_size]; rfl)) rfl ⟨by rw [paV_none N.out], S.out⟩
  · have hs45 : (s.size : Int) ≤ 45 := by omega
    have P4 := Lib.hid (t_parse4 s hs)
    cases h4 : p4 s.data.toList with
    | some b =>
      obtain ⟨b4, bB, _⟩ := p4_some h4
      have N := Lib.hid (show parseA s.data.toList = some (false, b ++ n12) by unfold parseA; rw [h4])
      rw [p4V_some h4] at P4
      clear h4 h45
      go_enter Tryz.func15, Tryz.ntmps15
      go_upto_region 1 with fail
      generalize w.alloc (.cells #[.bool false, .int .u8 0, .int .u8 0, .int .u8 0, .int .u8 0, .int .u8 0, .int .u8 0, .int .u8 0, .int .u8 0, .int .u8 0, .int .u8 0, .int .u8 0, .int .u8 0, .int .u8 0, .int .u8 0, .int .u8 0, .int .u8 0] 24) = w1 at *
      go_upto_region 5 with (first
        | (go_at_call 27; refine (P4.out _ (G.out.below S0.out)).mono ?_; rintro q w2 ⟨rfl, hb⟩; have R2 := Lib.hid (show Blk w2 w.heap.size 24 (adC false n16) ∧ Below w.heap.size w w2 from ⟨R0.out.on hb, S0.out.trans (hb.mono S0.out.size)⟩); clear hb R0 S0)
        | (refine wl_store rfl _ _ _ rfl _ rfl (.agg (u8C b)) rfl _ (st_new4 (b := b) b4 w2) ?_; have R3 := Lib.hid (show Blk ((w2.alloc (.cells #[.int .u8 0, .int .u8 0, .int .u8 0, .int .u8 0] 57)).setRow w2.heap.size (u8C b)) w.heap.size 24 (adC false n16) ∧ _ from ⟨(R2.out.1.alloc _).rowOther (Nat.ne_of_lt R2.out.1.lt) _, blk_new4 (b := b) R2.out.2⟩)))
      generalize (w2.alloc (.cells #[.int .u8 0, .int .u8 0, .int .u8 0, .int .u8 0] 57)).setRow w2.heap.size (u8C b) = w3 at *
      generalize hg4 : w2.heap.size = g4 at *
      have hlt : w.heap.size < g4 := by rw [← hg4]; exact R2.out.1.lt
      clear R2 hg4
      go_upto_region 6 with (refine wl_store rfl _ _ _ rfl _ rfl (.agg #[.bool false, .int .u8 0, .int .u8 0, .int .u8 0, .int .u8 0, .int .u8 0, .int .u8 0, .int .u8 0, .int .u8 0, .int .u8 0, .int .u8 0, .int .u8 0, .int .u8 0, .int .u8 0, .int .u8 0, .int .u8 0, .int .u8 0]) rfl _ (st_newA (v := false) (b := n16) rfl w3) ?_)
      have R4 : Hid (Blk ((w3.alloc (.cells #[.bool false, .int .u8 0, .int .u8 0, .int .u8 0, .int .u8 0, .int .u8 0, .int .u8 0, .int .u8 0, .int .u8 0, .int .u8 0, .int .u8 0, .int .u8 0, .int .u8 0, .int .u8 0, .int .u8 0, .int .u8 0, .int .u8 0] 24)).setRow w3.heap.size (adC false n16)) w.heap.size 24 (adC false n16) ∧ Blk ((w3.alloc (.cells #[.bool false, .int .u8 0, .int .u8 0, .int .u8 0, .int .u8 0, .int .u8 0, .int .u8 0, .int .u8 0, .int .u8 0, .int .u8 0, .int .u8 0, .int .u8 0, .int .u8 0, .int .u8 0, .int .u8 0, .int .u8 0, .int .u8 0] 24)).setRow w3.heap.size (adC false n16)) g4 57 (u8C b) ∧ Blk ((w3.alloc (.cells #[.bool false, .int .u8 0, .int .u8 0, .int .u8 0, .int .u8 0, .int .u8 0, .int .u8 0, .int .u8 0, .int .u8 0, .int .u8 0, .int .u8 0, .int .u8 0, .int .u8 0, .int .u8 0, .int .u8 0, .int .u8 0, .int .u8 0] 24)).setRow w3.heap.size (adC false n16)) w3.heap.size 24 (adC false n16) ∧ Below w.heap.size w ((w3.alloc (.cells #[.bool false, .int .u8 0, .int .u8 0, .int .u8 0, .int .u8 0, .int .u8 0, .int .u8 0, .int .u8 0, .int .u8 0, .int .u8 0, .int .u8 0, .int .u8 0, .int .u8 0, .int .u8 0, .int .u8 0, .int .u8 0, .int .u8 0] 24)).setRow w3.heap.size (adC false n16)) ∧ w.heap.size < w3.heap.size) := Lib.hid ⟨new_old _ _ _ R3.out.1, new_old _ _ _ R3.out.2.1, (new_row _ _ _ R3.out.2.2).1, (new_row _ _ _ R3.out.2.2).2, R3.out.1.lt⟩
      clear R3
      generalize (w3.alloc (.cells #[.bool false, .int .u8 0, .int .u8 0, .int .u8 0, .int .u8 0, .int .u8 0, .int .u8 0, .int .u8 0, .int .u8 0, .int .u8 0, .int .u8 0, .int .u8 0, .int .u8 0, .int .u8 0, .int .u8 0, .int .u8 0, .int .u8 0] 24)).setRow w3.heap.size (adC false n16) = w4 at *
      generalize w3.heap.size = g6 at *
      have cp := cp_four (w := w4.drew) b4 R4.out.2.2.1 R4.out.2.1
      have R5 : Hid (Blk (w4.drew.setRow g6 (adC false (b ++ n12))) w.heap.size 24 (adC false n16) ∧ Blk (w4.drew.setRow g6 (adC false (b ++ n12))) g6 24 (adC false (b ++ n12)) ∧ Below w.heap.size w (w4.drew.setRow g6 (adC false (b ++ n12)))) := Lib.hid ⟨Blk.rowOther (w := w4.drew) R4.out.1 (Nat.ne_of_lt R4.out.2.2.2.2) _, Blk.row (w := w4.drew) R4.out.2.2.1 _, below_setRow R4.out.2.2.2.1.drew (Nat.le_of_lt R4.out.2.2.2.2) _⟩
      clear R4
      go_region
      generalize w4.drew.setRow g6 (adC false (b ++ n12)) = w5 at *
      have l16 : (b ++ n12).length = 16 := by simp [n12, b4]
      have l2 := ld_addr l16 R5.out.2.1
      have s2 := st_addr (v := false) (b := b ++ n12) R5.out.1 (by rw [adC_size]; rfl) l16
      have R := Lib.hid (R5.out.1.row (adC false (b ++ n12)))
      have S := Lib.hid (below_setRow R5.out.2.2 (Nat.le_refl _) (adC false (b ++ n12)))
      have I := Lib.hid (show (Tryz.prog.info? 24).map (·.size) = some (adC false (b ++ n12)).size by rw [infA, adC_size, l16])
      clear cp R5 P4
      generalize b ++ n12 = z at *
      go_wp2_with (first | (refine wl_load rfl _ _ rfl _ rfl _ l2 ?_) | (refine wl_store rfl _ _ _ rfl _ rfl (.agg (adC false z)) rfl _ s2 ?_))
      exact bodyPost_ret (res_pair (p := 2) (q := 3) rfl _ _ w.heap.size 24 (adC false z) (.int .i64 0) _ rfl rfl R.out Tryz.underlying24 rfl I.out) rfl ⟨by rw [paV_some N.out], S.out⟩
    | none =>
      have P6 := Lib.hid (fun w hw => t_parse6 s (by omega) w hw)
      rw [p4V_none h4] at P4
      cases h6 : q6 s.data.toList with
      | none =>
        have N := Lib.hid (show parseA s.data.toList = none by unfold parseA; rw [h4, h6]; rfl)
        rw [p6V_none h6] at P6
        clear h4 h45 h6
        go_enter Tryz.func15, Tryz.ntmps15
        go_upto_region 1 with fail
        generalize w.alloc (.cells #[.bool false, .int .u8 0, .int .u8 0, .int .u8 0, .int .u8 0, .int .u8 0, .int .u8 0, .int .u8 0, .int .u8 0, .int .u8 0, .int .u8 0, .int .u8 0, .int .u8 0, .int .u8 0, .int .u8 0, .int .u8 0, .int .u8 0] 24) = w1 at *
        go_upto_region 8 with (first
          | (go_at_call 27; refine (P4.out _ (G.out.below S0.out)).mono ?_; rintro q w2 ⟨rfl, hb⟩; have R2 := Lib.hid (show Blk w2 w.heap.size 24 (adC false n16) ∧ Below w.heap.size w w2 from ⟨R0.out.on hb, S0.out.trans (hb.mono S0.out.size)⟩); clear hb R0 S0)
          | (refine wl_store rfl _ _ _ rfl _ rfl (.agg (u8C n4)) rfl _ (st_new4 (b := n4) rfl w2) ?_; have R3 := Lib.hid (show Blk ((w2.alloc (.cells #[.int .u8 0, .int .u8 0, .int .u8 0, .int .u8 0] 57)).setRow w2.heap.size (u8C n4)) w.heap.size 24 (adC false n16) ∧ _ from ⟨new_old _ _ _ R2.out.1, (blk_new4 (b := n4) R2.out.2).2⟩)))
        generalize (w2.alloc (.cells #[.int .u8 0, .int .u8 0, .int .u8 0, .int .u8 0] 57)).setRow w2.heap.size (u8C n4) = w3 at *
        go_upto_region 9 with (first
          | (go_at_call 28; refine (P6.out _ (G.out.below R3.out.2)).mono ?_; rintro q w4 ⟨rfl, hb⟩; have R4 := Lib.hid (show Blk w4 w.heap.size 24 (adC false n16) ∧ Below w.heap.size w w4 from ⟨R3.out.1.on hb, R3.out.2.trans (hb.mono R3.out.2.size)⟩); clear hb)
          | (refine wl_store rfl _ _ _ rfl _ rfl (.agg (u16C n8)) rfl _ (st_new8 (b := n8) rfl w4) ?_; have R5 := Lib.hid (show Blk ((w4.alloc (.cells #[.int .u16 0, .int .u16 0, .int .u16 0, .int .u16 0, .int .u16 0, .int .u16 0, .int .u16 0, .int .u16 0] 54)).setRow w4.heap.size (u16C n8)) w.heap.size 24 (adC false n16) ∧ _ from ⟨new_old _ _ _ R4.out.1, (new_row 54 #[.int .u16 0, .int .u16 0, .int .u16 0, .int .u16 0, .int .u16 0, .int .u16 0, .int .u16 0, .int .u16 0] (u16C n8) R4.out.2).2⟩)))
        generalize (w4.alloc (.cells #[.int .u16 0, .int .u16 0, .int .u16 0, .int .u16 0, .int .u16 0, .int .u16 0, .int .u16 0, .int .u16 0] 54)).setRow w4.heap.size (u16C n8) = w5 at *
        have s2 : (Instr.storeAt 24 (.pointer (some ⟨w.heap.size, 0, none⟩)) (.agg #[.bool false, .int .u8 0, .int .u8 0, .int .u8 0, .int .u8 0, .int .u8 0, .int .u8 0, .int .u8 0, .int .u8 0, .int .u8 0, .int .u8 0, .int .u8 0, .int .u8 0, .int .u8 0, .int .u8 0, .int .u8 0, .int .u8 0])).run Tryz.prog w5 = .ok () (w5.setRow w.heap.size (adC false n16)) := st_addr (v := false) (b := n16) R5.out.1 (by rw [adC_size]; rfl) rfl
        have R := Lib.hid (R5.out.1.row (adC false n16))
        have S := Lib.hid (below_setRow R5.out.2 (Nat.le_refl _) (adC false n16))
        clear P4 P6 R2 R3 R4 R5
        go_wp2_with (refine wl_store rfl _ _ _ rfl _ rfl (.agg #[.bool false, .int .u8 0, .int .u8 0, .int .u8 0, .int .u8 0, .int .u8 0, .int .u8 0, .int .u8 0, .int .u8 0, .int .u8 0, .int .u8 0, .int .u8 0, .int .u8 0, .int .u8 0, .int .u8 0, .int .u8 0, .int .u8 0]) rfl _ s2 ?_)
        exact bodyPost_ret (res_pair (p := 2) (q := 3) rfl _ _ w.heap.size 24 (adC false n16) (.int .i64 9) _ rfl rfl R.out Tryz.underlying24 rfl (by rw [infA, adC_size]; rfl)) rfl ⟨by rw [paV_none N.out], S.out⟩
      | some g =>
        have N := Lib.hid (show parseA s.data.toList = some (true, g2b g) by unfold parseA; rw [h4, h6]; rfl)
        rw [p6V_some h6] at P6
        obtain ⟨g8, glt⟩ := q6_some h6
        have n8' : (nats g).length = 8 := by simp [nats, g8]
        have l16 : (g2b g).length = 16 := by rw [g2b_length, g8]
        have J := Lib.hid (fun w => t_joinG g g8 glt w)
        clear h4 h45 h6
        go_enter Tryz.func15, Tryz.ntmps15
        go_upto_region 1 with fail
        generalize w.alloc (.cells #[.bool false, .int .u8 0, .int .u8 0, .int .u8 0, .int .u8 0, .int .u8 0, .int .u8 0, .int .u8 0, .int .u8 0, .int .u8 0, .int .u8 0, .int .u8 0, .int .u8 0, .int .u8 0, .int .u8 0, .int .u8 0, .int .u8 0] 24) = w1 at *
        go_upto_region 8 with (first
          | (go_at_call 27; refine (P4.out _ (G.out.below S0.out)).mono ?_; rintro q w2 ⟨rfl, hb⟩; have R2 := Lib.hid (show Blk w2 w.heap.size 24 (adC false n16) ∧ Below w.heap.size w w2 from ⟨R0.out.on hb, S0.out.trans (hb.mono S0.out.size)⟩); clear hb R0 S0)
          | (refine wl_store rfl _ _ _ rfl _ rfl (.agg (u8C n4)) rfl _ (st_new4 (b := n4) rfl w2) ?_; have R3 := Lib.hid (show Blk ((w2.alloc (.cells #[.int .u8 0, .int .u8 0, .int .u8 0, .int .u8 0] 57)).setRow w2.heap.size (u8C n4)) w.heap.size 24 (adC false n16) ∧ _ from ⟨new_old _ _ _ R2.out.1, (blk_new4 (b := n4) R2.out.2).2⟩)))
        generalize (w2.alloc (.cells #[.int .u8 0, .int .u8 0, .int .u8 0, .int .u8 0] 57)).setRow w2.heap.size (u8C n4) = w3 at *
        go_upto_region 9 with (first
          | (go_at_call 28; refine (P6.out _ (G.out.below R3.out.2)).mono ?_; rintro q w4 ⟨rfl, hb⟩; have R4 := Lib.hid (show Blk w4 w.heap.size 24 (adC false n16) ∧ Below w.heap.size w w4 from ⟨R3.out.1.on hb, R3.out.2.trans (hb.mono R3.out.2.size)⟩); clear hb)
          | (refine wl_store rfl _ _ _ rfl _ rfl (.agg (u16C (nats g))) rfl _ (st_new8 (b := nats g) n8' w4) ?_; have R5 := Lib.hid (show Blk ((w4.alloc (.cells #[.int .u16 0, .int .u16 0, .int .u16 0, .int .u16 0, .int .u16 0, .int .u16 0, .int .u16 0, .int .u16 0] 54)).setRow w4.heap.size (u16C (nats g))) w.heap.size 24 (adC false n16) ∧ _ from ⟨new_old _ _ _ R4.out.1, new_row 54 #[.int .u16 0, .int .u16 0, .int .u16 0, .int .u16 0, .int .u16 0, .int .u16 0, .int .u16 0, .int .u16 0] (u16C (nats g)) R4.out.2⟩)))
        generalize (w4.alloc (.cells #[.int .u16 0, .int .u16 0, .int .u16 0, .int .u16 0, .int .u16 0, .int .u16 0, .int .u16 0, .int .u16 0] 54)).setRow w4.heap.size (u16C (nats g)) = w5 at *
        generalize w4.heap.size = g7 at *
        have l2 := ld_8 n8' R5.out.2.1
        have sz : (u8C (g2b g)).size = 16 := by rw [u8C_size, l16]
        go_wp2_with (first
          | (refine wl_load rfl _ _ rfl _ rfl _ l2 ?_)
          | (refine wl_store rfl _ _ _ rfl _ rfl (.agg (adC true (g2b g))) rfl _ (st_addr R6.out.1 (by rw [adC_size]; rfl) l16) ?_)
          | (refine wl_build rfl _ _ rfl [(0, .bool true), (1, .agg (u8C (g2b g)))] rfl _ (built_addr (v := true) l16) ?_)
          | (go_at_call 29; refine (J.out _).mono ?_; rintro q w6 ⟨rfl, hb⟩; have R6 := Lib.hid (show Blk w6 w.heap.size 24 (adC false n16) ∧ Below w.heap.size w w6 from ⟨R5.out.1.on hb, R5.out.2.2.trans (hb.mono R5.out.2.2.size)⟩); clear hb))
        exact bodyPost_ret (res_pair (p := 2) (q := 3) rfl _ _ w.heap.size 24 (adC true (g2b g)) (.int .i64 0) _ rfl rfl (R6.out.1.row _) Tryz.underlying24 rfl (by rw [infA, adC_size, l16])) rfl ⟨by rw [paV_some N.out], below_setRow R6.out.2 (Nat.le_refl _) _⟩
end Go.Proofs.YthghanidabmfgaaGreatDoor
