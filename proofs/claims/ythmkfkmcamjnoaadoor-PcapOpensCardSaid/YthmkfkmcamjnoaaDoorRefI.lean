/-
  The document's numbers: Add of any, From.
-/
import Derived.Test.YthmkfkmcamjnoaaDoorRefF
import Derived.Test.YthmkfkmcamjnoaaDoorRefH
import Derived.Deep.RegionHeld3
import Derived.Test.YthmkfkmcamjnoaaDoorGives
namespace Go.Proofs.YthmkfkmcamjnoaaDoor
set_option maxRecDepth 8000
open Go.RowKit
def addS (b c : Bool) (m n : Int) : Bool := if b = c then b else dS b m n
def addM (b c : Bool) (m n : Int) : Int := if b = c then m + n else hiS m n - loS m n
theorem radd_any (b c : Bool) (m n : Int) (hm : 0 ≤ m ∧ m < 65536 ^ 19) (hn : 0 ≤ n ∧ n < 65536 ^ 19) (w : World) :
    Calls Tryd.prog 48 #[.agg (numC b (dig m)), .agg (numC c (dig n))] w fun e w' => e = .returned (.agg (numC (addS b c m n) (dig (addM b c m n)))) ∧ Below w.heap.size w w' := by
  unfold addS addM
  by_cases h : b = c
  · subst h
    rw [if_pos rfl, if_pos rfl]
    exact radd_same b m n hm hn w
  · rw [if_neg h, if_neg h]
    obtain rfl : c = !b := by cases b <;> cases c <;> simp_all
    exact radd_diff b m n ⟨hm.1, Int.lt_of_lt_of_le hm.2 (pow_mono65 (by omega))⟩ ⟨hn.1, Int.lt_of_lt_of_le hn.2 (pow_mono65 (by omega))⟩ w
theorem add_vz (b c : Bool) (m n : Int) : vz (addS b c m n) (addM b c m n) = vz b m + vz c n := by
  unfold vz addS addM dS hiS loS
  by_cases h : m < n <;> cases b <;> cases c <;> simp [h] <;> omega
theorem addM_bd {b c : Bool} {m n : Int} (hm : 0 ≤ m) (hn : 0 ≤ n) : 0 ≤ addM b c m n ∧ addM b c m n ≤ m + n := by
  unfold addM hiS loS
  (repeat' split) <;> omega
theorem top_num : numC false (upd (fun _ => 0) 4 1) = numC false (dig 18446744073709551616) := numC_congr _ (by decide)
theorem top_bd {x : Int} (h : In x) : 0 ≤ absN (hiOf x) * 18446744073709551616 ∧ absN (hiOf x) * 18446744073709551616 ≤ 170141183460469231731687303715884105728 := by
  have := absN_bd (hi_bd h); omega
theorem from_s {x : Int} (h : In x) : addS (bne (pair0 (hiOf x)) false) false (absN (hiOf x) * 18446744073709551616) (loOf x) = pair0 x := by
  have b1 := lo_bd x
  have b2 := hi_bd h
  have e := split_eq x
  generalize hiOf x = u at *
  generalize loOf x = v at *
  unfold addS dS pair0 absN
  by_cases h0 : u < 0
  · have : x < 0 := by omega
    simp [h0, this]; omega
  · have : ¬ x < 0 := by omega
    simp [h0, this]
theorem from_m {x : Int} (h : In x) : addM (bne (pair0 (hiOf x)) false) false (absN (hiOf x) * 18446744073709551616) (loOf x) = absN x := by
  have b1 := lo_bd x
  have b2 := hi_bd h
  have e := split_eq x
  generalize hiOf x = u at *
  generalize loOf x = v at *
  unfold addM hiS loS pair0 absN
  by_cases h0 : u < 0
  · have : x < 0 := by omega
    simp [h0, this]; (repeat' split) <;> omega
  · have : ¬ x < 0 := by omega
    simp [h0, this]; omega
theorem wide19 {x : Int} (h : In x) : 0 ≤ absN x ∧ absN x < 65536 ^ 19 := by unfold In at h; unfold absN; split <;> omega
theorem At.row {w : World} {b : Nat} {x : Int} (h : At w b x) {g : Nat} (hn : b ≠ g) (cs : Array Value) : At (w.setRow g cs) b x := by
  obtain ⟨h1, h2, h3⟩ := h
  have e : ∀ k, (w.setRow g cs).cell? ⟨b, k, none⟩ = w.cell? ⟨b, k, none⟩ := fun k => by
    unfold World.cell?
    simp only [heap_setRow w g b cs hn]
  exact ⟨(e 0).trans h1, (e 1).trans h2, by simpa [World.setRow] using h3⟩
theorem At.other' {w : World} {b : Nat} {x : Int} (h : At w b x) {a : Addr} (hn : b ≠ a.block) (v : Value) : At (w.setCell a v) b x := by
  obtain ⟨h1, h2, h3⟩ := h
  have e : ∀ k, (w.setCell a v).cell? ⟨b, k, none⟩ = w.cell? ⟨b, k, none⟩ := fun k => by
    unfold World.cell?
    simp only [heap_setCell_other w a b v hn]
  exact ⟨(e 0).trans h1, (e 1).trans h2, by simpa using h3⟩
/-- A whole number is loaded in a region that draws its order. -/
theorem yieldsIf_num {ops : Array Oper} {S : World → Prop} {op : Oper} {a : Act} (hw : Region.wanted op (yielded ops a.tmps) = true) (x : Operand) (ho : op.op = .load 91 x)
    (g : Nat) (hx : a.eval x = .pointer (some ⟨g, 0, none⟩)) (b : Bool) (f : Nat → Int) (hS : ∀ w, S w → NumAt w g b f) : YieldsIf Tryd.prog ops S op (.agg (numC b f)) a :=
  .inl ⟨hw, fun w hw' => by
    unfold execOp
    simp only [ho, hx, Instr.loadAt, Instr.sureAddr, Sem.run_bind, Sem.run_pure, Result.andThen_ok, run_loadVar_row w g 91 91 (numC b f) (0, 0) _ (hS w hw') Tryd.underlying91 rfl (infoN _ _)]⟩
/-- What stands through From's calls. -/
def FromS (w : World) (x : Int) (W' : World) : Prop :=
  NumAt W' (w.heap.size + 1 + 1) false (dig 18446744073709551616) ∧ (∃ b f, NumAt W' (w.heap.size + 1) b f) ∧ W'.cell? ⟨w.heap.size, 0, none⟩ = some (.int .i64 (hiOf x)) ∧ W'.cell? ⟨w.heap.size, 1, none⟩ = some (.int .u64 (loOf x)) ∧ At W' w.heap.size x ∧ Below w.heap.size w W'
theorem FromS.on {w W W' : World} {x : Int} (h : FromS w x W) (hb : Below W.heap.size W W') : FromS w x W' :=
  ⟨h.1.on hb, h.2.1.elim fun b h' => h'.elim fun f h'' => ⟨b, f, h''.on hb⟩, (h.2.2.2.2.1.below hb).1, (h.2.2.2.2.1.below hb).2.1, h.2.2.2.2.1.below hb, h.2.2.2.2.2.trans (hb.mono h.2.2.2.2.2.size)⟩
set_option maxHeartbeats 4000000 in
theorem rfrom_any (x : Int) (hx : In x) (w : World) :
    Calls Tryd.prog 49 #[.agg #[.int .i64 (hiOf x), .int .u64 (loOf x)]] w fun e w' => e = .returned (.agg (numC (pair0 x) (dig (absN x)))) ∧ Below w.heap.size w w' := by
  have F := Lib.hid (fun w => rof_any (hiOf x) (hi_bd hx) w)
  have M := Lib.hid (fun w => rmul_any (pair0 (hiOf x)) false (absN (hiOf x)) 18446744073709551616 ⟨(absN_bd (hi_bd hx)).1, by have := (absN_bd (hi_bd hx)).2; omega⟩ ⟨by omega, by omega⟩ (by have := top_bd hx; omega) w)
  have U := Lib.hid (fun w => num64_any (loOf x) (lo_bd x).1 (lo_bd x).2 w)
  have D := Lib.hid (fun w => radd_any (bne (pair0 (hiOf x)) false) false (absN (hiOf x) * 18446744073709551616) (loOf x) ⟨(top_bd hx).1, by have := top_bd hx; omega⟩ ⟨(lo_bd x).1, by have := (lo_bd x).2; omega⟩ w)
  rw [from_s hx, from_m hx] at D
  rw [show (pair0 (hiOf x) != false) = pair0 (hiOf x) by simp] at M D
  have A : Hid (At ((w.alloc (.cells #[.int .i64 (hiOf x), .int .u64 (loOf x)] 52)).alloc (.cells (numC false fun _ => 0) 91)) w.heap.size x) := Lib.hid ((At.new w x _ rfl rfl rfl).alloc _)
  have R : Hid (NumAt ((w.alloc (.cells #[.int .i64 (hiOf x), .int .u64 (loOf x)] 52)).alloc (.cells (numC false fun _ => 0) 91)) (w.heap.size + 1) false fun _ => 0) := Lib.hid (NumAt.new _ false _ (by simp))
  have W : Hid (Below w.heap.size w ((w.alloc (.cells #[.int .i64 (hiOf x), .int .u64 (loOf x)] 52)).alloc (.cells (numC false fun _ => 0) 91))) := Lib.hid (by (repeat (first | (with_reducible exact Below.refl _ _) | (with_reducible assumption) | (with_reducible refine Below.drew ?_) | (with_reducible refine below_drewN ?_ _) | ((with_reducible refine Below.alloc ?_ ?_ _); rotate_left; (focus (first | (simp; done) | (simp; omega) | omega))) | ((with_reducible refine Below.setCell ?_ ?_ _); rotate_left; (focus (first | (simp; done) | (simp; omega) | omega))) | ((with_reducible refine Below.trans ?_ (Below.mono (by assumption) ?_)); rotate_left; (focus (first | (simp; done) | (simp; omega) | omega))))))
  have SZ : Hid (((w.alloc (.cells #[.int .i64 (hiOf x), .int .u64 (loOf x)] 52)).alloc (.cells (numC false fun _ => 0) 91)).heap.size = w.heap.size + 1 + 1) := Lib.hid (by simp)
  have b1 := lo_bd x
  have b2 := hi_bd hx
  clear hx
  go_enter Tryd.func49, Tryd.ntmps49
  go_upto_region 1 with fail
  rw [← numC_nought]
  generalize (w.alloc (.cells #[.int .i64 (hiOf x), .int .u64 (loOf x)] 52)).alloc (.cells (numC false fun _ => 0) 91) = w0 at *
  go_cut [3] from 4 to 5 (fun v wr => v = .pointer (some ⟨w.heap.size + 1 + 1, 0, none⟩) ∧ NumAt wr (w.heap.size + 1 + 1) false (fun _ => 0) ∧ NumAt wr (w.heap.size + 1) false (fun _ => 0) ∧ At wr w.heap.size x ∧ Below w.heap.size w wr)
  case first =>
    go_wp2_with (first
      | (refine store_num rfl (.tmp 3) (.tmp 4) rfl w0.heap.size rfl false (fun _ => 0) rfl false (fun _ => 0) (NumAt.new w0 false (fun _ => 0) rfl) ?_))
    go_meet
    rw [← SZ.out]
    exact ⟨rfl, (NumAt.new w0 false (fun _ => 0) rfl).whole, (R.out.alloc _).wholeOther _ (by have := SZ.out; omega), (A.out.alloc _).row (by have := SZ.out; omega) _, Below.setRow' (W.out.alloc (by have := SZ.out; omega) _) (by have := SZ.out; omega) _⟩
  case rest =>
  obtain ⟨rfl, hT, hR, hA, hW⟩ := hcut
  obtain ⟨w2, rfl⟩ : ∃ v : World, v = wc := ⟨_, rfl⟩
  have T2 := Lib.hid hT
  have R2 := Lib.hid hR
  have A2 := Lib.hid hA
  have W2 := Lib.hid hW
  clear A R W SZ hT hR hA hW
  have c1 := T2.out.cell (k := 4) (by omega)
  have f1 := T2.out.free (1 + 4)
  go_upto_region 3 with fail
  have H0 : FromS w x (w2.setCell ⟨w.heap.size + 1 + 1, 1 + 4, none⟩ (.int .u64 1)) :=
    have hA := A2.out.other' (a := ⟨w.heap.size + 1 + 1, 1 + 4, none⟩) (by dsimp only; omega) (.int .u64 1)
    ⟨(T2.out.put (k := 4) (by omega) 1).congr top_num, ⟨_, _, R2.out.other _ _ (by dsimp only; omega)⟩, hA.1, hA.2.1, hA, W2.out.setCell (by dsimp only; omega) _⟩
  generalize World.setCell w2 _ _ = w3 at *
  clear T2 R2 A2 W2 c1 f1
  refine wp_region_held_drew (S := FromS w x) (by kernel_rfl) (H0.on (Below.refl _ _).drew) (fun hHeld => ?_)
  clear H0
  refine wpAnyH_take (i := 0) (v := .pointer (some ⟨w.heap.size, 0, none⟩)) rfl (by kernel_rfl) (by kernel_rfl) (by kernel_rfl) (fun _ _ _ h => h) (Or.inl ⟨by rfl, ?_⟩) (by assumption) ?_
  · intro W' hS; go_simp
  (try simp only [Act.put])
  refine wpAnyH_take (i := 1) (v := .int .i64 (hiOf x)) rfl (by kernel_rfl) (by kernel_rfl) (by kernel_rfl) (fun _ _ _ h => h) (Or.inl ⟨by rfl, ?_⟩) (by assumption) ?_
  · intro W' hS; have c := hS.2.2.1; go_simp
  (try simp only [Act.put])
  refine wpAnyH_take (i := 3) rfl (by kernel_rfl) (by kernel_rfl) (by kernel_rfl) (fun _ _ _ h => h) (yieldsIf_num rfl (.tmp 3) rfl (w.heap.size + 1 + 1) rfl false (dig 18446744073709551616) fun _ h => h.1) (by assumption) ?_
  (try simp only [Act.put])
  refine wpAnyH_take (i := 5) (v := .pointer (some ⟨w.heap.size, 1, none⟩)) rfl (by kernel_rfl) (by kernel_rfl) (by kernel_rfl) (fun _ _ _ h => h) (Or.inl ⟨by rfl, ?_⟩) (by assumption) ?_
  · intro W' hS; go_simp
  (try simp only [Act.put])
  refine wpAnyH_take (i := 6) (v := .int .u64 (loOf x)) rfl (by kernel_rfl) (by kernel_rfl) (by kernel_rfl) (fun _ _ _ h => h) (Or.inl ⟨by rfl, ?_⟩) (by assumption) ?_
  · intro W' hS; have c := hS.2.2.2.1; go_simp
  (try simp only [Act.put])
  refine wpAnyH_ready (rs := [2]) (by kernel_rfl) (by simp) ?_
  refine AllReadyH.cons rfl (fun K hK => ?_) AllReadyH.nil
  go_simp
  go_at_call 70
  refine (F.out _).mono ?_
  rintro e w4 ⟨rfl, hb⟩
  refine hK.out _ _ (hHeld.on hb) (fun hHeld => ?_)
  clear hK K hb
  (try simp only [Act.put])
  refine wpAnyH_ready (rs := [4]) (by kernel_rfl) (by simp) ?_
  refine AllReadyH.cons rfl (fun K hK => ?_) AllReadyH.nil
  go_simp
  go_at_call 56
  refine (M.out _).mono ?_
  rintro e w5 ⟨rfl, hb⟩
  refine hK.out _ _ (hHeld.on hb) (fun hHeld => ?_)
  clear hK K hb
  (try simp only [Act.put])
  refine wpAnyH_ready (rs := [7]) (by kernel_rfl) (by simp) ?_
  refine AllReadyH.cons rfl (fun K hK => ?_) AllReadyH.nil
  go_simp
  go_at_call 52
  refine (U.out _).mono ?_
  rintro e w6 ⟨rfl, hb⟩
  refine hK.out _ _ (hHeld.on hb) (fun hHeld => ?_)
  clear hK K hb
  (try simp only [Act.put])
  refine wpAnyH_ready (rs := [8]) (by kernel_rfl) (by simp) ?_
  refine AllReadyH.cons rfl (fun K hK => ?_) AllReadyH.nil
  go_simp
  go_at_call 48
  refine (D.out _).mono ?_
  rintro e w7 ⟨rfl, hb⟩
  refine hK.out _ _ (hHeld.on hb) (fun hHeld => ?_)
  clear hK K hb
  (try simp only [Act.put])
  refine wpAnyH_ready (rs := [9]) (by kernel_rfl) (by simp) ?_
  refine AllReadyH.cons rfl (fun K hK => ?_) AllReadyH.nil
  rw [if_pos (by rfl)]
  obtain ⟨b, f, hR⟩ := hHeld.2.1
  refine wp_store_row 91 (.tmp 2) (.tmp 15) rfl (w.heap.size + 1) (numC (pair0 x) (dig (absN x))) rfl rfl 91 (numC b f) hR (infoN _ _) (by rw [numC_size, numC_size]) (numC_ok _ _) ?_
  have hN : NumAt (w7.setRow (w.heap.size + 1) (numC (pair0 x) (dig (absN x)))) (w.heap.size + 1) (pair0 x) (dig (absN x)) := hR.whole
  have hB : Below w.heap.size w (w7.setRow (w.heap.size + 1) (numC (pair0 x) (dig (absN x)))) := Below.setRow' hHeld.2.2.2.2.2 (by omega) _
  have hA := hHeld.2.2.2.2.1.row (g := w.heap.size + 1) (by omega) (numC (pair0 x) (dig (absN x)))
  refine hK.out _ _ ⟨hHeld.1.wholeOther _ (by omega), ⟨_, _, hN⟩, hA.1, hA.2.1, hA, hB⟩ (fun _ => ?_)
  clear hK K hHeld hA hR
  refine wpAnyH_done (by kernel_rfl) ?_ _
  go_wp2
  exact bodyPost_ret (results_cell_row (p := 2) rfl _ _ (w.heap.size + 1) 91 (numC (pair0 x) (dig (absN x))) (0, 0) _ rfl hN Tryd.underlying91 rfl (infoN _ _)) rfl (And.intro rfl hB)
end Go.Proofs.YthmkfkmcamjnoaaDoor
