/-
  The document's numbers: Cmp.
-/
import Derived.Test.YtednmodeoofbgaaDoorRefC
namespace Go.Proofs.YtednmodeoofbgaaDoor
open Go.RowKit
section
variable {ops : Array Oper} {rest : List Oper} {o : Oper} {a : Act} {w : World} {Q : Exit → Act → World → Prop}
/-- A whole number is loaded. -/
theorem load_num (hw : Region.wanted o (yielded ops a.tmps) = true) (x : Operand) (ho : o.op = .load 28 x) (g : Nat) (hx : a.eval x = .pointer (some ⟨g, 0, none⟩)) (b : Bool) (f : Nat → Int)
    (hN : NumAt w g b f) (h : wpList Tryd.prog ops Q rest (a.put o.dst (.agg (numC b f))) w) : wpList Tryd.prog ops Q (o :: rest) a w :=
  BigFrame.wpList_want hw fun _ hK => wp_load_row 28 x ho g hx 28 (numC b f) (0, 0) _ hN Tryd.underlying28 rfl (infoN _ _) (hK _ _ h)
/-- A whole number is stored. -/
theorem store_num (hw : Region.wanted o (yielded ops a.tmps) = true) (x y : Operand) (ho : o.op = .store 28 x y) (g : Nat) (hx : a.eval x = .pointer (some ⟨g, 0, none⟩)) (b : Bool) (f : Nat → Int) (hy : a.eval y = .agg (numC b f))
    (c : Bool) (e : Nat → Int) (hN : NumAt w g c e) (h : wpList Tryd.prog ops Q rest (a.put o.dst undef) (w.setRow g (numC b f))) : wpList Tryd.prog ops Q (o :: rest) a w :=
  BigFrame.wpList_want hw fun _ hK => wp_store_row 28 x y ho g (numC b f) hx hy 28 (numC c e) hN (infoN _ _) (by rw [numC_size, numC_size]) (numC_ok _ _) (hK _ _ h)
end
theorem rzero_at (b : Bool) (m : Int) (z : Bool) (h : Sz m) (hz : decide (m = 0) = z) (w : World) :
    Calls Tryd.prog 31 #[.agg (numC b (dig m))] w fun e w' => e = .returned (.bool z) ∧ Below w.heap.size w w' := hz ▸ rzero_any b m h w
theorem cmp_val (b c : Bool) (m n : Int) (hm : Sz m) (hn : Sz n) : sgz (vz b m) (vz c n) =
    if ngz b m = ngz c n then (if ngz b m then sgz n m else sgz m n) else (if ngz b m then -1 else 1) := by
  have := hm.1; have := hn.1
  unfold sgz vz ngz
  cases b <;> cases c <;> by_cases h1 : m = 0 <;> by_cases h2 : n = 0 <;> simp [h1, h2] <;> (repeat' split) <;> omega
set_option maxHeartbeats 4000000 in
theorem rcmp_any (b c : Bool) (m n : Int) (hm : Sz m) (hn : Sz n) (w : World) :
    Calls Tryd.prog 15 #[.agg (numC b (dig m)), .agg (numC c (dig n))] w fun e w' => e = .returned (.int .i64 (sgz (vz b m) (vz c n))) ∧ Below w.heap.size w w' := by
  have V := Lib.hid (cmp_val b c m n hm hn)
  have Hm := Lib.hid hm
  have Hn := Lib.hid hn
  have A : Hid (NumAt ((w.alloc (.cells (numC b (dig m)) 28)).alloc (.cells (numC c (dig n)) 28)) w.heap.size b (dig m)) := Lib.hid ((NumAt.new w b (dig m) rfl).alloc _)
  have B : Hid (NumAt ((w.alloc (.cells (numC b (dig m)) 28)).alloc (.cells (numC c (dig n)) 28)) (w.heap.size + 1) c (dig n)) := Lib.hid (NumAt.new _ c (dig n) (by simp))
  have W : Hid (Below w.heap.size w ((w.alloc (.cells (numC b (dig m)) 28)).alloc (.cells (numC c (dig n)) 28))) := Lib.hid (by (repeat (first | (with_reducible exact Below.refl _ _) | (with_reducible assumption) | (with_reducible refine Below.drew ?_) | (with_reducible refine below_drewN ?_ _) | ((with_reducible refine Below.alloc ?_ ?_ _); rotate_left; (focus (first | (simp; done) | (simp; omega) | omega))) | ((with_reducible refine Below.setCell ?_ ?_ _); rotate_left; (focus (first | (simp; done) | (simp; omega) | omega))) | ((with_reducible refine Below.trans ?_ (Below.mono (by assumption) ?_)); rotate_left; (focus (first | (simp; done) | (simp; omega) | omega))))))
  clear hm hn
  go_enter Tryd.func15, Tryd.ntmps15
  go_upto_region 1 with fail
  generalize (w.alloc (.cells (numC b (dig m)) 28)).alloc (.cells (numC c (dig n)) 28) = w0 at *
  go_cut [11] from 5 to 11 (fun v wr => v = .bool (ngz b m) ∧ NumAt wr w.heap.size (ngz b m) (dig m) ∧ NumAt wr (w.heap.size + 1) c (dig n) ∧ Below w.heap.size w wr)
  case first =>
    have c0 := A.out.cell0
    have f0 := A.out.free 0
    cases b
    · have A1 := Lib.hid (A.out.sign false)
      have B1 := Lib.hid (B.out.other ⟨w.heap.size, 0, none⟩ (.bool false) (by simp))
      go_wp2
      go_meet
      exact ⟨rfl, A1.out, B1.out, W.out.setCell (by simp) _⟩
    · cases hz : decide (m = 0)
      · have Z := Lib.hid (fun w => rzero_at true m false Hm.out hz w)
        have Hz := Lib.hid hz
        clear hz
        go_wp2_with (first
          | (refine load_num rfl (.tmp 2) rfl w.heap.size rfl _ _ A.out ?_)
          | (go_at_call 31; refine (Z.out _).mono ?_; rintro e w1 ⟨rfl, hb⟩; have c1 := (A.out.on hb).cell0; have f1 := (A.out.on hb).free 0))
        go_meet
        exact ⟨by rw [show ngz true m = true from by unfold ngz; rw [Hz.out]; rfl], by rw [show ngz true m = true from by unfold ngz; rw [Hz.out]; rfl]; exact (A.out.on hb).sign true, (B.out.on hb).other _ _ (by simp), (W.out.trans (hb.mono W.out.size)).setCell (by simp) _⟩
      · have Z := Lib.hid (fun w => rzero_at true m true Hm.out hz w)
        have Hz := Lib.hid hz
        clear hz
        go_wp2_with (first
          | (refine load_num rfl (.tmp 2) rfl w.heap.size rfl _ _ A.out ?_)
          | (go_at_call 31; refine (Z.out _).mono ?_; rintro e w1 ⟨rfl, hb⟩; have c1 := (A.out.on hb).cell0; have f1 := (A.out.on hb).free 0))
        go_meet
        exact ⟨by rw [show ngz true m = false from by unfold ngz; rw [Hz.out]; rfl], by rw [show ngz true m = false from by unfold ngz; rw [Hz.out]; rfl]; exact (A.out.on hb).sign false, (B.out.on hb).other _ _ (by simp), (W.out.trans (hb.mono W.out.size)).setCell (by simp) _⟩
  case rest =>
  obtain ⟨rfl, hA, hB, hW⟩ := hcut
  obtain ⟨w2, rfl⟩ : ∃ v : World, v = wc := ⟨_, rfl⟩
  have A2 := Lib.hid hA
  have B2 := Lib.hid hB
  have W2 := Lib.hid hW
  clear A B W hA hB hW
  go_upto_region 2 with fail
  go_cut [19] from 13 to 19 (fun v wr => v = .bool (ngz c n) ∧ NumAt wr w.heap.size (ngz b m) (dig m) ∧ NumAt wr (w.heap.size + 1) (ngz c n) (dig n) ∧ Below w.heap.size w wr)
  case first =>
    have c0 := B2.out.cell0
    have f0 := B2.out.free 0
    cases c
    · have B1 := Lib.hid (B2.out.sign false)
      have A1 := Lib.hid (A2.out.other ⟨w.heap.size + 1, 0, none⟩ (.bool false) (by simp))
      go_wp2
      go_meet
      exact ⟨rfl, A1.out, B1.out, W2.out.setCell (by simp) _⟩
    · cases hz : decide (n = 0)
      · have Z := Lib.hid (fun w => rzero_at true n false Hn.out hz w)
        have Hz := Lib.hid hz
        clear hz
        go_wp2_with (first
          | (refine load_num rfl (.tmp 3) rfl (w.heap.size + 1) rfl _ _ B2.out ?_)
          | (go_at_call 31; refine (Z.out _).mono ?_; rintro e w1 ⟨rfl, hb⟩; have c1 := (B2.out.on hb).cell0; have f1 := (B2.out.on hb).free 0))
        go_meet
        exact ⟨by rw [show ngz true n = true from by unfold ngz; rw [Hz.out]; rfl], (A2.out.on hb).other _ _ (by simp), by rw [show ngz true n = true from by unfold ngz; rw [Hz.out]; rfl]; exact (B2.out.on hb).sign true, (W2.out.trans (hb.mono W2.out.size)).setCell (by simp) _⟩
      · have Z := Lib.hid (fun w => rzero_at true n true Hn.out hz w)
        have Hz := Lib.hid hz
        clear hz
        go_wp2_with (first
          | (refine load_num rfl (.tmp 3) rfl (w.heap.size + 1) rfl _ _ B2.out ?_)
          | (go_at_call 31; refine (Z.out _).mono ?_; rintro e w1 ⟨rfl, hb⟩; have c1 := (B2.out.on hb).cell0; have f1 := (B2.out.on hb).free 0))
        go_meet
        exact ⟨by rw [show ngz true n = false from by unfold ngz; rw [Hz.out]; rfl], (A2.out.on hb).other _ _ (by simp), by rw [show ngz true n = false from by unfold ngz; rw [Hz.out]; rfl]; exact (B2.out.on hb).sign false, (W2.out.trans (hb.mono W2.out.size)).setCell (by simp) _⟩
  case rest =>
  obtain ⟨rfl, hA, hB, hW⟩ := hcut
  obtain ⟨w3, rfl⟩ : ∃ v : World, v = wc := ⟨_, rfl⟩
  have S1 := Lib.hid (fun w => size_any (ngz b m) (ngz c n) m n Hm.out Hn.out w)
  have S2 := Lib.hid (fun w => size_any (ngz c n) (ngz b m) n m Hn.out Hm.out w)
  have A3 := Lib.hid hA
  have B3 := Lib.hid hB
  have W3 := Lib.hid hW
  clear A2 B2 W2 hA hB hW
  have V' := V.out
  clear V
  generalize hb1 : ngz b m = s1 at *
  generalize hb2 : ngz c n = s2 at *
  clear hb1 hb2
  have a0 := A3.out.cell0
  have b0 := B3.out.cell0
  cases s1 <;> cases s2
  · have V := Lib.hid (show sgz (vz b m) (vz c n) = sgz m n by simpa using V')
    clear V'
    go_wp2_with (first
      | (refine load_num rfl (.tmp 2) rfl w.heap.size rfl _ _ A3.out ?_)
      | (refine load_num rfl (.tmp 3) rfl (w.heap.size + 1) rfl _ _ B3.out ?_)
      | (go_at_call 37; refine (S1.out _).mono ?_; rintro e w1 ⟨rfl, hb⟩))
    go_ret
    exact ⟨by rw [V.out]; rfl, W3.out.trans (hb.mono W3.out.size)⟩
  · have V := Lib.hid (show sgz (vz b m) (vz c n) = 1 by simpa using V')
    clear V'
    go_wp2
    go_ret
    exact ⟨by rw [V.out]; rfl, W3.out⟩
  · have V := Lib.hid (show sgz (vz b m) (vz c n) = -1 by simpa using V')
    clear V'
    go_wp2
    go_ret
    exact ⟨by rw [V.out]; rfl, W3.out⟩
  · have V := Lib.hid (show sgz (vz b m) (vz c n) = sgz n m by simpa using V')
    clear V'
    go_wp2_with (first
      | (refine load_num rfl (.tmp 2) rfl w.heap.size rfl _ _ A3.out ?_)
      | (refine load_num rfl (.tmp 3) rfl (w.heap.size + 1) rfl _ _ B3.out ?_)
      | (go_at_call 37; refine (S2.out _).mono ?_; rintro e w1 ⟨rfl, hb⟩))
    go_ret
    exact ⟨by rw [V.out]; rfl, W3.out.trans (hb.mono W3.out.size)⟩
end Go.Proofs.YtednmodeoofbgaaDoor
