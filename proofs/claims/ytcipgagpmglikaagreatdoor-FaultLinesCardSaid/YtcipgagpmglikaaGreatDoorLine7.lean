/-
  The lines of errors: Error of a sort, of a fault, of a note; fault.Line.
  fault.Line.
-/
import Derived.Test.YtcipgagpmglikaaGreatDoorPeel6
import Derived.Test.YtcipgagpmglikaaGreatDoorSay
import Derived.BigQuiet
namespace Go.Proofs.YtcipgagpmglikaaGreatDoor
open Go.RowKit Go.Sort
set_option maxRecDepth 8000
def kindB : ByteArray := ⟨#[107, 105, 110, 100, 32]⟩
def atB : ByteArray := ⟨#[32, 97, 116, 32]⟩
def colB : ByteArray := ⟨#[58, 32]⟩
def W64 (n : Int) : Prop := -9223372036854775808 ≤ n ∧ n ≤ 9223372036854775807
/-- The line of notes around a fault. -/
def lineW (k o : Int) : List ByteArray → ByteArray
  | [] => kindB ++ txt k ++ atB ++ txt o
  | s :: r => s ++ colB ++ lineW k o r
theorem txt_small {n : Int} (h : W64 n) : (txt n).size ≤ 40 := by unfold W64 at h; rw [txt_size]; exact itoa_length_le (by omega)
theorem add_sz (a b : ByteArray) : (a ++ b).size = a.size + b.size := by simp
theorem m_sortE (k : Int) (hk : W64 k) : Says 16 #[.int .i64 k] (.string (kindB ++ txt k)) := fun w hw => by
  have D := Lib.hid (t_dec k hk)
  have G := Lib.hid hw
  have hs := txt_small hk
  clear hw hk
  generalize txt k = t at *
  go_enter Tryz.func16, Tryz.ntmps16
  go_wp2_with fail
  refine (D.out _ G.out).mono ?_
  rintro e w1 ⟨rfl, hb⟩
  go_wp2
  go_ret
  exact ⟨rfl, hb⟩
set_option maxHeartbeats 1000000 in
theorem m_faultE (k o : Int) (hk : W64 k) (ho : W64 o) : Says 110 #[.agg #[.int .i64 k, .int .i64 o]] (.string (lineW k o [])) := fun w hw => by
  have D := Lib.hid (m_sortE k hk)
  have E := Lib.hid (t_dec o ho)
  have G := Lib.hid (hw.below (below_alloc w (.cells #[.int .i64 k, .int .i64 o] 63)))
  have N := Blk.new w 63 #[.int .i64 k, .int .i64 o] rfl
  have B := Lib.hid (below_alloc w (.cells #[.int .i64 k, .int .i64 o] 63))
  have s1 : (kindB ++ txt k).size ≤ 45 := by have := txt_small hk; have e : kindB.size = 5 := rfl; rw [add_sz]; omega
  have s2 : (txt o).size ≤ 40 := txt_small ho
  unfold lineW
  obtain ⟨a, ha⟩ : ∃ a, a = kindB ++ txt k := ⟨_, rfl⟩
  obtain ⟨b, hb⟩ : ∃ b, b = a ++ atB := ⟨_, rfl⟩
  have s3 : b.size ≤ 49 := by have e : atB.size = 4 := rfl; rw [hb, add_sz, ha]; omega
  rw [← ha] at D s1 ⊢
  rw [← hb]
  generalize txt o = t at *
  have f1 : ∀ W, (Op.stringOp .add a ⟨#[32, 97, 116, 32]⟩).run Tryz.prog W = .ok (.string b) W := fun W => by rw [hb]; exact run_string_add_sum W _ _ (by have e : (⟨#[32, 97, 116, 32]⟩ : ByteArray).size = 4 := rfl; omega)
  have f2 : ∀ W, (Op.stringOp .add b t).run Tryz.prog W = .ok (.string (b ++ t)) W := fun W => run_string_add_sum W _ _ (by omega)
  generalize b ++ t = c at *
  clear hw hk ho ha hb s1 s2 s3
  go_enter Tryz.func110, Tryz.ntmps110
  go_upto_region 1 with fail
  generalize w.alloc (.cells #[.int .i64 k, .int .i64 o] 63) = w1 at *
  have c0 : ∀ d os, (grow (redrawn w1 d) os).cell? ⟨w.heap.size, 0, none⟩ = some (.int .i64 k) := cell_regrown (N.cell (j := 0) rfl)
  have c1 : ∀ d os, (grow (redrawn w1 d) os).cell? ⟨w.heap.size, 1, none⟩ = some (.int .i64 o) := cell_regrown (N.cell (j := 1) rfl)
  clear N
  refine wp_region_quiet_below (by kernel_rfl) (by kernel_rfl) ?_
  repeat (go_big_quiet_step (first | exact (D.out.quiet G.out _ _) | exact (E.out.quiet G.out _ _)))
  (refine wpQuiet_nil ?_; intro _ hw'; obtain ⟨⟨dq, osq⟩, hw''⟩ := hw'; subst hw'')
  have hb := B.out.trans ((below_quiet (W := w1) dq osq).mono B.out.size)
  generalize grow (redrawn w1 dq) osq = w2 at *
  go_wp2
  go_ret
  exact ⟨rfl, hb⟩
/-- What Error tells of notes around a fault. -/
def Er.line : Er → ByteArray
  | .note s e => s ++ colB ++ e.line
  | .fault k o => lineW k o []
  | _ => ⟨#[]⟩
/-- The chain is notes around a fault. -/
def Er.plain : Er → Prop
  | .note s e => s.size ≤ 4000 ∧ e.plain
  | .fault k o => W64 k ∧ W64 o
  | _ => False
theorem lineW_small {k o : Int} (hk : W64 k) (ho : W64 o) : (lineW k o []).size ≤ 100 := by
  have := txt_small hk
  have := txt_small ho
  have e1 : kindB.size = 5 := rfl
  have e2 : atB.size = 4 := rfl
  simp only [lineW, add_sz]
  omega
theorem Er.line_size {e : Er} (h : e.plain) : e.line.size ≤ 4004 * e.size := by
  induction e with
  | note s e ih =>
    have := ih h.2
    have := h.1
    have e1 : colB.size = 2 := rfl
    simp only [Er.line, Er.size, add_sz]
    omega
  | fault k o => have := lineW_small h.1 h.2; simp only [Er.line, Er.size]; omega
  | sort k => cases h
  | own a => cases h
  | around e ih => cases h
  | join a e ih => cases h
/-- The function that Error is of it. -/
def Er.errF : Er → FuncId
  | .note _ _ => 112
  | _ => 110
set_option maxHeartbeats 1000000 in
theorem m_error (e : Er) : ∀ (t : TypeId) (x : Value) (w : World), e.plain → e.size ≤ 4000 → IsEr w e (.iface t x) → Env w → Calls Tryz.prog e.errF #[x] w fun ex w' => ex = .returned (.string e.line) ∧ Below w.heap.size w w' := by
  induction e with
  | fault k o => intro t x w h _ he hw; cases he; exact m_faultE k o h.1 h.2 w hw
  | note s e ih =>
    intro t x w h hz he hw
    obtain ⟨b, u, he, h1, h2⟩ := he
    cases he
    obtain ⟨ut, ux, rfl⟩ := h2.iface
    have hz' : e.size + 1 ≤ 4000 := hz
    have IH := Lib.hid (fun w' (hb : Below w.heap.size w w') => ih ut ux w' h.2 (by omega) (IsEr.on hb h2) (hw.below hb))
    have s1 := h.1
    have s3 : e.line.size ≤ 4004 * 4000 := by have := Er.line_size h.2; omega
    unfold Er.line
    have G := Lib.hid hw
    obtain ⟨a, ha⟩ : ∃ a, a = s ++ colB := ⟨_, rfl⟩
    have s2 : a.size ≤ 4002 := by have e : colB.size = 2 := rfl; rw [ha, add_sz]; omega
    rw [← ha]
    have f1 : ∀ W, (Op.stringOp .add s ⟨#[58, 32]⟩).run Tryz.prog W = .ok (.string a) W := fun W => by rw [ha]; exact run_string_add_sum W _ _ (by have e : (⟨#[58, 32]⟩ : ByteArray).size = 2 := rfl; omega)
    have c0 : ∀ d os, (grow (redrawn w d) os).cell? ⟨b, 0, none⟩ = some (.string s) := cell_regrown (h1.cell (j := 0) rfl)
    have c1 : ∀ d os, (grow (redrawn w d) os).cell? ⟨b, 1, none⟩ = some (.iface ut ux) := cell_regrown (h1.cell (j := 1) rfl)
    cases e with
    | sort k => cases h.2
    | own k => cases h.2
    | around e => cases h.2
    | join k e => cases h.2
    | fault k o =>
      cases h2
      unfold Er.errF at IH ⊢
      have f2 : ∀ W, (Op.stringOp .add a (Er.fault k o).line).run Tryz.prog W = .ok (.string (a ++ (Er.fault k o).line)) W := fun W => run_string_add_sum W _ _ (by omega)
      have X : ∀ d os, Calls Tryz.prog 110 #[.agg #[.int .i64 k, .int .i64 o]] (grow (redrawn w d) os) fun e w'' => e = .returned (.string (Er.fault k o).line) ∧ ∃ p : Regrown, w'' = grow (redrawn w p.d) p.os := fun d os => Calls.regrown_of (IH.out _ (below_regrown w d os))
      have mM : ∀ (v : Value) (w : World), (Go.method 291 63 v "Error").run Tryz.prog w = .ok (110, v) w := fun v w => by kernel_rfl
      generalize a ++ (Er.fault k o).line = c at *
      generalize (Er.fault k o).line = l at *
      have X := Lib.hid X
      clear hw h hz hz' h1 s1 s2 s3 ha ih IH
      go_enter Tryz.func112, Tryz.ntmps112
      go_upto_region 1 with fail
      refine wp_region_quiet_below (by kernel_rfl) (by kernel_rfl) ?_
      repeat (go_big_quiet_step (exact (X.out _ _)))
      (refine wpQuiet_nil ?_; intro _ hw'; obtain ⟨⟨dq, osq⟩, hw''⟩ := hw'; subst hw'')
      have hb := below_quiet (W := w) dq osq
      generalize grow (redrawn w dq) osq = w2 at *
      go_wp2
      go_ret
      exact ⟨rfl, hb⟩
    | note s' e =>
      obtain ⟨b', u', h2, -⟩ := h2
      cases h2
      unfold Er.errF at IH ⊢
      have f2 : ∀ W, (Op.stringOp .add a (Er.note s' e).line).run Tryz.prog W = .ok (.string (a ++ (Er.note s' e).line)) W := fun W => run_string_add_sum W _ _ (by omega)
      have X : ∀ d os, Calls Tryz.prog 112 #[.pointer (some ⟨b', 0, none⟩)] (grow (redrawn w d) os) fun ex w'' => ex = .returned (.string (Er.note s' e).line) ∧ ∃ p : Regrown, w'' = grow (redrawn w p.d) p.os := fun d os => Calls.regrown_of (IH.out _ (below_regrown w d os))
      have mM : ∀ (v : Value) (w : World), (Go.method 291 77 v "Error").run Tryz.prog w = .ok (112, v) w := fun v w => by kernel_rfl
      generalize a ++ (Er.note s' e).line = c at *
      generalize (Er.note s' e).line = l at *
      have X := Lib.hid X
      clear hw h hz hz' h1 s1 s2 s3 ha ih IH
      go_enter Tryz.func112, Tryz.ntmps112
      go_upto_region 1 with fail
      refine wp_region_quiet_below (by kernel_rfl) (by kernel_rfl) ?_
      repeat (go_big_quiet_step (exact (X.out _ _)))
      (refine wpQuiet_nil ?_; intro _ hw'; obtain ⟨⟨dq, osq⟩, hw''⟩ := hw'; subst hw'')
      have hb := below_quiet (W := w) dq osq
      generalize grow (redrawn w dq) osq = w2 at *
      go_wp2
      go_ret
      exact ⟨rfl, hb⟩
  | sort k => intro t x w h; cases h
  | own k => intro t x w h; cases h
  | around e => intro t x w h; cases h
  | join k e => intro t x w h; cases h
end Go.Proofs.YtcipgagpmglikaaGreatDoor
namespace Go.Proofs.YtcipgagpmglikaaGreatDoor
open Go.RowKit Go.Sort
set_option maxRecDepth 8000
theorem Er.core_plain {e : Er} (h : e.plain) : ∃ k o, e.core = .fault k o := by
  induction e with
  | note s e ih => exact ih h.2
  | fault k o => exact ⟨k, o, rfl⟩
  | sort k => cases h
  | own a => cases h
  | around e ih => cases h
  | join a e ih => cases h
/-- What a chain of notes is around, where it is no fault. -/
def bareO : Option Er → Bool
  | none => true
  | some (.fault _ _) => false
  | some (.note _ _) => false
  | some _ => true
theorem ft_bare (o : Option Er) (v : Value) (w : World) (h : IsOpt w o v) (hb : bareO o = true) : ∀ xT w', (Instr.typeAssert v xT 63 true).run Tryz.prog w' = .ok (.tuple #[.agg #[.int .i64 0, .int .i64 0], .bool false]) w' := by
  cases o with
  | none => cases h; exact ftnil
  | some e =>
    cases e with
    | sort k => cases h; exact ftS _
    | fault k o => cases hb
    | own a => obtain ⟨rfl, -⟩ := h; exact ftO _
    | note s e => cases hb
    | around e => obtain ⟨u, rfl, -⟩ := h; exact ftA _
    | join a e => obtain ⟨b, g, c, u, s, rfl, -⟩ := h; exact ftJ _
theorem line_no (o : Option Er) (v : Value) (w : World) (ho : IsOpt w o v) (hsz : sizO o ≤ 4000) (hb : bareO (coreO o) = true) :
    Calls Tryz.prog 11 #[v] w fun ex w' => ex = .returned (.tuple #[.string ⟨#[]⟩, .bool false]) ∧ Below w.heap.size w w' := by
  have P := Lib.hid (t_peel o v w ho hsz)
  have F := Lib.hid (fun u (h : IsOpt w (coreO o) u) => ft_bare _ u w h hb)
  clear ho hsz hb
  go_enter Tryz.func11, Tryz.ntmps11
  go_wp2_with (refine P.out.mono ?_; rintro q w1 ⟨⟨l, u, rfl, h1, h2⟩, hb1⟩; have f := F.out u h2; clear h1 h2)
  go_ret2
  exact ⟨rfl, hb1.alloc hb1.size _⟩
set_option maxHeartbeats 1000000 in
theorem line_yes (e : Er) (v : Value) (w : World) (he : IsEr w e v) (hp : e.plain) (hsz : e.size ≤ 4000) (hw : Env w) :
    Calls Tryz.prog 11 #[v] w fun ex w' => ex = .returned (.tuple #[.string e.line, .bool true]) ∧ Below w.heap.size w w' := by
  obtain ⟨k, o, hc⟩ := e.core_plain hp
  have P := Lib.hid (t_peel (some e) v w he hsz)
  have F := Lib.hid (show ∀ u, IsOpt w (coreO (some e)) u → u = .iface 63 (.agg #[.int .i64 k, .int .i64 o]) from fun u h => by
    rw [show coreO (some e) = some (.fault k o) from congrArg some hc] at h; exact h)
  have f := ftF (.agg #[.int .i64 k, .int .i64 o])
  obtain ⟨vt, vx, rfl⟩ := he.iface
  have M := Lib.hid (fun w' (hb : Below w.heap.size w w') => m_error e vt vx w' hp hsz (IsEr.on hb he) (hw.below hb))
  clear hc
  cases e with
  | sort k => cases hp
  | own a => cases hp
  | around e => cases hp
  | join a e => cases hp
  | fault k' o' =>
    cases he
    unfold Er.errF at M
    generalize (Er.fault k' o').line = l at *
    clear hp hsz hw
    go_enter Tryz.func11, Tryz.ntmps11
    go_wp2_with (first
      | (go_at_call 28; refine P.out.mono ?_; rintro q w1 ⟨⟨l1, u, rfl, h1, h2⟩, hb1⟩; have hu := F.out u h2; subst hu; clear h1 h2; have hb2 := hb1.alloc hb1.size (.cells #[.int .i64 k, .int .i64 o] 63))
      | (refine (M.out _ hb2).mono ?_; rintro q w3 ⟨rfl, hb3⟩))
    go_ret2
    exact ⟨rfl, hb2.trans (hb3.mono hb2.size)⟩
  | note s e =>
    obtain ⟨b, u, he, -⟩ := he
    cases he
    unfold Er.errF at M
    generalize (Er.note s e).line = l at *
    clear hp hsz hw
    go_enter Tryz.func11, Tryz.ntmps11
    go_wp2_with (first
      | (go_at_call 28; refine P.out.mono ?_; rintro q w1 ⟨⟨l1, u, rfl, h1, h2⟩, hb1⟩; have hu := F.out u h2; subst hu; clear h1 h2; have hb2 := hb1.alloc hb1.size (.cells #[.int .i64 k, .int .i64 o] 63))
      | (refine (M.out _ hb2).mono ?_; rintro q w3 ⟨rfl, hb3⟩))
    go_ret2
    exact ⟨rfl, hb2.trans (hb3.mono hb2.size)⟩
end Go.Proofs.YtcipgagpmglikaaGreatDoor
