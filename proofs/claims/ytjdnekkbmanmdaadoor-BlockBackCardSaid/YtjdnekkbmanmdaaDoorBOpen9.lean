/-
  Package block: refuse, Open.
-/
import Derived.Test.YtjdnekkbmanmdaaDoorWrap6
import Derived.Test.YtjdnekkbmanmdaaDoorIsTop
import Derived.Test.YtjdnekkbmanmdaaDoorAsSv
import Derived.Test.YtjdnekkbmanmdaaDoorAsFv
import Derived.Test.YtjdnekkbmanmdaaDoorBKnown9
namespace Go.Proofs.YtjdnekkbmanmdaaDoor
open Go.RowKit Go.Sort
set_option maxRecDepth 8000
def blockB : ByteArray := ⟨#[98, 108, 111, 99, 107]⟩
/-- A note 'block' around a fault. -/
def blkE (k at_ : Int) : Er := .note blockB (.fault k at_)
theorem blockB_may : wordW blockB = blockB := by decide
theorem blkE_note {w : World} {k at_ : Int} {u : Value} (h : IsEr w (blkE k at_) u) : ∃ b, u = .iface 76 (.pointer (some ⟨b, 0, none⟩)) ∧ Blk w b 79 #[.string blockB, .iface 69 (.agg #[.int .i64 k, .int .i64 at_])] := by
  obtain ⟨b, x, rfl, h1, h2⟩ := h
  have h2 : x = _ := h2
  subst h2
  exact ⟨b, rfl, h1⟩
theorem blkE_of {w : World} {k at_ : Int} {b : Nat} (h : Blk w b 79 #[.string blockB, .iface 69 (.agg #[.int .i64 k, .int .i64 at_])]) : IsEr w (blkE k at_) (.iface 76 (.pointer (some ⟨b, 0, none⟩))) :=
  ⟨b, _, rfl, h, rfl⟩
/-- It lies in no block's variable. -/
theorem blkE_stored {w : World} {k at_ : Int} {u : Value} (h : IsEr w (blkE k at_) u) {p : Nat} {k0 : Int} {a0 : Option Addr} {n0 c0 : Nat} {T : TypeId} (hp : w.heap[p]? = some (.cells #[.int .u32 k0, .slice a0 n0 c0] T (0, 0))) (u0 u1 : Value) :
    IsEr ((w.setCell ⟨p, 0, none⟩ u0).setCell ⟨p, 1, none⟩ u1) (blkE k at_) u := by
  obtain ⟨b, rfl, hb⟩ := blkE_note h
  have ne : p ≠ b := by
    rintro rfl
    unfold Blk at hb
    rw [hp] at hb
    simp at hb
  exact blkE_of ((hb.other ne u0).other ne u1)
def refV (u : Value) : Value := .tuple #[.agg #[.int .u32 0, .slice none 0 0], .int .i64 0, u]
def RefOut (w : World) (k at_ : Int) (e : Ending) (w' : World) : Prop := ∃ u, e = .returned (refV u) ∧ IsEr w' (blkE k at_) u ∧ Below w.heap.size w w'
set_option maxHeartbeats 2000000 in
theorem t_refuse (k at_ : Int) (hk : k ≠ 0) (w : World) : Calls Tryd.prog 12 #[.int .i64 k, .int .i64 at_] w (RefOut w k at_) := by
  have N := Lib.hid (fun w => t_new k at_ w hk)
  have W := Lib.hid (fun w => t_wrap blockB (by decide) (.fault k at_) (.iface 69 (.agg #[.int .i64 k, .int .i64 at_])) w rfl)
  have S0 := Lib.hid (KSt.new w (.cells #[.int .u32 0, .slice none 0 0] 25 (0, 0)))
  clear hk
  go_enter Tryd.func12, Tryd.ntmps12
  go_upto_region 1 with fail
  generalize hw0 : w.alloc (.cells _ 25 (0, 0)) = w0 at *
  clear hw0
  go_wp2_with fail
  refine (N.out _).mono ?_
  rintro e w1 ⟨rfl, rfl⟩
  go_wp2_with fail
  refine (W.out _).mono ?_
  rintro e w2 h
  obtain ⟨u, rfl, hE⟩ := h.is rfl
  have hb := h.2
  have HE := Lib.hid (show IsEr w2 (blkE k at_) u by rw [wrapE, if_neg (by simp [Er.cnt]), blockB_may] at hE; exact hE)
  have S2 := Lib.hid (S0.out.on hb)
  obtain ⟨b, rfl, _⟩ := blkE_note HE.out
  clear h hE hb S0
  obtain ⟨⟨c0, c1⟩, f⟩ := row2 S2.out.1
  have f0 := f 0
  have f1 := f 1
  clear f
  go_wp2_with fail
  have HE2 := Lib.hid (blkE_stored HE.out S2.out.1 (.int .u32 0) (.slice none 0 0))
  have B2 := Lib.hid ((S2.out.2.setCell (p := ⟨w.heap.size, 0, none⟩) (by exact Nat.le_refl _) (.int .u32 0)).setCell (p := ⟨w.heap.size, 1, none⟩) (by exact Nat.le_refl _) (.slice none 0 0))
  have R2 := Lib.hid (two_row S2.out.1 (.int .u32 0) (.slice none 0 0))
  clear HE S2 c0 c1 f0 f1
  generalize (w2.setCell ⟨w.heap.size, 0, none⟩ (.int .u32 0)).setCell ⟨w.heap.size, 1, none⟩ (.slice none 0 0) = w3 at *
  obtain ⟨⟨c0, c1⟩, _⟩ := row2 R2.out
  refine bodyPost_ret (v := refV (.iface 76 (.pointer (some ⟨b, 0, none⟩)))) (by unfold refV; simp [results, Tryd.results12, go_sem, c0, c1]) rfl ⟨_, rfl, HE2.out, B2.out⟩
/-! ### Open -/
def opnV (kind : Nat) (v : Value) (n : Nat) : Value := .tuple #[.agg #[.int .u32 kind, v], .int .i64 n, .nilIface]
def OpnOut (w : World) (o : (Nat × List UInt8 × Nat) × Nat × Int) (e : Ending) (w' : World) : Prop :=
  Below w.heap.size w w' ∧ ((o.2.1 = 0 ∧ ∃ v, e = .returned (opnV o.1.1 v o.1.2.2) ∧ Byt w' v o.1.2.1) ∨ (o.2.1 ≠ 0 ∧ ∃ u, e = .returned (refV u) ∧ IsEr w' (blkE o.2.1 o.2.2) u))
theorem openB_ways (l : List UInt8) (b : Bool) (most off : Int) : ((off < 0 ∨ 4611686018427387904 < off) ∧ openB l b most off = ((0, [], 0), 2, 0)) ∨ (¬ (off < 0 ∨ 4611686018427387904 < off) ∧ (
    ((sizeB l b most).2 = 121 ∧ openB l b most off = ((0, [], 0), 121, off + l.length)) ∨ ((sizeB l b most).2 = 0 ∧ l.length < (sizeB l b most).1 ∧ openB l b most off = ((0, [], 0), 121, off + l.length)) ∨
    ((sizeB l b most).2 ≠ 121 ∧ (sizeB l b most).2 ≠ 0 ∧ openB l b most off = ((0, [], 0), (sizeB l b most).2, off + 4)) ∨
    ((sizeB l b most).2 = 0 ∧ (sizeB l b most).1 ≤ l.length ∧ gv l b (((sizeB l b most).1 : Int) - 4) 4 ≠ (sizeB l b most).1 ∧ openB l b most off = ((0, [], 0), 123, off + (sizeB l b most).1 - 4)) ∨
    ((sizeB l b most).2 = 0 ∧ (sizeB l b most).1 ≤ l.length ∧ gv l b (((sizeB l b most).1 : Int) - 4) 4 = (sizeB l b most).1 ∧ openB l b most off = ((gv l b 0 4, (l.drop 8).take ((sizeB l b most).1 - 12), (sizeB l b most).1), 0, 0)))) := by
  unfold openB
  by_cases h1 : off < 0 ∨ 4611686018427387904 < off
  · left; exact ⟨h1, if_pos h1⟩
  · right
    refine ⟨h1, ?_⟩
    rw [if_neg h1]
    by_cases h2 : (sizeB l b most).2 = 121
    · left; exact ⟨h2, if_pos (Or.inl h2)⟩
    · right
      by_cases h3 : (sizeB l b most).2 = 0
      · by_cases h4 : l.length < (sizeB l b most).1
        · left; exact ⟨h3, h4, if_pos (Or.inr ⟨h3, h4⟩)⟩
        · right; right
          rw [if_neg (by omega), if_neg (by omega)]
          by_cases h5 : gv l b (((sizeB l b most).1 : Int) - 4) 4 = (sizeB l b most).1
          · right; exact ⟨h3, by omega, h5, if_neg (by omega)⟩
          · left; exact ⟨h3, by omega, h5, if_pos h5⟩
      · right; left
        exact ⟨h2, h3, by rw [if_neg (by omega), if_pos h3]⟩
/-- A size that is told is that of a frame. -/
theorem sizeB_least (l : List UInt8) (b : Bool) (most : Int) (h : (sizeB l b most).2 = 0) : 12 ≤ (sizeB l b most).1 ∧ (sizeB l b most).1 < 4294967296 := by
  have bd := gv_32 l b 4
  rcases sizeB_ways l b most with ⟨_, e⟩ | ⟨_, _, e⟩ | ⟨_, _, _, e⟩ | ⟨_, _, _, _, e⟩ | ⟨_, g, _, _, e⟩
  all_goals rw [e] at h ⊢
  all_goals simp only at h ⊢
  all_goals omega
set_option maxHeartbeats 4000000 in
theorem t_openB (v : Value) (l : List UInt8) (b : Bool) (most off : Int) (hoff : -9223372036854775808 ≤ off ∧ off ≤ 9223372036854775807) (hl : l.length ≤ 1000) (w : World) (hB : Byt w v l) :
    Calls Tryd.prog 6 #[v, .bool b, .int .i64 most, .int .i64 off] w (OpnOut w (openB l b most off)) := by
  have HB := Lib.hid hB
  obtain ⟨ad, c, rfl, hc, hA⟩ := hB.open
  have hz : l.length ≤ 140737488355328 := by omega
  have HA := Lib.hid hA
  have TS := Lib.hid (fun w hB => t_size (.slice ad l.length c) l b most w hB hz)
  have LE := sizeB_least l b most
  have UL := Lib.hid (fun at_ ha w hB => t_u32 ad l c b at_ hc ha hz w hB)
  have CC := Lib.hid (fun (m : Nat) (h : 8 + m ≤ l.length) w => t_cut_yes ad l.length c b 8 m hc h hz w)
  have CB := Lib.hid (fun (m : Nat) (h : 8 + m ≤ l.length) w (hA : BytA w ad l) => (hA.cut 8 m h).byt (n := m) (c := m) (piece_length l 8 m h).symm (Nat.le_refl _))
  have CL := Lib.hid (fun v w (m : Nat) hB => t_clone9 v ((l.drop 8).take m) (by rw [List.length_take, List.length_drop]; omega) w hB)
  have V := openB_ways l b most off
  have bd0 := gv_32 l b 0
  have S0 := Lib.hid (KSt.new w (.cells #[.int .u32 0, .slice none 0 0] 25 (0, 0)))
  clear hB hA
  generalize openB l b most off = o at *
  obtain ⟨⟨n, e1⟩, hs⟩ : ∃ z, z = sizeB l b most := ⟨_, rfl⟩
  rw [← hs] at TS LE V
  clear hs
  unfold sizeV at TS
  simp only at TS LE V
  unfold OpnOut
  go_enter Tryd.func6, Tryd.ntmps6
  go_upto_region 1 with fail
  generalize hw0 : w.alloc (.cells _ 25 (0, 0)) = w0 at *
  clear hw0
  -- from here on: tools/gen9o.py
  rcases V with ⟨g1, rfl⟩ | ⟨g1, V⟩
  · have RF := Lib.hid (fun w => t_refuse 2 0 (by omega) w)
    unfold RefOut refV at RF
    rcases (show off < 0 ∨ (¬ off < 0 ∧ 4611686018427387904 < off) by omega) with h | ⟨h, h'⟩
    all_goals
      go_wp2_with (go_at_call 12; refine (RF.out _).mono ?_; rintro e u1 ⟨u, rfl, hE, hb⟩; have S1 := Lib.hid (S0.out.on hb); obtain ⟨bb, rfl, _⟩ := blkE_note hE; have E2 := Lib.hid (blkE_stored hE S1.out.1 (.int .u32 0) (.slice none 0 0)); have B2 := Lib.hid ((S1.out.2.setCell (p := ⟨w.heap.size, 0, none⟩) (by exact Nat.le_refl _) (.int .u32 0)).setCell (p := ⟨w.heap.size, 1, none⟩) (by exact Nat.le_refl _) (.slice none 0 0)); have R2 := Lib.hid (two_row S1.out.1 (.int .u32 0) (.slice none 0 0)); clear hE hb S0; obtain ⟨⟨c0, c1⟩, f⟩ := row2 S1.out.1; have f0 := f 0; have f1 := f 1; clear f)
      clear c0 c1 f0 f1 S1
      generalize (u1.setCell ⟨w.heap.size, 0, none⟩ (.int .u32 0)).setCell ⟨w.heap.size, 1, none⟩ (.slice none 0 0) = u9 at *
      obtain ⟨⟨c0, c1⟩, _⟩ := row2 R2.out
      refine bodyPost_ret (v := refV (.iface 76 (.pointer (some ⟨bb, 0, none⟩)))) (by unfold refV; simp [results, Tryd.results6, go_sem, c0, c1]) rfl ⟨B2.out, _, rfl, E2.out⟩
  have o1 : ¬ off < 0 := by omega
  have o2 : ¬ 4611686018427387904 < off := by omega
  have w1 : IntKind.i64.wrap (off + (l.length : Int)) = off + (l.length : Int) := by rw [IntKind.wrap_i64]; omega
  have w2 : IntKind.i64.wrap (off + 4) = off + 4 := by rw [IntKind.wrap_i64]; omega
  rcases V with ⟨g2, rfl⟩ | ⟨g2, g3, rfl⟩ | ⟨g2, g3, rfl⟩ | ⟨g2, g3, g4, rfl⟩ | ⟨g2, g3, g4, rfl⟩
  · subst g2
    have RF := Lib.hid (fun w => t_refuse 121 (off + l.length) (by omega) w)
    unfold RefOut refV at RF
    go_wp2_with (first | (go_at_call 8; refine (TS.out _ (HB.out.on S0.out.2)).mono ?_; rintro e u0 ⟨rfl, hb⟩; replace S0 := Lib.hid (S0.out.on hb); clear hb) | (go_at_call 12; refine (RF.out _).mono ?_; rintro e u1 ⟨u, rfl, hE, hb⟩; have S1 := Lib.hid (S0.out.on hb); obtain ⟨bb, rfl, _⟩ := blkE_note hE; have E2 := Lib.hid (blkE_stored hE S1.out.1 (.int .u32 0) (.slice none 0 0)); have B2 := Lib.hid ((S1.out.2.setCell (p := ⟨w.heap.size, 0, none⟩) (by exact Nat.le_refl _) (.int .u32 0)).setCell (p := ⟨w.heap.size, 1, none⟩) (by exact Nat.le_refl _) (.slice none 0 0)); have R2 := Lib.hid (two_row S1.out.1 (.int .u32 0) (.slice none 0 0)); clear hE hb S0; obtain ⟨⟨c0, c1⟩, f⟩ := row2 S1.out.1; have f0 := f 0; have f1 := f 1; clear f))
    clear c0 c1 f0 f1 S1
    generalize (u1.setCell ⟨w.heap.size, 0, none⟩ (.int .u32 0)).setCell ⟨w.heap.size, 1, none⟩ (.slice none 0 0) = u9 at *
    obtain ⟨⟨c0, c1⟩, _⟩ := row2 R2.out
    refine bodyPost_ret (v := refV (.iface 76 (.pointer (some ⟨bb, 0, none⟩)))) (by unfold refV; simp [results, Tryd.results6, go_sem, c0, c1]) rfl ⟨B2.out, _, rfl, E2.out⟩
  · subst g2
    have n1 : ((n : Int) ≤ (l.length : Int)) = False := by simp; omega
    have RF := Lib.hid (fun w => t_refuse 121 (off + l.length) (by omega) w)
    unfold RefOut refV at RF
    go_wp2_with (first | (go_at_call 8; refine (TS.out _ (HB.out.on S0.out.2)).mono ?_; rintro e u0 ⟨rfl, hb⟩; replace S0 := Lib.hid (S0.out.on hb); clear hb) | (go_at_call 12; refine (RF.out _).mono ?_; rintro e u1 ⟨u, rfl, hE, hb⟩; have S1 := Lib.hid (S0.out.on hb); obtain ⟨bb, rfl, _⟩ := blkE_note hE; have E2 := Lib.hid (blkE_stored hE S1.out.1 (.int .u32 0) (.slice none 0 0)); have B2 := Lib.hid ((S1.out.2.setCell (p := ⟨w.heap.size, 0, none⟩) (by exact Nat.le_refl _) (.int .u32 0)).setCell (p := ⟨w.heap.size, 1, none⟩) (by exact Nat.le_refl _) (.slice none 0 0)); have R2 := Lib.hid (two_row S1.out.1 (.int .u32 0) (.slice none 0 0)); clear hE hb S0; obtain ⟨⟨c0, c1⟩, f⟩ := row2 S1.out.1; have f0 := f 0; have f1 := f 1; clear f))
    clear c0 c1 f0 f1 S1
    generalize (u1.setCell ⟨w.heap.size, 0, none⟩ (.int .u32 0)).setCell ⟨w.heap.size, 1, none⟩ (.slice none 0 0) = u9 at *
    obtain ⟨⟨c0, c1⟩, _⟩ := row2 R2.out
    refine bodyPost_ret (v := refV (.iface 76 (.pointer (some ⟨bb, 0, none⟩)))) (by unfold refV; simp [results, Tryd.results6, go_sem, c0, c1]) rfl ⟨B2.out, _, rfl, E2.out⟩
  · have n1 : ((e1 : Int) == 0) = false := by rw [beq_eq_false_iff_ne]; omega
    have n2 : ((e1 : Int) == 121) = false := by rw [beq_eq_false_iff_ne]; omega
    have RF := Lib.hid (fun w => t_refuse (e1 : Int) (off + 4) (by omega) w)
    unfold RefOut refV at RF
    go_wp2_with (first | (go_at_call 8; refine (TS.out _ (HB.out.on S0.out.2)).mono ?_; rintro e u0 ⟨rfl, hb⟩; replace S0 := Lib.hid (S0.out.on hb); clear hb) | (go_at_call 12; refine (RF.out _).mono ?_; rintro e u1 ⟨u, rfl, hE, hb⟩; have S1 := Lib.hid (S0.out.on hb); obtain ⟨bb, rfl, _⟩ := blkE_note hE; have E2 := Lib.hid (blkE_stored hE S1.out.1 (.int .u32 0) (.slice none 0 0)); have B2 := Lib.hid ((S1.out.2.setCell (p := ⟨w.heap.size, 0, none⟩) (by exact Nat.le_refl _) (.int .u32 0)).setCell (p := ⟨w.heap.size, 1, none⟩) (by exact Nat.le_refl _) (.slice none 0 0)); have R2 := Lib.hid (two_row S1.out.1 (.int .u32 0) (.slice none 0 0)); clear hE hb S0; obtain ⟨⟨c0, c1⟩, f⟩ := row2 S1.out.1; have f0 := f 0; have f1 := f 1; clear f))
    clear c0 c1 f0 f1 S1
    generalize (u1.setCell ⟨w.heap.size, 0, none⟩ (.int .u32 0)).setCell ⟨w.heap.size, 1, none⟩ (.slice none 0 0) = u9 at *
    obtain ⟨⟨c0, c1⟩, _⟩ := row2 R2.out
    refine bodyPost_ret (v := refV (.iface 76 (.pointer (some ⟨bb, 0, none⟩)))) (by unfold refV; simp [results, Tryd.results6, go_sem, c0, c1]) rfl ⟨B2.out, _, rfl, E2.out⟩
  · have RF := Lib.hid (fun w => t_refuse 123 (off + ((n : Int) - 4)) (by omega) w)
    unfold RefOut refV at RF
    have g5 : ((gv l b ((n : Int) - 4) 4 : Int) == (n : Int)) = false := by rw [beq_eq_false_iff_ne]; omega
    subst g2
    have le := LE rfl
    have n1 : (n : Int) ≤ (l.length : Int) := by omega
    have c1 : IntKind.u32.wrap (n : Int) = (n : Int) := by rw [IntKind.wrap_u32]; omega
    clear LE
    go_upto_region 11 with (go_at_call 8; refine (TS.out _ (HB.out.on S0.out.2)).mono ?_; rintro e u0 ⟨rfl, hb⟩; replace S0 := Lib.hid (S0.out.on hb); clear hb)
    have QP := Lib.hid (show w.heap.size < u0.heap.size from (Array.getElem?_eq_some_iff.1 S0.out.1).1)
    replace S0 := Lib.hid (S0.out.on (below_alloc u0 (.cells #[.slice ad l.length c, .bool b] 42)))
    have G0 := Lib.hid (row_new u0 (.cells #[.slice ad l.length c, .bool b] 42) rfl)
    generalize u0.alloc (.cells #[.slice ad l.length c, .bool b] 42) = u4 at *
    generalize u0.heap.size = q at *
    obtain ⟨⟨x0, x1⟩, _⟩ := row2 G0.out
    go_upto_region 13 with (go_at_call 13; refine (UL.out _ (by omega) _ (HA.out.on S0.out.2)).mono ?_; rintro e u5 ⟨rfl, hb⟩; replace S0 := Lib.hid (S0.out.on hb); have G5 := Lib.hid (keepRow G0.out hb); clear hb G0 x0 x1)
    go_wp2_with (go_at_call 12; refine (RF.out _).mono ?_; rintro e u1 ⟨u, rfl, hE, hb⟩; have S1 := Lib.hid (S0.out.on hb); obtain ⟨bb, rfl, _⟩ := blkE_note hE; have E2 := Lib.hid (blkE_stored hE S1.out.1 (.int .u32 0) (.slice none 0 0)); have B2 := Lib.hid ((S1.out.2.setCell (p := ⟨w.heap.size, 0, none⟩) (by exact Nat.le_refl _) (.int .u32 0)).setCell (p := ⟨w.heap.size, 1, none⟩) (by exact Nat.le_refl _) (.slice none 0 0)); have R2 := Lib.hid (two_row S1.out.1 (.int .u32 0) (.slice none 0 0)); clear hE hb S0; obtain ⟨⟨c0, c1⟩, f⟩ := row2 S1.out.1; have f0 := f 0; have f1 := f 1; clear f)
    clear c0 c1 f0 f1 S1
    generalize (u1.setCell ⟨w.heap.size, 0, none⟩ (.int .u32 0)).setCell ⟨w.heap.size, 1, none⟩ (.slice none 0 0) = u9 at *
    obtain ⟨⟨c0, c1⟩, _⟩ := row2 R2.out
    refine bodyPost_ret (v := refV (.iface 76 (.pointer (some ⟨bb, 0, none⟩)))) (by unfold refV; simp [results, Tryd.results6, go_sem, c0, c1]) rfl ⟨B2.out, _, rfl, by rw [show off + (n : Int) - 4 = off + ((n : Int) - 4) by omega]; exact E2.out⟩
  · have g5 : ((gv l b ((n : Int) - 4) 4 : Int) == (n : Int)) = true := by rw [g4]; simp
    subst g2
    have le := LE rfl
    have n1 : (n : Int) ≤ (l.length : Int) := by omega
    have c1 : IntKind.u32.wrap (n : Int) = (n : Int) := by rw [IntKind.wrap_u32]; omega
    clear LE
    go_upto_region 11 with (go_at_call 8; refine (TS.out _ (HB.out.on S0.out.2)).mono ?_; rintro e u0 ⟨rfl, hb⟩; replace S0 := Lib.hid (S0.out.on hb); clear hb)
    have QP := Lib.hid (show w.heap.size < u0.heap.size from (Array.getElem?_eq_some_iff.1 S0.out.1).1)
    replace S0 := Lib.hid (S0.out.on (below_alloc u0 (.cells #[.slice ad l.length c, .bool b] 42)))
    have G0 := Lib.hid (row_new u0 (.cells #[.slice ad l.length c, .bool b] 42) rfl)
    generalize u0.alloc (.cells #[.slice ad l.length c, .bool b] 42) = u4 at *
    generalize u0.heap.size = q at *
    obtain ⟨⟨x0, x1⟩, _⟩ := row2 G0.out
    go_upto_region 14 with (go_at_call 13; refine (UL.out _ (by omega) _ (HA.out.on S0.out.2)).mono ?_; rintro e u5 ⟨rfl, hb⟩; replace S0 := Lib.hid (S0.out.on hb); have G5 := Lib.hid (keepRow G0.out hb); clear hb G0 x0 x1)
    obtain ⟨⟨x0, x1⟩, _⟩ := row2 G5.out
    obtain ⟨m, hm⟩ : ∃ m : Nat, (n : Int) - 12 = (m : Int) := ⟨n - 12, by omega⟩
    have MN := Lib.hid (show n - 12 = m ∧ 8 + m ≤ l.length by omega)
    go_upto_region 15 with (go_at_call 14; refine (CC.out m MN.out.2 _).mono ?_; rintro e u6 ⟨rfl, hb⟩; replace S0 := Lib.hid (S0.out.on hb); have G6 := Lib.hid (keepRow G5.out hb); clear hb G5 x0 x1)
    obtain ⟨⟨x0, x1⟩, _⟩ := row2 G6.out
    go_wp2_with (first | (go_at_call 13; refine (UL.out _ (by omega) _ (HA.out.on S0.out.2)).mono ?_; rintro e u7 ⟨rfl, hb⟩; replace S0 := Lib.hid (S0.out.on hb); clear hb) | (go_at_call 15; refine (CL.out _ _ m (CB.out m MN.out.2 _ (HA.out.on S0.out.2))).mono ?_; rintro e u8 ⟨v8, rfl, hO⟩; have S8 := Lib.hid (S0.out.on hO.below); have O8 := Lib.hid hO.byt; obtain ⟨a8, n8, d8, rfl⟩ := hO.byt.slice; clear hO; obtain ⟨⟨c0, c1'⟩, f⟩ := row2 S8.out.1; have f0 := f 0; have f1 := f 1; clear f))
    rw [MN.out.1]
    have Y8 := Lib.hid (O8.out.storedK S8.out.1 (.int .u32 (gv l b 0 4)) (.slice a8 n8 d8))
    have B8 := Lib.hid ((S8.out.2.setCell (p := ⟨w.heap.size, 0, none⟩) (by exact Nat.le_refl _) (.int .u32 (gv l b 0 4))).setCell (p := ⟨w.heap.size, 1, none⟩) (by exact Nat.le_refl _) (.slice a8 n8 d8))
    have R8 := Lib.hid (two_row S8.out.1 (.int .u32 (gv l b 0 4)) (.slice a8 n8 d8))
    clear c0 c1' f0 f1 S8 O8
    generalize (u8.setCell ⟨w.heap.size, 0, none⟩ (.int .u32 (gv l b 0 4))).setCell ⟨w.heap.size, 1, none⟩ (.slice a8 n8 d8) = u9 at *
    obtain ⟨⟨c0, c1'⟩, _⟩ := row2 R8.out
    refine bodyPost_ret (v := opnV (gv l b 0 4) (.slice a8 n8 d8) n) (by unfold opnV; simp [results, Tryd.results6, go_sem, c0, c1']) rfl ⟨B8.out, _, rfl, Y8.out⟩
end Go.Proofs.YtjdnekkbmanmdaaDoor
