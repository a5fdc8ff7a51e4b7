/-
  The document's Head (horologeref09).
-/
import Derived.Test.YtjdnekkbmanmdaaBSec9
namespace Go.Proofs.Ytjdnekkbmanmdaa
open Go.RowKit Go.Sort
set_option maxRecDepth 8000
theorem KSt.put4 {w wr : World} {v0 v1 v2 v3 : Value} {T : TypeId} (h : KSt w wr (.cells #[v0, v1, v2, v3] T (0, 0))) (u0 u1 u2 u3 : Value) : KSt w (Go.Proofs.Ytjdnekkbmanmdaa.put4 wr w.heap.size u0 u1 u2 u3) (.cells #[u0, u1, u2, u3] T (0, 0)) :=
  ⟨four_row h.1 _ _ _ _, below_put4 h.2 (Nat.le_refl _) _ _ _ _⟩
set_option maxHeartbeats 4000000 in
theorem r_head9 (kind : Nat) (v : Value) (l : List UInt8) (b : Bool) (hl : l.length ≤ 900) (w : World) (hB : Byt w v l) :
    Calls Try.prog 17 #[.int .u32 kind, v, .bool b] w (SecOut w (secB kind l b)) := by
  have HB := Lib.hid hB
  obtain ⟨ad, c, rfl, hc, hA⟩ := hB.open
  have hz : l.length ≤ 140737488355328 := by omega
  have HA := Lib.hid hA
  have U0 := Lib.hid (fun w hB => r_number (.slice ad l.length c) l b 0 (by omega) w hB hz)
  have U4 := Lib.hid (fun w hB => r_get ad l c b 4 2 (by omega) (by omega) hz w hB)
  have U6 := Lib.hid (fun w hB => r_get ad l c b 6 2 (by omega) (by omega) hz w hB)
  have U8 := Lib.hid (fun w hB => r_get ad l c b 8 8 (by omega) (by omega) hz w hB)
  have HP := Lib.hid (fun (h : 16 ≤ l.length) W' (hb : Below w.heap.size w W') => (show BytA W' (if c = 16 then ad else ad.map (·.add 16)) (l.drop 16) ∧ l.length - 16 = (l.drop 16).length by
    have e : (l.drop 16).take (l.length - 16) = l.drop 16 := List.take_of_length_le (by rw [List.length_drop]; exact Nat.le_refl _)
    have := (hA.sub 16 (l.length - 16) c (by omega) hc).on hb
    rw [e] at this
    exact ⟨this, by rw [List.length_drop]⟩))
  have SL := Lib.hid (fun (h : 16 ≤ l.length) W' => (show (Instr.slice 22 (.slice ad l.length c) (some (.int .i64 16)) none none).run Try.prog W' = .ok (.slice (if c = 16 then ad else ad.map (·.add 16)) (l.length - 16) (c - 16)) W' from run_from W' ad l.length c 16 h))
  have V := secB_ways kind l b
  clear hB hA
  have bd4 := gv_16 l b 4
  have bd6 := gv_16 l b 6
  have bd8 := gv_64 l b 8
  have bd0 := gv_32 l b 0
  have S0 := Lib.hid (KSt.new w (.cells #[.int .u16 0, .int .u16 0, .int .i64 0, .slice none 0 0] 42 (0, 0)))
  generalize secB kind l b = o at *
  generalize gv l b 0 4 = x0 at *
  generalize gv l b 4 2 = x4 at *
  generalize gv l b 6 2 = x6 at *
  generalize gv l b 8 8 = x8 at *
  generalize gok l.length 4 2 = k4 at *
  generalize gok l.length 6 2 = k6 at *
  generalize gok l.length 8 8 = k8 at *
  have hr : (l.drop 16).length ≤ 900 := by rw [List.length_drop]; omega
  generalize l.drop 16 = r at *
  generalize hn : l.length = n at *
  clear hn
  unfold SecOut
  go_enter Try.func17, Try.ntmps17
  go_upto_region 1 with fail
  generalize hw0 : w.alloc (.cells _ 42 (0, 0)) = w0 at *
  clear hw0
  obtain ⟨⟨d0, d1, d2, d3⟩, f⟩ := row4 S0.out.1
  have f0 := f 0
  have f1 := f 1
  have f2 := f 2
  have f3 := f 3
  clear f
  rcases V with ⟨g1, rfl⟩ | ⟨g1, g2, rfl⟩ | V
  · have g1 : ((kind : Int) == 168627466) = false := by simp; omega
    go_wp2
    refine bodyPost_ret (v := secV ((0, 0, 0, []), 2) (.slice none 0 0)) (by rw [secV_none]; simp [results, Try.results17, go_sem, d0, d1, d2, d3]) rfl ⟨_, rfl, byt_nil _, ?_⟩
    have B2 := S0.out.2
    (repeat (first | (with_reducible exact Below.refl _ _) | (with_reducible assumption) | (with_reducible refine Below.drew ?_) | (with_reducible refine below_drewN ?_ _) | ((with_reducible refine Below.alloc ?_ ?_ _); rotate_left; (focus (first | (simp; done) | (simp; omega) | omega))) | ((with_reducible refine Below.setCell ?_ ?_ _); rotate_left; (focus (first | (simp; done) | (simp; omega) | omega))) | ((with_reducible refine Below.trans ?_ (Below.mono (by assumption) ?_)); rotate_left; (focus (first | (simp; done) | (simp; omega) | omega)))))
  · have g1 : ((kind : Int) == 168627466) = true := by simp; omega
    have g2 : decide ((n : Int) < 16) = true := by simp; omega
    go_wp2
    refine bodyPost_ret (v := secV ((0, 0, 0, []), 123) (.slice none 0 0)) (by rw [secV_none]; simp [results, Try.results17, go_sem, d0, d1, d2, d3]) rfl ⟨_, rfl, byt_nil _, ?_⟩
    have B2 := S0.out.2
    (repeat (first | (with_reducible exact Below.refl _ _) | (with_reducible assumption) | (with_reducible refine Below.drew ?_) | (with_reducible refine below_drewN ?_ _) | ((with_reducible refine Below.alloc ?_ ?_ _); rotate_left; (focus (first | (simp; done) | (simp; omega) | omega))) | ((with_reducible refine Below.setCell ?_ ?_ _); rotate_left; (focus (first | (simp; done) | (simp; omega) | omega))) | ((with_reducible refine Below.trans ?_ (Below.mono (by assumption) ?_)); rotate_left; (focus (first | (simp; done) | (simp; omega) | omega)))))
  have V0 := V
  have VV : x0 ≠ 439041101 ∧ o = ((0, 0, 0, []), 120) ∨ x0 = 439041101 ∧ (x4 ≠ 1 ∧ o = ((0, 0, 0, []), 125) ∨ x4 = 1 ∧ o = ((x4, x6, x8, r), 0)) := by
    rcases V with ⟨_, _, h, e⟩ | ⟨_, _, h, h', e⟩ | ⟨_, _, h, h', e⟩
    · exact Or.inl ⟨h, e⟩
    · exact Or.inr ⟨h, Or.inl ⟨h', e⟩⟩
    · exact Or.inr ⟨h, Or.inr ⟨h', e⟩⟩
  obtain ⟨g1, g16⟩ : kind = 168627466 ∧ 16 ≤ n := by rcases V0 with ⟨h, g, _⟩ | ⟨h, g, _⟩ | ⟨h, g, _⟩ <;> exact ⟨h, by omega⟩
  have HP := Lib.hid (HP.out g16)
  have SL := SL.out g16
  obtain ⟨A, hA⟩ : ∃ A, A = (if c = 16 then ad else ad.map (·.add 16)) := ⟨_, rfl⟩
  rw [← hA] at HP SL
  clear hA V0 V
  have g1 : ((kind : Int) == 168627466) = true := by simp; omega
  have g2 : decide ((n : Int) < 16) = false := by simp; omega
  rcases VV with ⟨g3, rfl⟩ | ⟨g3, V⟩
  · have g3 : ((x0 : Int) == 439041101) = false := by simp; omega
    go_wp2_with (go_at_call 19; refine (U0.out _ (HB.out.on S0.out.2)).mono ?_; rintro e u1 ⟨rfl, rfl⟩)
    refine bodyPost_ret (v := secV ((0, 0, 0, []), 120) (.slice none 0 0)) (by rw [secV_none]; simp [results, Try.results17, go_sem, d0, d1, d2, d3]) rfl ⟨_, rfl, byt_nil _, ?_⟩
    have B2 := S0.out.2
    (repeat (first | (with_reducible exact Below.refl _ _) | (with_reducible assumption) | (with_reducible refine Below.drew ?_) | (with_reducible refine below_drewN ?_ _) | ((with_reducible refine Below.alloc ?_ ?_ _); rotate_left; (focus (first | (simp; done) | (simp; omega) | omega))) | ((with_reducible refine Below.setCell ?_ ?_ _); rotate_left; (focus (first | (simp; done) | (simp; omega) | omega))) | ((with_reducible refine Below.trans ?_ (Below.mono (by assumption) ?_)); rotate_left; (focus (first | (simp; done) | (simp; omega) | omega)))))
  have g3 : ((x0 : Int) == 439041101) = true := by simp; omega
  have c4 : IntKind.u16.wrap (x4 : Int) = (x4 : Int) := by rw [IntKind.wrap_u16]; omega
  have c6 : IntKind.u16.wrap (x6 : Int) = (x6 : Int) := by rw [IntKind.wrap_u16]; omega
  go_upto_region 7 with (go_at_call 19; refine (U0.out _ (HB.out.on S0.out.2)).mono ?_; rintro e u1 ⟨rfl, rfl⟩)
  go_upto_region 8 with (go_at_call 28; refine (U4.out _ (HA.out.on S0.out.2)).mono ?_; rintro e u1 ⟨rfl, rfl⟩)
  go_upto_region 9 with (go_at_call 28; refine (U6.out _ (HA.out.on S0.out.2)).mono ?_; rintro e u1 ⟨rfl, rfl⟩)
  go_upto_region 10 with (go_at_call 28; refine (U8.out _ (HA.out.on S0.out.2)).mono ?_; rintro e u1 ⟨rfl, rfl⟩)
  rcases V with ⟨g4, rfl⟩ | ⟨g4, rfl⟩
  · have g4 : ((x4 : Int) == 1) = false := by simp; omega
    go_wp2
    refine bodyPost_ret (v := secV ((0, 0, 0, []), 125) (.slice none 0 0)) (by rw [secV_none]; simp [results, Try.results17, go_sem, d0, d1, d2, d3]) rfl ⟨_, rfl, byt_nil _, ?_⟩
    have B2 := S0.out.2
    (repeat (first | (with_reducible exact Below.refl _ _) | (with_reducible assumption) | (with_reducible refine Below.drew ?_) | (with_reducible refine below_drewN ?_ _) | ((with_reducible refine Below.alloc ?_ ?_ _); rotate_left; (focus (first | (simp; done) | (simp; omega) | omega))) | ((with_reducible refine Below.setCell ?_ ?_ _); rotate_left; (focus (first | (simp; done) | (simp; omega) | omega))) | ((with_reducible refine Below.trans ?_ (Below.mono (by assumption) ?_)); rotate_left; (focus (first | (simp; done) | (simp; omega) | omega)))))
  have g5 : ((x4 : Int) == 1) = true := by simp; omega
  have OE := Lib.hid (ownB_empty w0)
  clear d0 d1 d2 d3 f0 f1 f2 f3
  go_wp2_with (at_builtin; refine wp_append_bytes rfl (.tmp 53) (.tmp 55) rfl w0 _ [] _ rfl OE.out A r (n - 16) (c - 16) ((HP.out _ (S0.out.2.trans ((below_alloc w0 (.cells #[] 5)).mono S0.out.2.size))).2) rfl ((HP.out _ (S0.out.2.trans ((below_alloc w0 (.cells #[] 5)).mono S0.out.2.size))).1) (by simp; omega) ?_)
  intro v6 w6 hO
  have S6 := Lib.hid (S0.out.on hO.below)
  have O6 := Lib.hid (show Byt w6 v6 r by simpa using hO.byt)
  obtain ⟨a6, n6, d6, rfl⟩ := hO.slice
  clear hO OE
  obtain ⟨⟨d0, d1, d2, d3⟩, f⟩ := row4 S6.out.1
  have f0 := f 0
  have f1 := f 1
  have f2 := f 2
  have f3 := f 3
  clear f
  go_wp2_with fail
  rw [← IntWalk.i64_left]
  have Y7 := Lib.hid (O6.out.put4 S6.out.1 (.int .u16 1) (.int .u16 x6) (.int .i64 (IntKind.i64.wrap x8)) (.slice a6 n6 d6))
  have S7 := Lib.hid (S6.out.put4 (.int .u16 1) (.int .u16 x6) (.int .i64 (IntKind.i64.wrap x8)) (.slice a6 n6 d6))
  unfold put4 at Y7 S7
  clear d0 d1 d2 d3 f0 f1 f2 f3 S6 O6
  generalize (((w6.setCell ⟨w.heap.size, 0, none⟩ (.int .u16 1)).setCell ⟨w.heap.size, 1, none⟩ (.int .u16 x6)).setCell ⟨w.heap.size, 2, none⟩ (.int .i64 (IntKind.i64.wrap x8))).setCell ⟨w.heap.size, 3, none⟩ (.slice a6 n6 d6) = w7 at *
  obtain ⟨⟨d0, d1, d2, d3⟩, _⟩ := row4 S7.out.1
  refine bodyPost_ret (v := secV ((1, x6, x8, r), 0) (.slice a6 n6 d6)) (by unfold secV; simp [results, Try.results17, go_sem, d0, d1, d2, d3]) rfl ⟨_, rfl, Y7.out, S7.out.2⟩
end Go.Proofs.Ytjdnekkbmanmdaa
