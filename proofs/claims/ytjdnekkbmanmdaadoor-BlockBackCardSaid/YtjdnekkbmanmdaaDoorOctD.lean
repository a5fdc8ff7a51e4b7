/-
  Package octet's Put.
-/
import Derived.Test.YtjdnekkbmanmdaaDoorOctB
import Derived.Test.YtjdnekkbmanmdaaDoorOctC
import Derived.Laws.CopyOwn
import Derived.Laws.OwnMore
import Derived.Deep.RegionHeld3
namespace Go.Proofs.YtjdnekkbmanmdaaDoor
open Go.RowKit Go.Sort
set_option maxRecDepth 8000
/-- A new row of bytes. -/
theorem run_make_u8 (w : World) (n m : Nat) (hc : n + m ≤ 140737488355328) :
    (Instr.makeSlice 23 (.int .i64 (n : Int)) (.int .i64 ((n : Int) + (m : Int)))).run Tryd.prog w = .ok (.slice (some ⟨w.heap.size, 0, none⟩) n (n + m)) (w.alloc (.cells (List.replicate (n + m) (.int .u8 0)).toArray 5)) := by
  obtain ⟨i0, hi, hz0, hz1, hz2⟩ := info_parts info_byte
  have hr := run_make (P := Tryd.prog) w 23 5 i0 (.int .u8 0) Tryd.underlying23 hi hz0 .i64 .i64 n (n + m : Nat) (by omega) (by omega) (by rw [hz2]; omega) (by omega)
  simp only [Int.toNat_natCast, hz1, Nat.mul_one] at hr
  rw [show (n : Int) + (m : Int) = ((n + m : Nat) : Int) by omega, hr, ← toList_madeCells_one]
  rfl
theorem own_spliced {W w : World} {g n c : Nat} {l : List UInt8} {k : Nat} (hk : k = l.length) (hn : n = l.length) (hg : w.heap[g]? = some (.cells (splice (List.replicate c (.int .u8 0)) 0 (cellsOf l)).toArray 5 (0, 0))) (hb : Below W.heap.size W w) (hW : W.heap.size ≤ g) (hc : n ≤ c) (hm : c ≤ 140737488355328) :
    OwnB W w l (.slice (some ⟨g, 0, none⟩) k c) := by
  subst hk hn
  refine ⟨⟨by rw [Nat.mul_one], Or.inr ⟨g, c, _, by rw [cellsOf_length], hW, hg, by rw [cellsOf_length]; exact hc, by simp only [maxLen]; omega, ?_, ?_⟩⟩, hb⟩
  · simp [splice, cellsOf_length]; omega
  · simp [splice, cellsOf_length]
theorem BytA.source {w : World} {a : Option Addr} {l : List UInt8} (h : BytA w a l) (h0 : 0 < (cellsOf l).length) : ∃ ad, a = some ad ∧ ∀ j v, (cellsOf l)[j]? = some v → w.cell? (ad.add j) = some v := by
  rcases h with rfl | ⟨b, o, rfl, _, hc⟩
  · simp [cellsOf] at h0
  · refine ⟨_, rfl, fun j v hj => ?_⟩
    obtain ⟨h, e⟩ := List.getElem?_eq_some_iff.1 hj
    rw [cellsOf_length] at h
    rw [addr_add, hc j h, ← e]
    simp [cellsOf]
theorem row_kept {W w' : World} {q : Nat} {v0 v1 : Value} {T : TypeId} (hq : W.heap[q]? = some (.cells #[v0, v1] T (0, 0))) (hb : Below W.heap.size W w') :
    w'.cell? ⟨q, 0, none⟩ = some v0 ∧ w'.cell? ⟨q, 1, none⟩ = some v1 ∧ w'.frozen? ⟨q, 0, none⟩ = false ∧ w'.frozen? ⟨q, 1, none⟩ = false := by
  have h := (hb.block q (Array.getElem?_eq_some_iff.1 hq).1).trans hq
  exact ⟨cell_of_row _ _ _ _ _ _ h, cell_of_row _ _ _ _ _ _ h, frozen_of_row _ _ _ _ _ h, frozen_of_row _ _ _ _ _ h⟩
theorem OwnB.slice {W w : World} {L : List UInt8} {v : Value} (h : OwnB W w L v) : ∃ a n c, v = .slice a n c := let ⟨a, c, e, _⟩ := h.byt; ⟨a, _, c, e⟩
theorem two_other {w : World} {q r : Nat} (h : q ≠ r) {v0 v1 u0 u1 : Value} (h0 : w.cell? ⟨q, 0, none⟩ = some v0) (h1 : w.cell? ⟨q, 1, none⟩ = some v1) :
    ((w.setCell ⟨r, 0, none⟩ u0).setCell ⟨r, 1, none⟩ u1).cell? ⟨q, 0, none⟩ = some v0 ∧ ((w.setCell ⟨r, 0, none⟩ u0).setCell ⟨r, 1, none⟩ u1).cell? ⟨q, 1, none⟩ = some v1 := by
  constructor
  · rw [World.cell?_setCell_other _ _ _ _ (by simp), World.cell?_setCell_other _ _ _ _ (by simp)]; exact h0
  · rw [World.cell?_setCell_other _ _ _ _ (by simp), World.cell?_setCell_other _ _ _ _ (by simp)]; exact h1
theorem two_same {w : World} {r : Nat} {v0 v1 u0 u1 : Value} (h0 : w.cell? ⟨r, 0, none⟩ = some v0) (h1 : w.cell? ⟨r, 1, none⟩ = some v1) :
    ((w.setCell ⟨r, 0, none⟩ u0).setCell ⟨r, 1, none⟩ u1).cell? ⟨r, 0, none⟩ = some u0 ∧ ((w.setCell ⟨r, 0, none⟩ u0).setCell ⟨r, 1, none⟩ u1).cell? ⟨r, 1, none⟩ = some u1 := by
  constructor
  · rw [World.cell?_setCell_other _ _ _ _ (by simp)]; exact World.cell?_setCell_same _ _ _ h0
  · exact World.cell?_setCell_same _ _ _ (by rw [World.cell?_setCell_other _ _ _ _ (by simp)]; exact h1)
theorem OwnB.other {W w : World} {L : List UInt8} {v : Value} (h : OwnB W w L v) {r : Nat} (hr : r < W.heap.size) (u0 u1 : Value) : Byt ((w.setCell ⟨r, 0, none⟩ u0).setCell ⟨r, 1, none⟩ u1) v L := by
  obtain ⟨a, c, e, hc, h⟩ := Own.row h
  rw [cellsOf_length] at e hc
  refine ⟨a, c, e, hc, ?_⟩
  rcases h with h | ⟨g, ea, hB, hg, hx⟩
  · left; cases L with
    | nil => rfl
    | cons _ _ => simp [cellsOf] at h
  · right
    refine ⟨g, 0, ea, by simpa using hg, fun j hj => ?_⟩
    rw [Nat.zero_add, World.cell?_setCell_other _ _ _ _ (fun e => by cases e; omega), World.cell?_setCell_other _ _ _ _ (fun e => by cases e; omega)]
    exact hx j _ (by simp [cellsOf, hj])
theorem below_two {B : Nat} {w0 w : World} (h : Below B w0 w) {r : Nat} (hr : B ≤ r) (u0 u1 : Value) : Below B w0 ((w.setCell ⟨r, 0, none⟩ u0).setCell ⟨r, 1, none⟩ u1) := by
  refine Below.setCell ?_ hr _
  exact Below.setCell h hr _
def PutOut (w : World) (b : Bool) (l : List UInt8) (e : Ending) (w' : World) : Prop := ∃ v, e = .returned (.agg #[v, .bool b]) ∧ Byt w' v l ∧ Below w.heap.size w w'
set_option maxHeartbeats 1000000 in
theorem t_put_yes (a : Option Addr) (l : List UInt8) (c : Nat) (b : Bool) (n many : Nat) (h8 : many ≤ 8) (hn : n < 18446744073709551616) (hz : l.length ≤ 1000000) (w : World) (hB : BytA w a l) :
    Calls Tryd.prog 10 #[.agg #[.slice a l.length c, .bool b], .int .u64 n, .int .i64 many] w (PutOut w b (l ++ ord b (lowB n many))) := by
  have HB := Lib.hid hB
  have LC := Lib.hid (cellsOf_length l)
  have MK := Lib.hid (fun w => run_make_u8 w l.length many (by omega))
  have CL := Lib.hid (show (cellsOf l).length = l.length from cellsOf_length l)
  obtain ⟨k, hk⟩ : ∃ k, k = l.length := ⟨_, rfl⟩
  have HK := Lib.hid hk
  rw [← hk] at hz MK ⊢
  clear hB hk
  have g1 : decide ((many : Int) < 0) = false := by simp
  have g2 : decide ((8 : Int) < (many : Nat)) = false := by simp; omega
  go_enter Tryd.func10, Tryd.ntmps10
  go_upto_region 3 with fail
  have mk := MK.out
  go_upto_region 4 with fail
  clear mk MK
  obtain ⟨W, hW⟩ : ∃ W, W = (w.alloc (.cells #[.slice a k c, .bool b] 42)).alloc (.cells #[.slice none 0 0, .bool false] 42) := ⟨_, rfl⟩
  have hs : W.heap.size = w.heap.size + 1 + 1 := by rw [hW]; simp
  have HS := Lib.hid hs
  have WB := Lib.hid (show Below w.heap.size w W by rw [hW]; exact (below_alloc w _).trans ((below_alloc _ _).mono (by simp)))
  have WQ := Lib.hid (show W.heap[w.heap.size]? = some (.cells #[.slice a k c, .bool b] 42 (0, 0)) by rw [hW, heap_alloc_old _ _ (by simp)]; exact row_new _ _ rfl)
  have WR := Lib.hid (show W.heap[w.heap.size + 1]? = some (.cells #[.slice none 0 0, .bool false] 42 (0, 0)) by rw [hW]; exact row_new _ _ (by simp))
  have HC := Lib.hid (HB.out.on ((WB.out).trans ((below_alloc W (.cells (Array.replicate (k + many) (.int .u8 0)) 5)).mono (by rw [hs]; omega))))
  rw [← hW, ← hs]
  clear hW HB
  have q0 : (W.alloc (.cells (Array.replicate (k + many) (.int .u8 0)) 5)).cell? ⟨w.heap.size, 0, none⟩ = some (.slice a k c) := by
    rw [((below_alloc W _).cell (p := ⟨w.heap.size, 0, none⟩) (by dsimp only; omega)), cell_of_row _ _ _ _ _ _ WQ.out]; rfl
  clear hs
  go_wp2_with (with_reducible refine wpList_copy_splice rfl _ _ 23 23 rfl 5 Tryd.underlying23 (by kernel_rfl) _ _ _ _ _ _ rfl rfl W.heap.size 0 (List.replicate (k + many) (.int .u8 0)) 5 ?g1 (cellsOf l) ?g2 ?g3 ?g4 ?g5 W.heap.size W (below_alloc W _) (Nat.le_refl _) ?_)
  case g1 => simp only [List.toArray_replicate]; exact row_new _ _ rfl
  case g2 => rw [LC.out, ← HK.out]; exact (Nat.min_self k).symm
  case g3 => exact fun h0 => HC.out.source h0
  case g4 => rw [LC.out, ← HK.out, List.length_replicate]; omega
  case g5 => exact cellsOf_one l
  intro w4 HG hB4
  have R := Lib.hid (own_spliced (W := W) (w := w4) (k := k) (n := k) HK.out HK.out HG.out hB4 (Nat.le_refl _) (by omega) (by omega))
  have B4 := Lib.hid hB4
  obtain ⟨e0, e1, _, _⟩ := row_kept WQ.out hB4
  clear q0 HG hB4
  have T := Lib.hid (fun w => t_turn b a k c n many hn h8 w)
  obtain ⟨x, hx⟩ : ∃ x, x = turnN b n many := ⟨_, rfl⟩
  have HX := Lib.hid hx
  rw [← hx] at T
  clear hx
  obtain ⟨q, hq⟩ : ∃ q, q = w.heap.size := ⟨_, rfl⟩
  obtain ⟨r, hr⟩ : ∃ r, r = w.heap.size + 1 := ⟨_, rfl⟩
  have QR := Lib.hid (show q ≠ r ∧ q = w.heap.size ∧ r = w.heap.size + 1 by omega)
  rw [← hr] at WR
  rw [← hq] at WQ e0 e1
  rw [← hr, ← hq]
  clear hr hq
  go_wp2_with fail
  go_region_held3 (fun W' => W'.cell? ⟨q, 0, none⟩ = some (.slice a k c) ∧ W'.cell? ⟨q, 1, none⟩ = some (.bool b))
    (first
      | exact ⟨e0, e1⟩
      | exact ⟨y0, y1⟩
      | exact ⟨z0, z1⟩
      | exact two_other QR.out.1 z0 z1
      | go_keep)
    (first
      | (go_at_call 21; (refine (T.out _).mono ?_; rintro e w5 ⟨rfl, hb5⟩; have R5 := Lib.hid (R.out.drew.on hb5); clear hb5 T; obtain ⟨y0, y1, _, _⟩ := row_kept WQ.out R5.out.below))
      | (go_at_call 20; refine (t_app W l _ x many h8 (by have := HK.out; omega) _ R5.out).mono ?_; rintro e w6 ⟨v6, rfl, hR6⟩; obtain ⟨a6, n6, c6, rfl⟩ := hR6.slice; have R6 := Lib.hid hR6; clear hR6; obtain ⟨z0, z1, _, _⟩ := row_kept WQ.out R6.out.below; obtain ⟨s0, s1, s2, s3⟩ := row_kept WR.out R6.out.below))
  have F := Lib.hid (two_same s0 s1 (u0 := .slice a6 n6 c6) (u1 := .bool b))
  have Y := Lib.hid (R6.out.other (r := r) (by have := QR.out; have := HS.out; omega) (.slice a6 n6 c6) (.bool b))
  have Z := Lib.hid (below_two (WB.out.trans (R6.out.below.mono (by have := HS.out; omega))) (r := r) (by have := QR.out; omega) (.slice a6 n6 c6) (.bool b))
  have E := Lib.hid (low_turn b n many)
  clear s0 s1 s2 s3 z0 z1 y0 y1 e0 e1 R R5 R6 B4 WR WQ HC
  generalize (w6.setCell ⟨r, 0, none⟩ (.slice a6 n6 c6)).setCell ⟨r, 1, none⟩ (.bool b) = w7 at *
  obtain ⟨f0, f1⟩ := F.out
  go_wp2_with fail
  refine bodyPost_ret (v := .agg #[.slice a6 n6 c6, .bool b]) (by simp [results, Tryd.results10, go_sem, f0, f1]) rfl ⟨_, rfl, ?_, Z.out⟩
  rw [← E.out, show (if b = true then le (lowB n many).reverse else n) = x from HX.out.symm]
  exact Y.out
set_option maxHeartbeats 1000000 in
theorem t_put_no (a : Option Addr) (k c : Nat) (b : Bool) (n : Nat) (many : Int) (h8 : many < 0 ∨ 8 < many) (hm : -9223372036854775808 ≤ many ∧ many ≤ 9223372036854775807) (w : World) :
    Calls Tryd.prog 10 #[.agg #[.slice a k c, .bool b], .int .u64 n, .int .i64 many] w fun e w' => e = .returned (.agg #[.slice a k c, .bool b]) ∧ Below w.heap.size w w' := by
  rcases h8 with g | g
  all_goals
    go_enter Tryd.func10, Tryd.ntmps10
    go_wp2
    refine bodyPost_ret (v := .agg #[.slice a k c, .bool b]) (by simp [results, Tryd.results10, go_sem]) rfl ⟨rfl, ?_⟩
    exact by (repeat (first | exact Below.refl _ _ | assumption | (refine Below.drew ?_) | (refine Below.alloc ?_ (by first | (simp; done) | (simp; omega) | omega) _) | (refine Below.setCell ?_ (by first | (simp; done) | (simp; omega) | omega) _) | (refine Below.trans ?_ (Below.mono (by assumption) (by first | (simp; done) | (simp; omega) | omega)))))
/-- Put, of whatever slice of bytes. -/
theorem t_put_byt (v : Value) (l : List UInt8) (b : Bool) (n many : Nat) (h8 : many ≤ 8) (hn : n < 18446744073709551616) (hz : l.length ≤ 1000000) (w : World) (hB : Byt w v l) :
    Calls Tryd.prog 10 #[.agg #[v, .bool b], .int .u64 n, .int .i64 many] w (PutOut w b (l ++ ord b (lowB n many))) := by
  obtain ⟨a, c, rfl, _, hA⟩ := hB.open
  exact t_put_yes a l c b n many h8 hn hz w hA
/-- Get, of whatever slice of bytes. -/
theorem t_get_byt (v : Value) (l : List UInt8) (b : Bool) (at_ many : Int) (ha : -9223372036854775808 ≤ at_ ∧ at_ ≤ 9223372036854775807) (hm : -9223372036854775808 ≤ many ∧ many ≤ 9223372036854775807) (hz : l.length ≤ 140737488355328) (w : World) (hB : Byt w v l) :
    Calls Tryd.prog 25 #[.agg #[v, .bool b], .int .i64 at_, .int .i64 many] w fun e w' =>
      e = .returned (.tuple #[.int .u64 (gv l b at_ many), .bool (gok l.length at_ many)]) ∧ Below w.heap.size w w' := by
  obtain ⟨a, c, rfl, hc, hA⟩ := hB.open
  exact t_get a l c b at_ many hc ha hm hz w hA
/-- Bytes lie in no row's variable. -/
theorem Byt.stored {w : World} {v : Value} {l : List UInt8} (h : Byt w v l) {p : Nat} {a0 : Option Addr} {n0 c0 : Nat} {b0 : Bool} {T : TypeId} (hp : w.heap[p]? = some (.cells #[.slice a0 n0 c0, .bool b0] T (0, 0))) (u0 u1 : Value) :
    Byt ((w.setCell ⟨p, 0, none⟩ u0).setCell ⟨p, 1, none⟩ u1) v l := by
  obtain ⟨a, c, e, hc, h⟩ := h
  refine ⟨a, c, e, hc, ?_⟩
  rcases h with h | ⟨g, o, ea, hg, hx⟩
  · exact Or.inl h
  · right
    refine ⟨g, o, ea, by simpa using hg, fun j hj => ?_⟩
    have hj' := hx j hj
    have ne : g ≠ p := by
      rintro rfl
      rw [cell_of_row _ _ _ _ _ _ hp] at hj'
      match o + j, hj' with
      | 0, hj' => simp at hj'
      | 1, hj' => simp at hj'
      | k + 2, hj' => simp at hj'
    rw [World.cell?_setCell_other _ _ _ _ (fun e => ne (congrArg Addr.block e).symm), World.cell?_setCell_other _ _ _ _ (fun e => ne (congrArg Addr.block e).symm)]
    exact hj'
theorem two_row {w : World} {p : Nat} {v0 v1 : Value} {T : TypeId} (hp : w.heap[p]? = some (.cells #[v0, v1] T (0, 0))) (u0 u1 : Value) :
    ((w.setCell ⟨p, 0, none⟩ u0).setCell ⟨p, 1, none⟩ u1).heap[p]? = some (.cells #[u0, u1] T (0, 0)) := by
  have h1 := heap_setCell_same w p 0 _ _ u0 hp
  have h2 := heap_setCell_same _ p 1 _ _ u1 h1
  rw [h2]; rfl
theorem two_far {w : World} {p r : Nat} (h : r ≠ p) (u0 u1 : Value) : ((w.setCell ⟨p, 0, none⟩ u0).setCell ⟨p, 1, none⟩ u1).heap[r]? = w.heap[r]? := by
  rw [heap_setCell_other _ _ _ _ (by simpa using h), heap_setCell_other _ _ _ _ (by simpa using h)]
end Go.Proofs.YtjdnekkbmanmdaaDoor
