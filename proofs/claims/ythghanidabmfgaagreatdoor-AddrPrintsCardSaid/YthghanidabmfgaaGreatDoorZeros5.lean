/-
  The longest run of groups that are 0: zeros, with its closure.
-/
import Derived.Test.YthghanidabmfgaaGreatDoorAddrs2
namespace Go.Proofs.YthghanidabmfgaaGreatDoor
open Go.RowKit Go.Sort
set_option maxRecDepth 8000
/-- The three numbers in their variables: where a run begins; the longest one's end and start. -/
def Zs (w wr : World) (f e s : Nat) : Prop := wr.heap[w.heap.size + 1 + 1 + 1]? = some (.cells #[.int .i64 f] 3 (0, 0)) ∧ wr.heap[w.heap.size + 1 + 1]? = some (.cells #[.int .i64 e] 3 (0, 0)) ∧ wr.heap[w.heap.size + 1]? = some (.cells #[.int .i64 s] 3 (0, 0)) ∧ Below w.heap.size w wr
theorem zstep_bd {p : Nat × Nat × Nat} {i : Nat} (h1 : p.1 ≤ i) (h2 : p.2.1 ≤ p.2.2) (h3 : p.2.2 ≤ i) : (zstep p i).1 = i + 1 ∧ (zstep p i).2.1 ≤ (zstep p i).2.2 ∧ (zstep p i).2.2 ≤ i := by
  unfold zstep; split <;> simp <;> omega
theorem Zs.first {w wr : World} {f e s : Nat} (h : Zs w wr f e s) (n : Nat) : Zs w (wr.setCell ⟨w.heap.size + 1 + 1 + 1, 0, none⟩ (.int .i64 (n : Int))) n e s :=
  ⟨by simpa using heap_setCell_same wr _ 0 _ _ (.int .i64 (n : Int)) h.1, (heap_setCell_other _ _ _ _ (by dsimp only; omega)).trans h.2.1, (heap_setCell_other _ _ _ _ (by dsimp only; omega)).trans h.2.2.1, h.2.2.2.setCell (by dsimp only; omega) _⟩
theorem Zs.last {w wr : World} {f e s : Nat} (h : Zs w wr f e s) (n : Nat) : Zs w (wr.setCell ⟨w.heap.size + 1 + 1, 0, none⟩ (.int .i64 (n : Int))) f n s :=
  ⟨(heap_setCell_other _ _ _ _ (by dsimp only; omega)).trans h.1, by simpa using heap_setCell_same wr _ 0 _ _ (.int .i64 (n : Int)) h.2.1, (heap_setCell_other _ _ _ _ (by dsimp only; omega)).trans h.2.2.1, h.2.2.2.setCell (by dsimp only; omega) _⟩
theorem Zs.start {w wr : World} {f e s : Nat} (h : Zs w wr f e s) (n : Nat) : Zs w (wr.setCell ⟨w.heap.size + 1, 0, none⟩ (.int .i64 (n : Int))) f e n :=
  ⟨(heap_setCell_other _ _ _ _ (by dsimp only; omega)).trans h.1, (heap_setCell_other _ _ _ _ (by dsimp only; omega)).trans h.2.1, by simpa using heap_setCell_same wr _ 0 _ _ (.int .i64 (n : Int)) h.2.2.1, h.2.2.2.setCell (by dsimp only; omega) _⟩
theorem Zs.drew {w wr : World} {f e s : Nat} (h : Zs w wr f e s) : Zs w wr.drew f e s := ⟨h.1, h.2.1, h.2.2.1, h.2.2.2.drew⟩
set_option maxHeartbeats 1000000 in
theorem t_stop (w wr : World) (f e s i : Nat) (hi : i ≤ 8) (h1 : f ≤ i) (h2 : s ≤ e) (h3 : e ≤ i) (h : Zs w wr f e s) :
    Calls Tryz.prog 64 #[.int .i64 i, .pointer (some ⟨w.heap.size + 1 + 1 + 1, 0, none⟩), .pointer (some ⟨w.heap.size + 1 + 1, 0, none⟩), .pointer (some ⟨w.heap.size + 1, 0, none⟩)] wr fun x w' => x = .returned (.tuple #[]) ∧ Zs w w' (zstep (f, s, e) i).1 (zstep (f, s, e) i).2.2 (zstep (f, s, e) i).2.1 := by
  have H := Lib.hid h
  obtain ⟨a1, a2, a3, hb⟩ := h
  have c1 := cell_of_row wr _ 0 _ _ _ a1
  have c2 := cell_of_row wr _ 0 _ _ _ a2
  have c3 := cell_of_row wr _ 0 _ _ _ a3
  have f1 := frozen_of_row wr _ 0 _ _ a1
  have f2 := frozen_of_row wr _ 0 _ _ a2
  have f3 := frozen_of_row wr _ 0 _ _ a3
  simp at c1 c2 c3
  go_enter Tryz.func64, Tryz.ntmps64
  clear a1 a2 a3 hb
  by_cases c : max (e - s) 1 < i - f
  · have E := Lib.hid (show zstep (f, s, e) i = (i + 1, f, i) from if_pos c)
    have k : max ((e : Int) - s) 1 < (i : Int) - f := by omega
    clear c
    go_wp2
    rw [E.out]
    exact bodyPost_end (v := .tuple #[]) (by simp [results, Tryz.results64, go_sem]) rfl ⟨rfl, by have := ((H.out.start f).last i).first (i + 1); exact this⟩
  · have E := Lib.hid (show zstep (f, s, e) i = (i + 1, s, e) from if_neg c)
    have k : ¬ max ((e : Int) - s) 1 < (i : Int) - f := by omega
    clear c
    go_wp2
    rw [E.out]
    exact bodyPost_end (v := .tuple #[]) (by simp [results, Tryz.results64, go_sem]) rfl ⟨rfl, by have := H.out.first (i + 1); exact this⟩
theorem fold_step {bs : List Bool} {i : Nat} {z : Bool} (h : bs[i]? = some z) (p : Nat × Nat × Nat) : zfold (bs.drop i) i p = zfold (bs.drop (i + 1)) (i + 1) (if z then p else zstep p i) := by
  have lt := (List.getElem?_eq_some_iff.1 h).1
  have e : bs[i] = z := (List.getElem?_eq_some_iff.1 h).2
  rw [List.drop_eq_getElem_cons lt, e]; rfl
set_option maxHeartbeats 1000000 in
theorem t_zeros (g : List Nat) (hl : g.length = 8) (w : World) : Calls Tryz.prog 44 #[.agg (u16C (nats g))] w fun e w' => e = .returned (.tuple #[.int .i64 ((zrun (isZ g)).1 : Nat), .int .i64 ((zrun (isZ g)).2 : Nat)]) ∧ Below w.heap.size w w' := by
  have hl2 : (nats g).length = 8 := by simp [nats, hl]
  have B0 : Hid (Blk ((((w.alloc (.cells (u16C (nats g)) 54)).alloc (.cells #[.int .i64 0] 3)).alloc (.cells #[.int .i64 0] 3)).alloc (.cells #[.int .i64 0] 3)) w.heap.size 54 (u16C (nats g))) := Lib.hid ((((Blk.new _ _ _ rfl).alloc _).alloc _).alloc _)
  have Z0 : Hid (Zs w ((((w.alloc (.cells (u16C (nats g)) 54)).alloc (.cells #[.int .i64 0] 3)).alloc (.cells #[.int .i64 0] 3)).alloc (.cells #[.int .i64 0] 3)) 0 0 0) := Lib.hid ⟨Blk.new _ _ _ (by simp), (Blk.new _ _ _ (by simp)).alloc _, ((Blk.new _ _ _ (by simp)).alloc _).alloc _, by (repeat (first | (with_reducible exact Below.refl _ _) | (with_reducible assumption) | (with_reducible refine Below.drew ?_) | (with_reducible refine below_drewN ?_ _) | ((with_reducible refine Below.alloc ?_ ?_ _); rotate_left; (focus (first | (simp; done) | (simp; omega) | omega))) | ((with_reducible refine Below.setCell ?_ ?_ _); rotate_left; (focus (first | (simp; done) | (simp; omega) | omega))) | ((with_reducible refine Below.trans ?_ (Below.mono (by assumption) ?_)); rotate_left; (focus (first | (simp; done) | (simp; omega) | omega)))))⟩
  go_enter Tryz.func44, Tryz.ntmps44
  go_upto_region 3 with fail
  generalize (((w.alloc (.cells (u16C (nats g)) 54)).alloc (.cells #[.int .i64 0] 3)).alloc (.cells #[.int .i64 0] 3)).alloc (.cells #[.int .i64 0] 3) = w1 at *
  have l0 := ld_8 hl2 B0.out
  go_wp2_with (refine wl_load rfl _ _ rfl _ rfl _ l0 ?_)
  clear l0 B0
  go_loopw [10] (fun i wr => ∃ k f e s : Nat, k ≤ 8 ∧ i = .int .i64 k ∧ f ≤ k ∧ s ≤ e ∧ e ≤ k ∧ Hid (Zs w wr f e s ∧ zfold ((isZ g).drop k) k (f, s, e) = zfold (isZ g) 0 (0, 0, 0))) (fun i _ => 8 - (intOf i).toNat)
  case atStart => exact ⟨0, 0, 0, 0, by omega, rfl, by omega, by omega, by omega, Z0.out, rfl⟩
  case round =>
    clear Z0
    obtain ⟨k, f, e, s, hk, rfl, h1, h2, h3, Z⟩ := hrel
    have ST := Lib.hid (t_stop w wr f e s k hk h1 h2 h3 Z.out.1)
    have BD := zstep_bd (p := (f, s, e)) h1 h2 h3
    by_cases hlt : k < 8
    · have e1 : g[k]? = some (g[k]'(by omega)) := List.getElem?_eq_getElem _
      have FS := Lib.hid (fold_step (show (isZ g)[k]? = some (g[k]'(by omega) == 0) by simp [isZ, e1]) (f, s, e))
      generalize g[k]'(by omega) = n at *
      have X := idx8 hl2 (show (nats g)[k]? = some (n : Int) by simp [nats, e1])
      clear e1
      by_cases hn : n = 0
      · subst hn
        have N := Lib.hid (show zfold ((isZ g).drop (k + 1)) (k + 1) (f, s, e) = zfold (isZ g) 0 (0, 0, 0) by rw [← Z.out.2, FS.out]; rfl)
        clear FS
        go_wp2
        go_roundw
        case rel => exact ⟨k + 1, f, e, s, by omega, by go_num, by omega, h2, by omega, Z.out.1, N.out⟩
        case measure => simp [intOf]; omega
      · have hn' : ((n : Int) == 0) = false := by simpa using hn
        have N := Lib.hid (show zfold ((isZ g).drop (k + 1)) (k + 1) (zstep (f, s, e) k) = zfold (isZ g) 0 (0, 0, 0) by
          rw [← Z.out.2, FS.out, if_neg (by simpa using hn)])
        clear FS Z
        obtain ⟨⟨f', s', e'⟩, hp⟩ : ∃ p, p = zstep (f, s, e) k := ⟨_, rfl⟩
        rw [← hp] at N ST BD
        clear hp
        dsimp only at BD ST
        go_wp2_with fail
        refine ST.out.mono ?_
        rintro x w2 ⟨rfl, Z2⟩
        have Z2 := Lib.hid Z2
        go_wp2
        go_roundw
        case rel => exact ⟨k + 1, f', e', s', by omega, by go_num, by omega, BD.2.1, by omega, Z2.out, N.out⟩
        case measure => simp [intOf]; omega
    · obtain rfl : k = 8 := by omega
      have N := Lib.hid (show (zstep (f, s, e) 8).2 = zrun (isZ g) by
        have := Z.out.2
        rw [List.drop_of_length_le (by simp [isZ, hl])] at this
        show (zfold [] 8 (f, s, e)).2 = _
        rw [this]; rfl)
      clear Z
      obtain ⟨⟨f', s', e'⟩, hp⟩ : ∃ p, p = zstep (f, s, e) 8 := ⟨_, rfl⟩
      rw [← hp] at N ST BD
      clear hp
      dsimp only at BD ST
      have N1 := Lib.hid (show (zrun (isZ g)).1 = s' ∧ (zrun (isZ g)).2 = e' by rw [← N.out]; exact ⟨rfl, rfl⟩)
      clear N
      go_wp2_with fail
      refine ST.out.mono ?_
      rintro x w2 ⟨rfl, Z2⟩
      have c2 := cell_of_row w2 _ 0 _ _ _ Z2.2.1
      have c3 := cell_of_row w2 _ 0 _ _ _ Z2.2.2.1
      have f2 := frozen_of_row w2 _ 0 _ _ Z2.2.1
      have f3 := frozen_of_row w2 _ 0 _ _ Z2.2.2.1
      simp at c2 c3
      have Z2 := Lib.hid Z2
      go_upto_region 10 with fail
      go_region
      have Z3 : Hid (Zs w ((w2.setCell ⟨w.heap.size + 1, 0, none⟩ (.int .i64 (s' : Int))).setCell ⟨w.heap.size + 1 + 1, 0, none⟩ (.int .i64 (e' : Int))).drew f' e' s') := Lib.hid ((Z2.out.start s').last e').drew
      clear c2 c3 f2 f3 Z2
      generalize ((w2.setCell ⟨w.heap.size + 1, 0, none⟩ (.int .i64 (s' : Int))).setCell ⟨w.heap.size + 1 + 1, 0, none⟩ (.int .i64 (e' : Int))).drew = w3 at *
      have c2 := cell_of_row w3 _ 0 _ _ _ Z3.out.2.1
      have c3 := cell_of_row w3 _ 0 _ _ _ Z3.out.2.2.1
      simp at c2 c3
      go_wp2
      exact bodyPost_ret (v := .tuple #[.int .i64 (s' : Int), .int .i64 (e' : Int)]) (by simp [results, Tryz.results44, go_sem, c2, c3, asAddr]) rfl ⟨by rw [N1.out.1, N1.out.2], Z3.out.2.2.2⟩
end Go.Proofs.YthghanidabmfgaaGreatDoor
