/-
  The longest run of groups that are 0: zeros, with its closure.
  Printing an address, and ends.
-/
import Derived.Test.YthghanidabmfgaaGreatDoorAddrs2
import Derived.Test.YthghanidabmfgaaGreatDoorPrint5
namespace Go.Proofs.YthghanidabmfgaaGreatDoor
open Go.RowKit Go.Sort
set_option maxRecDepth 8000
/-- The three numbers in their variables: where a run begins; the longest one's end and start. -/
def Zs (w wr : World) (f e s : Nat) : Prop := wr.heap[w.heap.size + 1 + 1 + 1]? = some (.cells #[.int .i64 f] 3 (0, 0)) ∧ wr.heap[w.heap.size + 1 + 1]? = some (.cells #[.int .i64 e] 3 (0, 0)) ∧ wr.heap[w.heap.size + 1]? = some (.cells #[.int .i64 s] 3 (0, 0)) ∧ Below w.heap.size w wr
theorem zstep_bd {p : Nat × Nat × Nat} {i : Nat} (h1 : p.1 ≤ i) (h2 : p.2.1 ≤ p.2.2) (h3 : p.2.2 ≤ i) : (zstep p i).1 = i + 1 ∧ (zstep p i).2.1 ≤ (zstep p i).2.2 ∧ (zstep p i).2.2 ≤ i := by
  unfold zstep; split <;> simp <;> omega
theorem Zs.first {w wr : World} {f e s : Nat} (h : Zs w wr f e s) (n : Nat) : Zs w (wr.setCell ⟨w.heap.size + 1 + 1 + 1, 0, none⟩ (.int .i64 (n : Int))) n e s :=
  ⟨by simpa using heap_setCell_same wr _ 0 _ _ (.int .i64 (n : Int)) h.1, (heap_setCell_other _ _ _ _ (by dsimp only; omega)).trans h.2.1, (heap_setCell_other _ _ _ _ (by dsimp only; omega)).trans h.2.2.1, h.2.2.2.setCell (by dsimp only; omega) _⟩
theorem Zs.last {w wr : World} {f e s : Nat} (h : Zs w wr f e s) (n : Nat) : Zs w (wr.setCell ⟨w.heap.size + 1 + 1, 0, none⟩ (.int .i64 (n : Int))) f n s :=
  ⟨(heap_setCell_other _ _ _ _ (by dsimp only; omega)).trans h.1, by simpa using heap_setCell_same wr _ 0 _ _ (.int .i64 (n : Int)) h.2.1, (heap_setCell_other _ _ _ _ (by dsimp only; omega)).trans h.2.2.1, h.2.2.2.setCell (by dsimp only; omega) _⟩
theorem Zs.start {w wr : World} {f e s : Nat} (h : Zs w wr f e s) (n : Nat) : Zs w (wr.setCell ⟨w.heap.size + 1, 0, none⟩ (.int .i64 (n : Int))) f e n :=
  ⟨(heap_setCell_other _ _ _ _ (by dsimp only; omega)).trans h.1, (heap_setCell_other _ _ _ _ (by dsimp only; omega)).trans h.2.1, by simpa using heap_setCell_same wr _ 0 _ _ (.int .i64 (n : Int)) h.2.2.1, h.2.2.2.setCell (by dsimp only; omega) _⟩
theorem Zs.drew {w wr : World} {f e s : Nat} (h : Zs w wr f e s) : Zs w wr.drew f e s := ⟨h.1, h.2.1, h.2.2.1, h.2.2.2.drew⟩
set_option maxHeartbeats 1000000 in
theorem t_stop (w wr : World) (f e s i : Nat) (hi : i ≤ 8) (h1 : f ≤ i) (h2 : s ≤ e) (h3 : e ≤ i) (h : Zs w wr f e s) :
    Calls Tryz.prog 64 #[.int .i64 i, .pointer (some ⟨w.heap.size + 1 + 1 + 1, 0, none⟩), .pointer (some ⟨w.heap.size + 1 + 1, 0, none⟩), .pointer (some ⟨w.heap.size + 1, 0, none⟩)] wr fun x w' => x = .returned (.tuple #[]) ∧ Zs w w' (zstep (f, s, e) i).1 (zstep (f, s, e) i).2.2 (zstep (f, s, e) i).2.1 := by
  have H := Lib.hid h
  obtain ⟨a1, a2, a3, hb⟩ := h
  have c1 := cell_of_row wr _ 0 _ _ _ a1
  have c2 := cell_of_row wr _ 0 _ _ _ a2
  have c3 := cell_of_row wr _ 0 _ _ _ a3
  have f1 := frozen_of_row wr _ 0 _ _ a1
  have f2 := frozen_of_row wr _ 0 _ _ a2
  have f3 := frozen_of_row wr _ 0 _ _ a3
  simp at c1 c2 c3
  go_enter Tryz.func64, Tryz.ntmps64
  clear a1 a2 a3 hb
  by_cases c : max (e - s) 1 < i - f
  · have E := Lib.hid (show zstep (f, s, e) i = (i + 1, f, i) from if_pos c)
    have k : max ((e : Int) - s) 1 < (i : Int) - f := by omega
    clear c
    go_wp2
    rw [E.out]
    exact bodyPost_end (v := .tuple #[]) (by simp [results, Tryz.results64, go_sem]) rfl ⟨rfl, by have := ((H.out.start f).last i).first (i + 1); exact this⟩
  · have E := Lib.hid (show zstep (f, s, e) i = (i + 1, s, e) from if_neg c)
    have k : ¬ max ((e : Int) - s) 1 < (i : Int) - f := by omega
    clear c
    go_wp2
    rw [E.out]
    exact bodyPost_end (v := .tuple #[]) (by simp [results, Tryz.results64, go_sem]) rfl ⟨rfl, by have := H.out.first (i + 1); exact this⟩
theorem fold_step {bs : List Bool} {i : Nat} {z : Bool} (h : bs[i]? = some z) (p : Nat × Nat × Nat) : zfold (bs.drop i) i p = zfold (bs.drop (i + 1)) (i + 1) (if z then p else zstep p i) := by
  have lt := (List.getElem?_eq_some_iff.1 h).1
  have e : bs[i] = z := (List.getElem?_eq_some_iff.1 h).2
  rw [List.drop_eq_getElem_cons lt, e]; rfl
set_option maxHeartbeats 1000000 in
theorem t_zeros (g : List Nat) (hl : g.length = 8) (w : World) : Calls Tryz.prog 44 #[.agg (u16C (nats g))] w fun e w' => e = .returned (.tuple #[.int .i64 ((zrun (isZ g)).1 : Nat), .int .i64 ((zrun (isZ g)).2 : Nat)]) ∧ Below w.heap.size w w' := by
  have hl2 : (nats g).length = 8 := by simp [nats, hl]
  have B0 : Hid (Blk ((((w.alloc (.cells (u16C (nats g)) 54)).alloc (.cells #[.int .i64 0] 3)).alloc (.cells #[.int .i64 0] 3)).alloc (.cells #[.int .i64 0] 3)) w.heap.size 54 (u16C (nats g))) := Lib.hid ((((Blk.new _ _ _ rfl).alloc _).alloc _).alloc _)
  have Z0 : Hid (Zs w ((((w.alloc (.cells (u16C (nats g)) 54)).alloc (.cells #[.int .i64 0] 3)).alloc (.cells #[.int .i64 0] 3)).alloc (.cells #[.int .i64 0] 3)) 0 0 0) := Lib.hid ⟨Blk.new _ _ _ (by simp), (Blk.new _ _ _ (by simp)).alloc _, ((Blk.new _ _ _ (by simp)).alloc _).alloc _, by (repeat (first | (with_reducible exact Below.refl _ _) | (with_reducible assumption) | (with_reducible refine Below.drew ?_) | (with_reducible refine below_drewN ?_ _) | ((with_reducible refine Below.alloc ?_ ?_ _); rotate_left; (focus (first | (simp; done) | (simp; omega) | omega))) | ((with_reducible refine Below.setCell ?_ ?_ _); rotate_left; (focus (first | (simp; done) | (simp; omega) | omega))) | ((with_reducible refine Below.trans ?_ (Below.mono (by assumption) ?_)); rotate_left; (focus (first | (simp; done) | (simp; omega) | omega)))))⟩
  go_enter Tryz.func44, Tryz.ntmps44
  go_upto_region 3 with fail
  generalize (((w.alloc (.cells (u16C (nats g)) 54)).alloc (.cells #[.int .i64 0] 3)).alloc (.cells #[.int .i64 0] 3)).alloc (.cells #[.int .i64 0] 3) = w1 at *
  have l0 := ld_8 hl2 B0.out
  go_wp2_with (refine wl_load rfl _ _ rfl _ rfl _ l0 ?_)
  clear l0 B0
  go_loopw [10] (fun i wr => ∃ k f e s : Nat, k ≤ 8 ∧ i = .int .i64 k ∧ f ≤ k ∧ s ≤ e ∧ e ≤ k ∧ Hid (Zs w wr f e s ∧ zfold ((isZ g).drop k) k (f, s, e) = zfold (isZ g) 0 (0, 0, 0))) (fun i _ => 8 - (intOf i).toNat)
  case atStart => exact ⟨0, 0, 0, 0, by omega, rfl, by omega, by omega, by omega, Z0.out, rfl⟩
  case round =>
    clear Z0
    obtain ⟨k, f, e, s, hk, rfl, h1, h2, h3, Z⟩ := hrel
    have ST := Lib.hid (t_stop w wr f e s k hk h1 h2 h3 Z.out.1)
    have BD := zstep_bd (p := (f, s, e)) h1 h2 h3
    by_cases hlt : k < 8
    · have e1 : g[k]? = some (g[k]'(by omega)) := List.getElem?_eq_getElem _
      have FS := Lib.hid (fold_step (show (isZ g)[k]? = some (g[k]'(by omega) == 0) by simp [isZ, e1]) (f, s, e))
      generalize g[k]'(by omega) = n at *
      have X := idx8 hl2 (show (nats g)[k]? = some (n : Int) by simp [nats, e1])
      clear e1
      by_cases hn : n = 0
      · subst hn
        have N := Lib.hid (show zfold ((isZ g).drop (k + 1)) (k + 1) (f, s, e) = zfold (isZ g) 0 (0, 0, 0) by rw [← Z.out.2, FS.out]; rfl)
        clear FS
        go_wp2
        go_roundw
        case rel => exact ⟨k + 1, f, e, s, by omega, by go_num, by omega, h2, by omega, Z.out.1, N.out⟩
        case measure => simp [intOf]; omega
      · have hn' : ((n : Int) == 0) = false := by simpa using hn
        have N := Lib.hid (show zfold ((isZ g).drop (k + 1)) (k + 1) (zstep (f, s, e) k) = zfold (isZ g) 0 (0, 0, 0) by
          rw [← Z.out.2, FS.out, if_neg (by simpa using hn)])
        clear FS Z
        obtain ⟨⟨f', s', e'⟩, hp⟩ : ∃ p, p = zstep (f, s, e) k := ⟨_, rfl⟩
        rw [← hp] at N ST BD
        clear hp
        dsimp only at BD ST
        go_wp2_with fail
        refine ST.out.mono ?_
        rintro x w2 ⟨rfl, Z2⟩
        have Z2 := Lib.hid Z2
        go_wp2
        go_roundw
        case rel => exact ⟨k + 1, f', e', s', by omega, by go_num, by omega, BD.2.1, by omega, Z2.out, N.out⟩
        case measure => simp [intOf]; omega
    · obtain rfl : k = 8 := by omega
      have N := Lib.hid (show (zstep (f, s, e) 8).2 = zrun (isZ g) by
        have := Z.out.2
        rw [List.drop_of_length_le (by simp [isZ, hl])] at this
        show (zfold [] 8 (f, s, e)).2 = _
        rw [this]; rfl)
      clear Z
      obtain ⟨⟨f', s', e'⟩, hp⟩ : ∃ p, p = zstep (f, s, e) 8 := ⟨_, rfl⟩
      rw [← hp] at N ST BD
      clear hp
      dsimp only at BD ST
      have N1 := Lib.hid (show (zrun (isZ g)).1 = s' ∧ (zrun (isZ g)).2 = e' by rw [← N.out]; exact ⟨rfl, rfl⟩)
      clear N
      go_wp2_with fail
      refine ST.out.mono ?_
      rintro x w2 ⟨rfl, Z2⟩
      have c2 := cell_of_row w2 _ 0 _ _ _ Z2.2.1
      have c3 := cell_of_row w2 _ 0 _ _ _ Z2.2.2.1
      have f2 := frozen_of_row w2 _ 0 _ _ Z2.2.1
      have f3 := frozen_of_row w2 _ 0 _ _ Z2.2.2.1
      simp at c2 c3
      have Z2 := Lib.hid Z2
      go_upto_region 10 with fail
      go_region
      have Z3 : Hid (Zs w ((w2.setCell ⟨w.heap.size + 1, 0, none⟩ (.int .i64 (s' : Int))).setCell ⟨w.heap.size + 1 + 1, 0, none⟩ (.int .i64 (e' : Int))).drew f' e' s') := Lib.hid ((Z2.out.start s').last e').drew
      clear c2 c3 f2 f3 Z2
      generalize ((w2.setCell ⟨w.heap.size + 1, 0, none⟩ (.int .i64 (s' : Int))).setCell ⟨w.heap.size + 1 + 1, 0, none⟩ (.int .i64 (e' : Int))).drew = w3 at *
      have c2 := cell_of_row w3 _ 0 _ _ _ Z3.out.2.1
      have c3 := cell_of_row w3 _ 0 _ _ _ Z3.out.2.2.1
      simp at c2 c3
      go_wp2
      exact bodyPost_ret (v := .tuple #[.int .i64 (s' : Int), .int .i64 (e' : Int)]) (by simp [results, Tryz.results44, go_sem, c2, c3, asAddr]) rfl ⟨by rw [N1.out.1, N1.out.2], Z3.out.2.2.2⟩
end Go.Proofs.YthghanidabmfgaaGreatDoor
namespace Go.Proofs.YthghanidabmfgaaGreatDoor
open Go.RowKit Go.Sort
set_option maxRecDepth 8000
theorem hexs_bound {gs : List Nat} (hg : ∀ n ∈ gs, n < 65536) (h8 : gs.length ≤ 8) : (str (joinC 58 (gs.map hexs))).size ≤ 40 := by
  rw [str_size]
  have := join_bound 58 (gs.map hexs) 4 fun w hw => by
    obtain ⟨n, hn, rfl⟩ := List.mem_map.1 hw
    exact hexs_length 4 n (by have := hg n hn; omega) (by decide)
  rw [List.length_map] at this
  omega
theorem u16s_of {w : World} {g : Nat} {t : TypeId} {l : List Nat} (h : Blk w g t (u16C (nats l))) (o n c : Nat) (ho : o + n ≤ l.length) : U16s w (.slice (some ⟨g, o, none⟩) n c) ((l.drop o).take n) := by
  refine ⟨g, o, c, ?_, h.lt, fun j m hj => h.cell ?_⟩
  · congr 1; simp; omega
  · have lt := (List.getElem?_eq_some_iff.1 hj).1
    have : j < n := by simp at lt; omega
    rw [List.getElem?_take_of_lt this, List.getElem?_drop] at hj
    simp [u16C, ints, nats, hj]
theorem slice_h (g s : Nat) (hs : s ≤ 8) (W : World) : (Instr.sliceAt 54 (.pointer (some ⟨g, 0, none⟩)) none (some (.int .i64 (s : Int))) none).run Tryz.prog W = .ok (.slice (some ⟨g, 0, none⟩) s 8) W := by
  have hal : Tryz.prog.arrayLen 54 = 8 := by simp [Program.arrayLen, Tryz.underlying54]
  rw [run_sliceAt_array_h W 54 ⟨g, 0, none⟩ (by simp [Program.arrayLen, Program.elem, Tryz.underlying54]) .i64 (s : Int) (by omega) (by rw [hal]; omega)]
  go_simp
theorem slice_l (g s : Nat) (hs : s ≤ 8) (W : World) : (Instr.sliceAt 54 (.pointer (some ⟨g, 0, none⟩)) (some (.int .i64 (s : Int))) none none).run Tryz.prog W = .ok (.slice (some (if 8 = s then ⟨g, 0, none⟩ else ⟨g, s, none⟩)) (8 - s) (8 - s)) W := by
  have hal : Tryz.prog.arrayLen 54 = 8 := by simp [Program.arrayLen, Tryz.underlying54]
  rw [run_sliceAt_array_l W 54 ⟨g, 0, none⟩ (by simp [Program.arrayLen, Program.elem, Tryz.underlying54]) .i64 (s : Int) (by omega) (by rw [hal]; omega)]
  by_cases h : 8 = s
  · subst h; go_simp
  · go_simp
set_option maxHeartbeats 1000000 in
theorem t_print6 (g : List Nat) (hl : g.length = 8) (hg : ∀ n ∈ g, n < 65536) (w : World) (hw : Env5 w) : Calls Tryz.prog 20 #[.agg (u16C (nats g))] w fun e w' => e = .returned (.string (str (t6 g))) ∧ Below w.heap.size w w' := by
  have G := Lib.hid hw
  have hl2 : (nats g).length = 8 := by simp [nats, hl]
  have Z := Lib.hid (fun w => t_zeros g hl w)
  obtain ⟨z1, z2, _⟩ := zrun_ok (bs := isZ g) (by simp [isZ, hl])
  have T := Lib.hid (show t6 g = if (zrun (isZ g)).2 = (zrun (isZ g)).1 then joinC 58 (g.map hexs) else joinC 58 ((g.take (zrun (isZ g)).1).map hexs) ++ 58 :: 58 :: joinC 58 ((g.drop (zrun (isZ g)).2).map hexs) from rfl)
  generalize (zrun (isZ g)).1 = s at *
  generalize (zrun (isZ g)).2 = e at *
  have B0 : Hid (Blk (w.alloc (.cells (u16C (nats g)) 54)) w.heap.size 54 (u16C (nats g))) := Lib.hid (Blk.new _ _ _ rfl)
  have S0 := Lib.hid (below_alloc w (.cells (u16C (nats g)) 54))
  obtain ⟨r, hr⟩ : ∃ r, r = str (t6 g) := ⟨_, rfl⟩
  have HR := Lib.hid hr
  rw [← hr]
  clear hw hr
  go_enter Tryz.func20, Tryz.ntmps20
  go_upto_region 1 with fail
  generalize w.alloc (.cells (u16C (nats g)) 54) = w1 at *
  have l0 := ld_8 hl2 B0.out
  go_upto_region 2 with (first
    | (refine wl_load rfl _ _ rfl _ rfl _ l0 ?_)
    | (go_at_call 44; refine (Z.out _).mono ?_; rintro x w2 ⟨rfl, hb⟩; have B2 := Lib.hid (show Blk w2 w.heap.size 54 (u16C (nats g)) ∧ Below w.heap.size w w2 from ⟨B0.out.on hb, S0.out.trans (hb.mono S0.out.size)⟩); clear hb l0))
  clear B0 S0
  by_cases c : e = s
  · subst c
    have L := Lib.hid (t_list g hg (by omega) (.slice (some ⟨w.heap.size, 0, none⟩) 8 8) w2 (by have := u16s_of B2.out.1 0 8 8 (by omega); rwa [List.drop_zero, List.take_of_length_le (by omega)] at this) (G.out.below B2.out.2))
    rw [show joinC 58 (g.map hexs) = t6 g by rw [T.out, if_pos rfl], ← HR.out] at L
    go_wp2_with (go_at_call 45; refine L.out.mono ?_; rintro x w3 ⟨rfl, hb⟩)
    go_ret
    exact ⟨rfl, B2.out.2.trans (hb.mono B2.out.2.size)⟩
  · have c' : ((e : Int) == (s : Int)) = false := by simp; omega
    have a1 := slice_h w.heap.size s (by omega)
    have a2 := slice_l w.heap.size e z2
    have hp : ∀ n ∈ g.take s, n < 65536 := fun n hn => hg n (List.mem_of_mem_take hn)
    have hq : ∀ n ∈ g.drop e, n < 65536 := fun n hn => hg n (List.mem_of_mem_drop hn)
    have L1 := Lib.hid (fun d os => Calls.regrown_of (t_list (g.take s) hp (by simp; omega) (.slice (some ⟨w.heap.size, 0, none⟩) s 8) (grow (redrawn w2 d) os) (by have := u16s_of (B2.out.1.on (below_quiet d os)) 0 s 8 (by omega); rwa [List.drop_zero] at this) ((G.out.below B2.out.2).regrown d os)))
    have L2 := Lib.hid (fun d os => Calls.regrown_of (t_list (g.drop e) hq (by simp; omega) (.slice (some (if 8 = e then ⟨w.heap.size, 0, none⟩ else ⟨w.heap.size, e, none⟩)) (8 - e) (8 - e)) (grow (redrawn w2 d) os) (by
      have B3 := B2.out.1.on (below_quiet d os)
      by_cases h : 8 = e
      · subst h
        rw [if_pos rfl]
        have := u16s_of B3 0 0 0 (by omega)
        rwa [List.take_zero, show ([] : List Nat) = g.drop 8 by rw [List.drop_of_length_le (by omega)]] at this
      · rw [if_neg h]
        have := u16s_of B3 e (8 - e) (8 - e) (by omega)
        rwa [List.take_of_length_le (by simp [hl])] at this) ((G.out.below B2.out.2).regrown d os)))
    have k1 := hexs_bound hp (by simp; omega)
    have k2 := hexs_bound hq (by simp; omega)
    have HR := Lib.hid (show r = str (joinC 58 ((g.take s).map hexs) ++ 58 :: 58 :: joinC 58 ((g.drop e).map hexs)) by rw [HR.out, T.out, if_neg c])
    have HR : Hid (r = str (joinC 58 ((g.take s).map hexs)) ++ ⟨#[58, 58]⟩ ++ str (joinC 58 ((g.drop e).map hexs))) := Lib.hid (by rw [HR.out]; exact bytes_eq (by simp [str]))
    generalize str (joinC 58 ((g.take s).map hexs)) = sa at *
    generalize str (joinC 58 ((g.drop e).map hexs)) = sb at *
    generalize (if 8 = e then (⟨w.heap.size, 0, none⟩ : Addr) else ⟨w.heap.size, e, none⟩) = q at *
    clear hp hq T Z
    go_upto_region 4 with fail
    refine wp_region_quiet_below (by kernel_rfl) (by kernel_rfl) ?_
    repeat (go_big_quiet_step (first | (with_reducible exact (L1.out _ _)) | (with_reducible exact (L2.out _ _))))
    (refine wpQuiet_nil ?_; intro _ hw'; obtain ⟨⟨dq, osq⟩, hw''⟩ := hw'; subst hw'')
    go_wp2
    go_ret
    exact ⟨by rw [HR.out]; rfl, B2.out.2.trans ((below_quiet dq osq).mono B2.out.2.size)⟩
/-! ### Print -/
def prV (v : Bool) (b : List Int) : Value := if mayB v b then .tuple #[.string (str (tx v b)), .int .i64 0] else .tuple #[.string ⟨#[]⟩, .int .i64 2]
set_option maxHeartbeats 1000000 in
theorem t_print (v : Bool) (b : List Int) (h : IsA b) (w : World) (hw : Env5 w) : Calls Tryz.prog 8 #[.agg (adC v b)] w fun e w' => e = .returned (prV v b) ∧ Below w.heap.size w w' := by
  obtain ⟨hl, hb⟩ := h
  have G := Lib.hid hw
  have M := Lib.hid (fun w => t_may v b hl w)
  have B0 : Hid (Blk (w.alloc (.cells (adC v b) 24)) w.heap.size 24 (adC v b)) := Lib.hid (Blk.new _ _ _ rfl)
  have S0 := Lib.hid (below_alloc w (.cells (adC v b) 24))
  have PV := Lib.hid (show prV v b = if mayB v b then .tuple #[.string (str (tx v b)), .int .i64 0] else .tuple #[.string ⟨#[]⟩, .int .i64 2] from rfl)
  clear hw
  go_enter Tryz.func8, Tryz.ntmps8
  go_upto_region 1 with fail
  generalize w.alloc (.cells (adC v b) 24) = w1 at *
  have l0 := ld_addr hl B0.out
  cases hm : mayB v b
  · rw [hm] at M PV
    clear hm
    go_wp2_with (first
      | (refine wl_load rfl _ _ rfl _ rfl _ l0 ?_)
      | (go_at_call 11; refine (M.out _).mono ?_; rintro x w2 ⟨rfl, hb⟩))
    exact bodyPost_ret (v := .tuple #[.string ⟨#[]⟩, .int .i64 2]) (by simp [results, Tryz.results8, go_sem]) rfl ⟨by rw [PV.out]; rfl, S0.out.trans (hb.mono S0.out.size)⟩
  · rw [hm] at M PV
    clear hm
    go_upto_region 3 with (first
      | (refine wl_load rfl _ _ rfl _ rfl _ l0 ?_)
      | (go_at_call 11; refine (M.out _).mono ?_; rintro x w2 ⟨rfl, hb⟩; have B2 := Lib.hid (show Blk w2 w.heap.size 24 (adC v b) ∧ Below w.heap.size w w2 from ⟨B0.out.on hb, S0.out.trans (hb.mono S0.out.size)⟩); clear hb))
    clear l0 B0 S0
    have c0 := B2.out.1.cell (ad_head v b)
    cases v
    · have P := Lib.hid (fun w hw => t_print4 (b.take 4) (by simp [hl]) (fun n hn => hb n (List.mem_of_mem_take hn)) w hw)
      have l1 := ld_part (T := 57) (n := 4) 0 Tryz.underlying57 rfl inf4 (by simp [hl]) B2.out.1
      rw [List.drop_zero, show 1 + 0 = 1 from rfl] at l1
      have a0 := arr_4 w.heap.size
      rw [show t4 (b.take 4) = tx false b from rfl] at P
      generalize str (tx false b) = s at *
      generalize u8C (b.take 4) = x at *
      go_wp2_with (first
        | (refine wl_load rfl _ _ rfl _ rfl _ l1 ?_)
        | (go_at_call 22; refine (P.out _ (G.out.below B2.out.2)).mono ?_; rintro x w3 ⟨rfl, hb⟩))
      exact bodyPost_ret (v := .tuple #[.string s, .int .i64 0]) (by simp [results, Tryz.results8, go_sem]) rfl ⟨by rw [PV.out]; rfl, B2.out.2.trans (hb.mono B2.out.2.size)⟩
    · have P := Lib.hid (fun w hw => t_print6 (b2g b) (b2g_length 8 b hl) (b2g_lt hb) w hw)
      have Q := Lib.hid (fun w => t_split b hl hb w)
      have l1 := ld_bytes hl B2.out.1
      rw [show t6 (b2g b) = tx true b from rfl] at P
      generalize str (tx true b) = s at *
      go_wp2_with (first
        | (refine wl_load rfl _ _ rfl _ rfl _ l1 ?_)
        | (go_at_call 21; refine (Q.out _).mono ?_; rintro x w3 ⟨rfl, hb⟩; have B3 := Lib.hid (B2.out.2.trans (hb.mono B2.out.2.size)); clear hb)
        | (go_at_call 20; refine (P.out _ (G.out.below B3.out)).mono ?_; rintro x w4 ⟨rfl, hb⟩))
      exact bodyPost_ret (v := .tuple #[.string s, .int .i64 0]) (by simp [results, Tryz.results8, go_sem]) rfl ⟨by rw [PV.out]; rfl, B3.out.trans (hb.mono B3.out.size)⟩
/-! ### Ends -/
def te (v : Bool) (b : List Int) (p : Int) : List UInt8 := (if v then 91 :: (tx v b ++ [93]) else tx v b) ++ 58 :: Lib.itoa p
def enV (v : Bool) (b : List Int) (p : Int) : Value := if mayB v b then .tuple #[.string (str (te v b p)), .int .i64 0] else .tuple #[.string ⟨#[]⟩, .int .i64 2]
theorem tx_bound {v : Bool} {b : List Int} (h : IsA b) : (tx v b).length ≤ 90 := by
  obtain ⟨hl, hb⟩ := h
  cases v
  · have := join_bound 46 ((b.take 4).map Lib.itoa) 4 fun w hw => by
      obtain ⟨n, hn, rfl⟩ := List.mem_map.1 hw
      have := hb n (List.mem_of_mem_take hn)
      exact itoa_length n 3 (by unfold Byte at this; omega) (by decide)
    rw [List.length_map, List.length_take] at this
    show (t4 (b.take 4)).length ≤ 90
    unfold t4; omega
  · have hg := b2g_lt hb
    have hl8 := b2g_length 8 b hl
    show (t6 (b2g b)).length ≤ 90
    generalize b2g b = g at *
    have k : ∀ gs : List Nat, (∀ n ∈ gs, n < 65536) → gs.length ≤ 8 → (joinC 58 (gs.map hexs)).length ≤ 40 := fun gs h1 h2 => by
      have := hexs_bound h1 h2; rwa [str_size] at this
    unfold t6
    split
    · have := k g hg (by omega); omega
    · have k1 := k (g.take (zrun (isZ g)).1) (fun n hn => hg n (List.mem_of_mem_take hn)) (by simp; omega)
      have k2 := k (g.drop (zrun (isZ g)).2) (fun n hn => hg n (List.mem_of_mem_drop hn)) (by simp; omega)
      rw [List.length_append, List.length_cons, List.length_cons]; omega
theorem en_head (v : Bool) (b : List Int) (p : Int) : (enC v b p)[0]? = some (.bool v) := by simp [enC, enL, adL]
set_option maxHeartbeats 1000000 in
theorem t_ends (v : Bool) (b : List Int) (p : Int) (h : IsA b) (hp : 0 ≤ p ∧ p ≤ 65535) (w : World) (hw : Env5 w) : Calls Tryz.prog 9 #[.agg (enC v b p)] w fun e w' => e = .returned (enV v b p) ∧ Below w.heap.size w w' := by
  have hl := h.1
  have G := Lib.hid hw
  have M := Lib.hid (fun w hw => t_print v b h w hw)
  have B0 : Hid (Blk (w.alloc (.cells (enC v b p) 32)) w.heap.size 32 (enC v b p)) := Lib.hid (Blk.new _ _ _ rfl)
  have S0 := Lib.hid (below_alloc w (.cells (enC v b p) 32))
  have PV := Lib.hid (show enV v b p = if mayB v b then .tuple #[.string (str (te v b p)), .int .i64 0] else .tuple #[.string ⟨#[]⟩, .int .i64 2] from rfl)
  have U := Lib.hid (t_unsigned5 p (by omega))
  have k1 : (str (tx v b)).size ≤ 90 := by rw [str_size]; exact tx_bound h
  have k2 : (str (Lib.itoa p)).size ≤ 6 := by rw [str_size]; exact itoa_length p 5 (by omega) (by decide)
  obtain ⟨p0, p1⟩ := hp
  have PV1 := Lib.hid (show prV v b = if mayB v b then .tuple #[.string (str (tx v b)), .int .i64 0] else .tuple #[.string ⟨#[]⟩, .int .i64 2] from rfl)
  have TE : Hid (str (te v b p) = (if v then ⟨#[91]⟩ ++ str (tx v b) ++ ⟨#[93]⟩ else str (tx v b)) ++ ⟨#[58]⟩ ++ str (Lib.itoa p)) := Lib.hid (by
    cases v <;> exact bytes_eq (by simp [str, te]))
  clear hw h
  generalize str (Lib.itoa p) = sp at *
  go_enter Tryz.func9, Tryz.ntmps9
  go_upto_region 1 with fail
  generalize w.alloc (.cells (enC v b p) 32) = w1 at *
  have l0 := ld_endsAddr hl B0.out
  cases hm : mayB v b
  · rw [hm] at PV PV1
    rw [PV1.out] at M
    clear hm TE
    go_wp2_with (first
      | (refine wl_load rfl _ _ rfl _ rfl _ l0 ?_)
      | (go_at_call 8; refine (M.out _ (G.out.below S0.out)).mono ?_; rintro x w2 ⟨rfl, hb⟩))
    exact bodyPost_ret (v := .tuple #[.string ⟨#[]⟩, .int .i64 2]) (by simp [results, Tryz.results9, go_sem]) rfl ⟨by rw [PV.out]; rfl, S0.out.trans (hb.mono S0.out.size)⟩
  · rw [hm, if_pos rfl] at PV PV1
    rw [PV1.out] at M
    clear hm PV1
    generalize str (tx v b) = s at *
    generalize str (te v b p) = q at *
    go_upto_region 4 with (first
      | (refine wl_load rfl _ _ rfl _ rfl _ l0 ?_)
      | (go_at_call 8; refine (M.out _ (G.out.below S0.out)).mono ?_; rintro x w2 ⟨rfl, hb⟩; have B2 := Lib.hid (show Blk w2 w.heap.size 32 (enC v b p) ∧ Below w.heap.size w w2 from ⟨B0.out.on hb, S0.out.trans (hb.mono S0.out.size)⟩); clear hb))
    clear l0 B0 S0 M
    have c0 := B2.out.1.cell (en_head v b p)
    have c1 := B2.out.1.cell (en_port hl)
    cases v
    · go_wp2_with (go_at_call 23; refine (U.out _ (G.out.below B2.out.2)).mono ?_; rintro x w3 ⟨rfl, hb⟩)
      exact bodyPost_ret (v := .tuple #[.string (s ++ ⟨#[58]⟩ ++ sp), .int .i64 0]) (by simp [results, Tryz.results9, go_sem]) rfl ⟨by rw [PV.out, TE.out]; rfl, B2.out.2.trans (hb.mono B2.out.2.size)⟩
    · go_wp2_with (go_at_call 23; refine (U.out _ (G.out.below B2.out.2)).mono ?_; rintro x w3 ⟨rfl, hb⟩)
      exact bodyPost_ret (v := .tuple #[.string (⟨#[91]⟩ ++ s ++ ⟨#[93]⟩ ++ ⟨#[58]⟩ ++ sp), .int .i64 0]) (by simp [results, Tryz.results9, go_sem]) rfl ⟨by rw [PV.out, TE.out]; rfl, B2.out.2.trans (hb.mono B2.out.2.size)⟩
end Go.Proofs.YthghanidabmfgaaGreatDoor
