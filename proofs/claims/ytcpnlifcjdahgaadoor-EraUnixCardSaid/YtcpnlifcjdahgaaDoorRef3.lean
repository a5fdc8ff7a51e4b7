/-
  The document's answers for package era: Unix.
-/
import Derived.Test.YtcpnlifcjdahgaaDoorUnix
import Derived.Test.YtcpnlifcjdahgaaDoorRefP
namespace Go.Proofs.YtcpnlifcjdahgaaDoor
open Go.RowKit Go.Sort
def ux3Val (s f : Int) (i _p : Nat) : Value :=
  match i with
  | 0 => numV false (s + 2208988800)
  | 1 => numV false 4294967296
  | 2 => numV false ((s + 2208988800) * 4294967296)
  | 3 => .int .u32 f
  | 4 => .int .u64 f
  | 5 => numV false f
  | 6 => numV false ((s + 2208988800) * 4294967296 + f)
  | 7 => wideV (unixI s f)
  | _ => undef
def unixObj3 (s f : Int) (i : Nat) : Obj :=
  match i with
  | 8 => wideO (unixI s f)
  | _ => wideO 0
set_option maxHeartbeats 2000000 in
theorem r3_unix (s f : Int) (hs : 0 ≤ s ∧ s ≤ 18446744073709551615) (hf : 0 ≤ f ∧ f ≤ 4294967295) : Gives 10 #[.int .u64 s, .int .u32 f] (wideV (unixI s f)) := fun w hg => by
  have G := Lib.hid hg
  have N1 := Lib.hid (r_num s hs.1 hs.2)
  have N2 := Lib.hid (r_num 2208988800 (by omega) (by omega))
  have A1 := Lib.hid ((r_add false false s 2208988800 ⟨hs.1, by omega⟩ ⟨by omega, by omega⟩).as rfl (v' := numV false (s + 2208988800)) rfl)
  have N3 := Lib.hid ((r_num 4294967296 (by omega) (by omega)).as rfl (v' := numV false 4294967296) rfl)
  have M := Lib.hid ((r_mul false false (s + 2208988800) 4294967296 ⟨by omega, by omega⟩ ⟨by omega, by omega⟩ (by omega)).as rfl (v' := numV false ((s + 2208988800) * 4294967296)) rfl)
  have N4 := Lib.hid ((r_num f hf.1 (by omega)).as rfl (v' := numV false f) rfl)
  have A2 := Lib.hid ((r_add false false ((s + 2208988800) * 4294967296) f ⟨by omega, by omega⟩ ⟨hf.1, by omega⟩).as rfl (v' := numV false ((s + 2208988800) * 4294967296 + f)) rfl)
  have X := Lib.hid ((r_wide false ((s + 2208988800) * 4294967296 + f) (unixI s f) ⟨by omega, by omega⟩ (by unfold vz unixI; simp; omega)).as rfl (v' := wideV (unixI s f)) (by rw [sat_id (unix_in hs hf)]; rfl))
  have cv : IntKind.u64.wrap f = f := by rw [IntKind.wrap_u64]; omega
  clear hg hs hf
  unfold numV at A1
  have W : Hid (WideAt (w.alloc (wideO 0)) w.heap.size 0 ∧ Below w.heap.size w (w.alloc (wideO 0))) := Lib.hid ⟨row_new _ _ rfl, below_alloc _ _⟩
  rw [show wideO 0 = .cells #[.int .i64 0, .int .u64 0] 25 from rfl] at W
  unfold wideV
  go_enter Tryd.func10, Tryd.ntmps10
  go_upto_region 1 with fail
  generalize w.alloc (.cells #[.int .i64 0, .int .u64 0] 25) = w0 at *
  go_cut [5] from 6 to 9 (fun v wr => ∃ p, v = .pointer (some ⟨p, 0, none⟩) ∧ NumAt wr p false (dig (s + 2208988800)) ∧ (w.heap.size < p ∧ WideAt wr w.heap.size 0) ∧ Below w.heap.size w wr)
  case first =>
    go_wp2_with fail
    refine (N1.out _ (G.out.below W.out.2)).mono ?_
    rintro e w1 ⟨rfl, hb⟩
    have W1 := Lib.hid (show WideAt w1 w.heap.size 0 ∧ Below w.heap.size w w1 from ⟨W.out.1.on hb, W.out.2.trans (hb.mono W.out.2.size)⟩)
    clear hb W
    go_wp2_with fail
    refine (N2.out _ (G.out.below W1.out.2)).mono ?_
    rintro e w2 ⟨rfl, hb⟩
    have W2 := Lib.hid (show WideAt w2 w.heap.size 0 ∧ Below w.heap.size w w2 from ⟨W1.out.1.on hb, W1.out.2.trans (hb.mono W1.out.2.size)⟩)
    clear hb W1
    go_wp2_with fail
    refine (A1.out _ (G.out.below W2.out.2)).mono ?_
    rintro e w3 ⟨rfl, hb⟩
    have W3 := Lib.hid (show WideAt w3 w.heap.size 0 ∧ Below w.heap.size w w3 from ⟨W2.out.1.on hb, W2.out.2.trans (hb.mono W2.out.2.size)⟩)
    clear hb W2
    go_wp2_with (refine store_num rfl (.tmp 5) (.tmp 9) rfl w3.heap.size rfl _ _ rfl false (fun _ => 0) (NumAt.new w3 false (fun _ => 0) rfl) ?_)
    go_meet
    have lt := W3.out.1.at.2.2
    exact ⟨w3.heap.size, rfl, (NumAt.new w3 false (fun _ => 0) rfl).whole, ⟨lt, (W3.out.1.alloc _).row (by omega) _⟩, Below.setRow' (W3.out.2.trans ((below_alloc _ _).mono W3.out.2.size)) W3.out.2.size _⟩
  case rest =>
  obtain ⟨p, rfl, B⟩ := hcut
  have B := Lib.hid B
  clear W N1 N2 A1
  go_upto_region 2 with fail
  refine wp_region_turns_into w.heap.size [.gives, .gives, .gives, .gives, .gives, .gives, .gives, .gives, .stores 9, .makes (some 8)] (ux3Val s f) (unixObj3 s f) (by kernel_rfl) (by kernel_rfl) (by kernel_rfl) rfl B.out.2.1.2 ?_ ?_
  · refine EachOp.cons (fun D own a w' I hn hd => ?_) ?_
    · exact does_load rfl rfl 45 (.tmp 5) rfl _ ((I.was (by kernel_rfl)).trans rfl) 45 _ _ _ (I.blk B.out.1 (by have := B.out.2.1.1; simp; omega)) Tryd.underlying45 rfl (infoN _ _) rfl
    refine EachOp.cons (fun D own a w' I hn hd => ?_) ?_
    · exact does_go rfl rfl rfl rfl Tryd.func23 (by kernel_rfl) (by kernel_rfl) #[.int .u64 4294967296] (by simp <;> rfl) (N3.out w' (G.out.below (B.out.2.2.trans (I.below.mono (by first | (simp; done) | (simp; omega) | omega)))))
    refine EachOp.cons (fun D own a w' I hn hd => ?_) ?_
    · have e10 : a.eval (.tmp 10) = numV false (s + 2208988800) := I.get (i := 0) rfl (hd 0 (by kernel_rfl)) rfl rfl
      have e11 : a.eval (.tmp 11) = numV false 4294967296 := I.get (i := 1) rfl (hd 1 (by kernel_rfl)) rfl rfl
      exact does_go rfl rfl rfl rfl Tryd.func27 (by kernel_rfl) (by kernel_rfl) #[numV false (s + 2208988800), numV false 4294967296] (by simp [e10, e11] <;> rfl) (M.out w' (G.out.below (B.out.2.2.trans (I.below.mono (by first | (simp; done) | (simp; omega) | omega)))))
    refine EachOp.cons (fun D own a w' I hn hd => ?_) ?_
    · have e1 : a.eval (.tmp 1) = .int .u32 f := (I.was (by kernel_rfl)).trans rfl
      have e1p : a.tmps[1]?.getD undef = .int .u32 f := by simpa [Act.eval] using e1
      exact does_value rfl rfl (by go_simp; rfl)
    refine EachOp.cons (fun D own a w' I hn hd => ?_) ?_
    · have e13 : a.eval (.tmp 13) = .int .u32 f := I.get (i := 3) rfl (hd 3 (by kernel_rfl)) rfl rfl
      have e13p : a.tmps[13]?.getD undef = .int .u32 f := by simpa [Act.eval] using e13
      exact does_value rfl rfl (by go_simp; rfl)
    refine EachOp.cons (fun D own a w' I hn hd => ?_) ?_
    · have e14 : a.eval (.tmp 14) = .int .u64 f := I.get (i := 4) rfl (hd 4 (by kernel_rfl)) rfl rfl
      exact does_go rfl rfl rfl rfl Tryd.func23 (by kernel_rfl) (by kernel_rfl) #[.int .u64 f] (by simp [e14] <;> rfl) (N4.out w' (G.out.below (B.out.2.2.trans (I.below.mono (by first | (simp; done) | (simp; omega) | omega)))))
    refine EachOp.cons (fun D own a w' I hn hd => ?_) ?_
    · have e12 : a.eval (.tmp 12) = numV false ((s + 2208988800) * 4294967296) := I.get (i := 2) rfl (hd 2 (by kernel_rfl)) rfl rfl
      have e15 : a.eval (.tmp 15) = numV false f := I.get (i := 5) rfl (hd 5 (by kernel_rfl)) rfl rfl
      exact does_go rfl rfl rfl rfl Tryd.func19 (by kernel_rfl) (by kernel_rfl) #[numV false ((s + 2208988800) * 4294967296), numV false f] (by simp [e12, e15] <;> rfl) (A2.out w' (G.out.below (B.out.2.2.trans (I.below.mono (by first | (simp; done) | (simp; omega) | omega)))))
    refine EachOp.cons (fun D own a w' I hn hd => ?_) ?_
    · have e16 : a.eval (.tmp 16) = numV false ((s + 2208988800) * 4294967296 + f) := I.get (i := 6) rfl (hd 6 (by kernel_rfl)) rfl rfl
      exact does_go rfl rfl rfl rfl Tryd.func25 (by kernel_rfl) (by kernel_rfl) #[numV false ((s + 2208988800) * 4294967296 + f)] (by simp [e16] <;> rfl) (X.out w' (G.out.below (B.out.2.2.trans (I.below.mono (by first | (simp; done) | (simp; omega) | omega)))))
    refine EachOp.cons (fun D own a w' I hn hd => ?_) EachOp.nil
    · have o9 : D 9 = true ∧ own 9 = _ := I.there 0 _ rfl
      have e4 : a.eval (.tmp 4) = .pointer (some ⟨own 9, 0, none⟩) := by rw [o9.2]; exact (I.was (by kernel_rfl)).trans rfl
      have e17 : a.eval (.tmp 17) = wideV (unixI s f) := I.get (i := 7) rfl (hd 7 (by kernel_rfl)) rfl rfl
      exact does_store rfl rfl rfl 25 (.tmp 4) (.tmp 17) rfl _ e4 e17 25 _ (I.fresh o9.1 rfl hn) infoW rfl (by kernel_rfl) rfl
  · intro own w3 H
    have o9 : own 9 = w.heap.size := (H.there 0 _ rfl).2
    have R := H.made 9 rfl rfl
    rw [o9] at R
    have R := Lib.hid (show WideAt w3 w.heap.size (unixI s f) from R)
    have S2 := Lib.hid (B.out.2.2.trans (H.below.mono (by first | (simp; done) | (simp; omega) | omega)))
    refine (by assumption : ∀ (a : Act) (w : World), Code.wp Tryd.prog _ _ a w → _) _ _ ?_
    simp only [putAll, Act.put, List.setIfInBounds_toArray, List.set_cons_zero, List.set_cons_succ, Nat.zero_add, Nat.reduceAdd, ux3Val, wideV, numV]
    obtain ⟨r0, r1, _⟩ := R.out.at
    clear H o9 B
    go_wp2
    exact bodyPost_ret (v := .agg #[.int .i64 (hiOf (unixI s f)), .int .u64 (loOf (unixI s f))]) (by simp [results, Tryd.results10, go_sem, r0, r1]) rfl (And.intro rfl S2.out)
end Go.Proofs.YtcpnlifcjdahgaaDoor
