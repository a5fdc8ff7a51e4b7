/-
  Package pcap: Head. Written by tools/gen8h.py.
-/
import Derived.Test.YthmkfkmcamjnoaaDoorPBytes8
import Derived.Test.YthmkfkmcamjnoaaDoorRegion
namespace Go.Proofs.YthmkfkmcamjnoaaDoor
open Go.RowKit Go.Sort
set_option maxRecDepth 8000
theorem infoRow : (Tryd.prog.info? 64).map (·.size) = some 2 := by kernel_rfl
theorem infoHead : (Tryd.prog.info? 43).map (·.size) = some 4 := by kernel_rfl
def headV (o : (Nat × Nat × Nat × Nat) × Nat) : Value := .tuple #[.agg #[.int .u32 o.1.1, .int .u32 o.1.2.1, .int .u32 o.1.2.2.1, .int .u32 o.1.2.2.2], .int .i64 o.2]
def hdVal (v : Value) (x0 x1 x2 x3 : Nat) (i p : Nat) : Value :=
  match i with
  | 1 => .int .u32 x0
  | 3 => .int .u32 x1
  | 5 => .int .u32 x2
  | 7 => .int .u32 x3
  | 8 => .agg #[.int .u32 x0, .int .u32 x1, .int .u32 x2, .int .u32 x3]
  | 9 => .pointer (some ⟨p, 0, none⟩)
  | 0 => v
  | 2 => v
  | 4 => v
  | 6 => v
  | _ => undef
def hdObj (x0 x1 x2 x3 : Nat) (i : Nat) : Obj :=
  match i with
  | 10 => .cells #[.int .u32 x0, .int .u32 x1, .int .u32 x2, .int .u32 x3] 43 (0, 0)
  | _ => .cells #[.int .u32 0, .int .u32 0, .int .u32 0, .int .u32 0] 43 (0, 0)
set_option maxHeartbeats 4000000 in
theorem t_head (a b : Bool) (k s : Nat) (v : Value) (l : List UInt8) (most : Int) (hm : -9223372036854775808 ≤ most ∧ most ≤ 9223372036854775807) (w : World) (hB : Byt w v l) (hz : l.length ≤ 140737488355328) :
    Calls Tryd.prog 15 #[(.agg #[.bool a, .bool b, .int .u16 k, .int .u32 s]), v, .int .i64 most] w fun e w' => e = .returned (headV (headS a b l most)) ∧ Below w.heap.size w w' := by
  obtain ⟨ad, c, rfl, hc, hA⟩ := hB.open
  have HA := Lib.hid hA
  have RW := Lib.hid (fun w => t_row a b k s ad l.length c w)
  have TD := Lib.hid (fun w => t_den a b k s w)
  have U4 := Lib.hid (fun at_ ha w hB => t_u32 ad l c a at_ hc ha hz w hB)
  obtain ⟨o0, ho0⟩ : ∃ o, o = Obj.cells #[.bool a, .bool b, .int .u16 k, .int .u32 s] 26 (0, 0) := ⟨_, rfl⟩
  obtain ⟨o1, ho1⟩ : ∃ o, o = Obj.cells #[.int .u32 0, .int .u32 0, .int .u32 0, .int .u32 0] 43 (0, 0) := ⟨_, rfl⟩
  have F0 := Lib.hid (keepRow (row_new w o0 rfl) (below_alloc _ o1))
  have R0 := Lib.hid (row_new (w.alloc o0) o1 (b := w.heap.size + 1) (by simp))
  have B0 := Lib.hid ((below_alloc w o0).trans ((below_alloc _ o1).mono (by simp)))
  clear hA hB
  have PS := Lib.hid (show w.heap.size ≤ w.heap.size + 1 by omega)
  have V : (l.length < 16 ∧ headS a b l most = ((0, 0, 0, 0), 121)) ∨ (¬ l.length < 16 ∧ den b ≤ gv l a 4 4 ∧ headS a b l most = ((0, 0, 0, 0), 8)) ∨ (¬ l.length < 16 ∧ ¬ den b ≤ gv l a 4 4 ∧ most < gv l a 8 4 ∧ headS a b l most = ((0, 0, 0, 0), 122)) ∨
      (¬ l.length < 16 ∧ ¬ den b ≤ gv l a 4 4 ∧ ¬ most < gv l a 8 4 ∧ headS a b l most = ((gv l a 0 4, gv l a 4 4, gv l a 8 4, gv l a 12 4), 0)) := by
    unfold headS
    by_cases h1 : l.length < 16
    · left; exact ⟨h1, by rw [if_pos h1]⟩
    · right
      by_cases h2 : den b ≤ gv l a 4 4
      · left; exact ⟨h1, h2, by rw [if_neg h1, if_pos h2]⟩
      · right
        by_cases h3 : most < gv l a 8 4
        · left; exact ⟨h1, h2, h3, by rw [if_neg h1, if_neg h2, if_pos (Or.inr h3)]⟩
        · right; exact ⟨h1, h2, h3, by rw [if_neg h1, if_neg h2, if_neg (by omega)]⟩
  have U0 := Lib.hid (fun w hB => U4.out 0 (by omega) w hB)
  have U1 := Lib.hid (fun w hB => U4.out 4 (by omega) w hB)
  have U2 := Lib.hid (fun w hB => U4.out 8 (by omega) w hB)
  have U3 := Lib.hid (fun w hB => U4.out 12 (by omega) w hB)
  have bd0 := gv_u32 l a 0
  have bd1 := gv_u32 l a 4
  have bd2 := gv_u32 l a 8
  have bd3 := gv_u32 l a 12
  clear U4
  generalize headS a b l most = out at *
  generalize gv l a 0 4 = x0 at *
  generalize gv l a 4 4 = x1 at *
  generalize gv l a 8 4 = x2 at *
  generalize gv l a 12 4 = x3 at *
  generalize l.length = n at *
  generalize den b = dn at *
  rcases V with ⟨g1, rfl⟩ | V
  · have g1 : decide ((n : Int) < 16) = true := by simp; omega
    unfold headV
    go_enter Tryd.func15, Tryd.ntmps15
    go_upto_region 1 with fail
    rw [← ho0, ← ho1]
    generalize (w.alloc o0).alloc o1 = u0 at *
    rw [ho1] at R0
    clear ho1
    obtain ⟨⟨c0, c1, c2, c3⟩, f⟩ := row4 R0.out
    have f0 := f 0
    have f1 := f 1
    have f2 := f 2
    have f3 := f 3
    clear f
    go_wp2
    refine bodyPost_ret (by simp [results, Tryd.results15, go_sem, c0, c1, c2, c3]) rfl ⟨rfl, ?_⟩
    have B2 := B0.out
    (repeat (first | (with_reducible exact Below.refl _ _) | (with_reducible assumption) | (with_reducible refine Below.drew ?_) | (with_reducible refine below_drewN ?_ _) | ((with_reducible refine Below.alloc ?_ ?_ _); rotate_left; (focus (first | (simp; done) | (simp; omega) | omega))) | ((with_reducible refine Below.setCell ?_ ?_ _); rotate_left; (focus (first | (simp; done) | (simp; omega) | omega))) | ((with_reducible refine Below.trans ?_ (Below.mono (by assumption) ?_)); rotate_left; (focus (first | (simp; done) | (simp; omega) | omega)))))
  · have g1 : decide ((n : Int) < 16) = false := by simp; omega
    have w1 : IntKind.u64.wrap (x1 : Int) = (x1 : Int) := wrap_small x1 (by omega)
    have w2 : IntKind.i64.wrap (x2 : Int) = (x2 : Int) := by rw [IntKind.wrap_i64]; omega
    have V2 : (decide (dn ≤ x1) = true ∧ out = ((0, 0, 0, 0), 8)) ∨ (decide (dn ≤ x1) = false ∧ decide (most < (x2 : Nat)) = true ∧ out = ((0, 0, 0, 0), 122)) ∨ (decide (dn ≤ x1) = false ∧ decide (most < (x2 : Nat)) = false ∧ out = ((x0, x1, x2, x3), 0)) := by
      rcases V with ⟨_, h, e⟩ | ⟨_, h, h', e⟩ | ⟨_, h, h', e⟩
      · exact Or.inl ⟨by simp; omega, e⟩
      · exact Or.inr (Or.inl ⟨by simp; omega, by simp; omega, e⟩)
      · exact Or.inr (Or.inr ⟨by simp; omega, by simp; omega, e⟩)
    clear V bd0 bd1 bd2 bd3
    go_enter Tryd.func15, Tryd.ntmps15
    go_upto_region 3 with fail
    rw [← ho0, ← ho1]
    generalize (w.alloc o0).alloc o1 = u0 at *
    rw [ho0] at F0
    rw [ho1] at R0
    clear ho0 ho1
    obtain ⟨⟨c0, c1, c2, c3⟩, _⟩ := row4 F0.out
    generalize w.heap.size + 1 = p1 at *
    go_upto_region 4 with (go_at_call 25; refine (RW.out _).mono ?_; rintro e u1 ⟨rfl, hb⟩; have F1 := Lib.hid (keepRow F0.out hb); have R1 := Lib.hid (keepRow R0.out hb); have B1 := Lib.hid (B0.out.trans (hb.mono B0.out.size)); clear hb F0 R0 B0 c0 c1 c2 c3 RW)
    have F2 := Lib.hid (keepRow F1.out (below_alloc u1 (.cells #[.slice ad n c, .bool a] 64)))
    have R2 := Lib.hid (keepRow R1.out (below_alloc u1 (.cells #[.slice ad n c, .bool a] 64)))
    have B2 := Lib.hid (B1.out.trans ((below_alloc u1 (.cells #[.slice ad n c, .bool a] 64)).mono B1.out.size))
    have G2 := Lib.hid (row_new u1 (.cells #[.slice ad n c, .bool a] 64) rfl)
    have QP := Lib.hid (show w.heap.size ≤ u1.heap.size from B1.out.size)
    clear F1 R1 B1
    generalize u1.alloc (.cells #[.slice ad n c, .bool a] 64) = u2 at *
    generalize u1.heap.size = q at *
    refine wp_region_turns [.gives, .gives, .gives, .gives, .gives, .gives, .gives, .gives, .gives, .makes (some 10), .stores 9] (hdVal (.agg #[.slice ad n c, .bool a]) x0 x1 x2 x3) (hdObj x0 x1 x2 x3) (by kernel_rfl) (by kernel_rfl) rfl ?_ ?_
    · refine EachOp.cons (fun D own a' w' I hn hd => ?_) ?_
      · exact does_load rfl rfl 64 (.tmp 8) rfl _ ((I.was (by kernel_rfl)).trans rfl) 64 _ _ _ (I.blk G2.out) Tryd.underlying64 rfl infoRow rfl
      refine EachOp.cons (fun D own a' w' I hn hd => ?_) ?_
      · have e17 : a'.eval (.tmp 17) = .agg #[.slice ad n c, .bool a] := I.get (i := 0) rfl (hd 0 (by kernel_rfl)) rfl rfl
        exact does_go rfl rfl rfl rfl Tryd.func27 (by kernel_rfl) (by kernel_rfl) #[.agg #[.slice ad n c, .bool a], .int .i64 0] (by simp [e17] <;> rfl) (U0.out w' (HA.out.on (B2.out.trans (I.below.mono B2.out.size))))
      refine EachOp.cons (fun D own a' w' I hn hd => ?_) ?_
      · exact does_load rfl rfl 64 (.tmp 8) rfl _ ((I.was (by kernel_rfl)).trans rfl) 64 _ _ _ (I.blk G2.out) Tryd.underlying64 rfl infoRow rfl
      refine EachOp.cons (fun D own a' w' I hn hd => ?_) ?_
      · have e19 : a'.eval (.tmp 19) = .agg #[.slice ad n c, .bool a] := I.get (i := 2) rfl (hd 2 (by kernel_rfl)) rfl rfl
        exact does_go rfl rfl rfl rfl Tryd.func27 (by kernel_rfl) (by kernel_rfl) #[.agg #[.slice ad n c, .bool a], .int .i64 4] (by simp [e19] <;> rfl) (U1.out w' (HA.out.on (B2.out.trans (I.below.mono B2.out.size))))
      refine EachOp.cons (fun D own a' w' I hn hd => ?_) ?_
      · exact does_load rfl rfl 64 (.tmp 8) rfl _ ((I.was (by kernel_rfl)).trans rfl) 64 _ _ _ (I.blk G2.out) Tryd.underlying64 rfl infoRow rfl
      refine EachOp.cons (fun D own a' w' I hn hd => ?_) ?_
      · have e21 : a'.eval (.tmp 21) = .agg #[.slice ad n c, .bool a] := I.get (i := 4) rfl (hd 4 (by kernel_rfl)) rfl rfl
        exact does_go rfl rfl rfl rfl Tryd.func27 (by kernel_rfl) (by kernel_rfl) #[.agg #[.slice ad n c, .bool a], .int .i64 8] (by simp [e21] <;> rfl) (U2.out w' (HA.out.on (B2.out.trans (I.below.mono B2.out.size))))
      refine EachOp.cons (fun D own a' w' I hn hd => ?_) ?_
      · exact does_load rfl rfl 64 (.tmp 8) rfl _ ((I.was (by kernel_rfl)).trans rfl) 64 _ _ _ (I.blk G2.out) Tryd.underlying64 rfl infoRow rfl
      refine EachOp.cons (fun D own a' w' I hn hd => ?_) ?_
      · have e23 : a'.eval (.tmp 23) = .agg #[.slice ad n c, .bool a] := I.get (i := 6) rfl (hd 6 (by kernel_rfl)) rfl rfl
        exact does_go rfl rfl rfl rfl Tryd.func27 (by kernel_rfl) (by kernel_rfl) #[.agg #[.slice ad n c, .bool a], .int .i64 12] (by simp [e23] <;> rfl) (U3.out w' (HA.out.on (B2.out.trans (I.below.mono B2.out.size))))
      refine EachOp.cons (fun D own a' w' I hn hd => ?_) ?_
      · have e18 : a'.eval (.tmp 18) = .int .u32 x0 := I.get (i := 1) rfl (hd 1 (by kernel_rfl)) rfl rfl
        have e18p : a'.tmps[18]?.getD undef = .int .u32 x0 := by simpa [Act.eval] using e18
        have e20 : a'.eval (.tmp 20) = .int .u32 x1 := I.get (i := 3) rfl (hd 3 (by kernel_rfl)) rfl rfl
        have e20p : a'.tmps[20]?.getD undef = .int .u32 x1 := by simpa [Act.eval] using e20
        have e22 : a'.eval (.tmp 22) = .int .u32 x2 := I.get (i := 5) rfl (hd 5 (by kernel_rfl)) rfl rfl
        have e22p : a'.tmps[22]?.getD undef = .int .u32 x2 := by simpa [Act.eval] using e22
        have e24 : a'.eval (.tmp 24) = .int .u32 x3 := I.get (i := 7) rfl (hd 7 (by kernel_rfl)) rfl rfl
        have e24p : a'.tmps[24]?.getD undef = .int .u32 x3 := by simpa [Act.eval] using e24
        exact does_value rfl rfl (by go_simp; rfl)
      refine EachOp.cons (fun D own a' w' I hn hd => ?_) ?_
      · exact does_alloc rfl rfl (by go_simp; exact ⟨rfl, rfl⟩)
      refine EachOp.cons (fun D own a' w' I hn hd => ?_) EachOp.nil
      · have e9 : a'.eval (.tmp 9) = .pointer (some ⟨own 9, 0, none⟩) := I.get (i := 9) rfl (hd 9 (by kernel_rfl)) rfl rfl
        have e25 : a'.eval (.tmp 25) = .agg #[.int .u32 x0, .int .u32 x1, .int .u32 x2, .int .u32 x3] := I.get (i := 8) rfl (hd 8 (by kernel_rfl)) rfl rfl
        exact does_store rfl rfl rfl 43 (.tmp 9) (.tmp 25) rfl _ e9 e25 43 _ (I.fresh (hd 9 (by kernel_rfl)) rfl hn) infoHead rfl (by kernel_rfl) rfl
    · intro own w3 H
      have H3 := Lib.hid (show w3.heap[own 9]? = some (.cells #[.int .u32 x0, .int .u32 x1, .int .u32 x2, .int .u32 x3] 43 (0, 0)) from H.made 9 rfl rfl)
      have F3 := Lib.hid (keepRow F2.out H.below)
      have R3 := Lib.hid (keepRow R2.out H.below)
      have B3 := Lib.hid (B2.out.trans (H.below.mono B2.out.size))
      refine (by assumption : ∀ (a : Act) (w : World), Code.wp Tryd.prog _ _ a w → _) _ _ ?_
      simp only [putAll, Act.put, List.setIfInBounds_toArray, List.set_cons_zero, List.set_cons_succ, Nat.zero_add, Nat.reduceAdd, hdVal]
      generalize own 9 = r at *
      clear H F2 R2 B2 G2 U0 U1 U2 U3
      obtain ⟨⟨c0, c1, c2, c3⟩, _⟩ := row4 F3.out
      obtain ⟨⟨d0, d1, d2, d3⟩, _⟩ := row4 H3.out
      go_upto_region 5 with fail
      go_region_held3 (fun W' => (W'.cell? ⟨w.heap.size, 0, none⟩ = some (.bool a) ∧ W'.cell? ⟨w.heap.size, 1, none⟩ = some (.bool b) ∧ W'.cell? ⟨w.heap.size, 2, none⟩ = some (.int .u16 k) ∧ W'.cell? ⟨w.heap.size, 3, none⟩ = some (.int .u32 s)) ∧ W'.cell? ⟨r, 1, none⟩ = some (.int .u32 x1))
        (first
          | exact ⟨⟨c0, c1, c2, c3⟩, d1⟩
          | exact ⟨⟨z0, z1, z2, z3⟩, z4⟩
          | go_keep)
        (first
          | (go_at_call 12; refine (TD.out _).mono ?_; rintro e u4 ⟨rfl, hb0⟩; have hb := Below.trans (Below.refl w3.heap.size _).drew (hb0.mono (by simp)); have F4 := Lib.hid (keepRow F3.out hb); have H4 := Lib.hid (keepRow H3.out hb); have R4 := Lib.hid (keepRow R3.out hb); have B4 := Lib.hid (B3.out.trans (hb.mono B3.out.size)); obtain ⟨⟨z0, z1, z2, z3⟩, _⟩ := row4 F4.out; obtain ⟨⟨_, z4, _, _⟩, _⟩ := row4 H4.out))
      clear c0 c1 c2 c3 d0 d1 d2 d3 z0 z1 z2 z3 z4 hb hb0 F3 H3 R3 B3 F4
      obtain ⟨⟨c0, c1, c2, c3⟩, f⟩ := row4 R4.out
      have f0 := f 0
      have f1 := f 1
      have f2 := f 2
      have f3 := f 3
      clear f
      obtain ⟨⟨d0, d1, d2, d3⟩, _⟩ := row4 H4.out
      generalize decide (dn ≤ x1) = b1 at *
      rcases V2 with ⟨rfl, rfl⟩ | ⟨rfl, e2, rfl⟩ | ⟨rfl, e2, rfl⟩
      all_goals
        go_wp2
        refine bodyPost_ret (by simp [results, Tryd.results15, go_sem, headV, c0, c1, c2, c3]) rfl ⟨rfl, ?_⟩
        have B5 := B4.out
        have P5 := PS.out
        (repeat (first | (with_reducible exact Below.refl _ _) | (with_reducible assumption) | (with_reducible refine Below.drew ?_) | (with_reducible refine below_drewN ?_ _) | ((with_reducible refine Below.alloc ?_ ?_ _); rotate_left; (focus (first | (simp; done) | (simp; omega) | omega))) | ((with_reducible refine Below.setCell ?_ ?_ _); rotate_left; (focus (first | (simp; done) | (simp; omega) | omega))) | ((with_reducible refine Below.trans ?_ (Below.mono (by assumption) ?_)); rotate_left; (focus (first | (simp; done) | (simp; omega) | omega)))))
end Go.Proofs.YthmkfkmcamjnoaaDoor
