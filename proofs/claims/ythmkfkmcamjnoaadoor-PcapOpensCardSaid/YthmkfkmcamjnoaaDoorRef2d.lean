/-
  The document's answers for package fix: Moment, Clip, Split, may, Parts.
  The document's answers for package fix: less, Parts, Offset, Delay.
  The document's answers for package fix: Parts.
  The document's answers for package fix: Frac, bit by bit.
-/
import Derived.Test.YthmkfkmcamjnoaaDoorFix
import Derived.Test.YthmkfkmcamjnoaaDoorBoxes
import Derived.Test.YthmkfkmcamjnoaaDoorRefP
namespace Go.Proofs.YthmkfkmcamjnoaaDoor
open Go.RowKit Go.Sort
set_option maxRecDepth 8000
theorem may_any (d : Int) (k0 : 0 ≤ d) : Gives 55 #[.int .u64 d] (.bool (withinB 0 d)) := fun w _ => by
  by_cases a : 1 ≤ d
  · by_cases b : d ≤ 1099511627776
    · have e : withinB 0 d = true := by unfold withinB; simp; omega
      rw [e]
      clear e
      go_enter Tryd.func55, Tryd.ntmps55
      go_wp2
      go_ret
      exact ⟨rfl, by (repeat (first | exact Below.refl _ _ | assumption | (refine Below.drew ?_) | (refine Below.alloc ?_ (by first | (simp; done) | (simp; omega) | omega) _) | (refine Below.setCell ?_ (by first | (simp; done) | (simp; omega) | omega) _) | (refine Below.trans ?_ (Below.mono (by assumption) (by first | (simp; done) | (simp; omega) | omega)))))⟩
    · have e : withinB 0 d = false := by unfold withinB; simp; omega
      rw [e]
      clear e
      go_enter Tryd.func55, Tryd.ntmps55
      go_wp2
      go_ret
      exact ⟨rfl, by (repeat (first | exact Below.refl _ _ | assumption | (refine Below.drew ?_) | (refine Below.alloc ?_ (by first | (simp; done) | (simp; omega) | omega) _) | (refine Below.setCell ?_ (by first | (simp; done) | (simp; omega) | omega) _) | (refine Below.trans ?_ (Below.mono (by assumption) (by first | (simp; done) | (simp; omega) | omega)))))⟩
  · obtain rfl : d = 0 := by omega
    go_enter Tryd.func55, Tryd.ntmps55
    go_wp2
    go_ret
    exact ⟨rfl, by (repeat (first | exact Below.refl _ _ | assumption | (refine Below.drew ?_) | (refine Below.alloc ?_ (by first | (simp; done) | (simp; omega) | omega) _) | (refine Below.setCell ?_ (by first | (simp; done) | (simp; omega) | omega) _) | (refine Below.trans ?_ (Below.mono (by assumption) (by first | (simp; done) | (simp; omega) | omega)))))⟩
theorem vz_scaled (s k : Int) : vz (pair0 s) (absN s * k) = s * k := by
  unfold vz pair0 absN
  by_cases h : s < 0 <;> simp [h, Int.neg_mul]
theorem i64_lo {x : Int} (h : -9223372036854775808 ≤ x ∧ x ≤ 9223372036854775807) : IntKind.i64.wrap (loOf x) = x := by rw [IntKind.wrap_i64]; unfold loOf; omega
/-- A number of 128 bits in a box, and as the document's number in another. -/
def BoxedN (w : World) (x : Int) (p : Nat) (b : Bool) (m : Int) (W' : World) : Prop := WideAt W' w.heap.size x ∧ NumAt W' p b (dig m) ∧ Below w.heap.size w W'
def Boxed (w : World) (x : Int) (p : Nat) (W' : World) : Prop := BoxedN w x p (pair0 x) (absN x) W'
theorem BoxedN.on {w w1 w2 : World} {x m : Int} {p : Nat} {b : Bool} (h : BoxedN w x p b m w1) (hb : Below w1.heap.size w1 w2) : BoxedN w x p b m w2 := ⟨h.1.on hb, h.2.1.on hb, h.2.2.trans (hb.mono h.2.2.size)⟩
theorem BoxedN.of {w w1 : World} {x m : Int} {c : Bool} (h : WideAt w1 w.heap.size x) (s : Below w.heap.size w w1) (b : Bool) (f : Nat → Int) : BoxedN w x w1.heap.size c m (((w1.alloc (.cells (numC b f) 91)).setRow w1.heap.size (numC c (dig m)))) := by
  have lt := h.at.2.2
  exact ⟨(h.on (below_alloc _ _)).row (by omega) _, (NumAt.new w1 b f rfl).whole, Below.setRow' (s.trans ((below_alloc _ _).mono s.size)) s.size _⟩
end Go.Proofs.YthmkfkmcamjnoaaDoor
namespace Go.Proofs.YthmkfkmcamjnoaaDoor
open Go.RowKit Go.Sort
set_option maxRecDepth 8000
def lessVal (x y : Int) (i p : Nat) : Value :=
  match i with
  | 0 => wideV x
  | 1 => numV (pair0 x) (absN x)
  | 2 => wideV y
  | 3 => numV (pair0 y) (absN y)
  | 4 => numV (!pair0 y) (absN y)
  | 5 => numV (addS (pair0 x) (!pair0 y) (absN x) (absN y)) (addM (pair0 x) (!pair0 y) (absN x) (absN y))
  | 6 => wideV (sat (x - y))
  | 8 => .pointer (some ⟨p, 0, none⟩)
  | _ => undef
def lessObj (x y : Int) (i : Nat) : Obj :=
  match i with
  | 7 => wideO (sat (x - y))
  | _ => wideO 0
/-- Two numbers in boxes, and a result's own variable. -/
def Two (w : World) (x y : Int) (w0 : World) : Prop := WideAt w0 w.heap.size x ∧ WideAt w0 (w.heap.size + 1) y ∧ WideAt w0 (w.heap.size + 1 + 1) 0 ∧ Below w.heap.size w w0
theorem two_boxes (w : World) (x y : Int) : Two w x y (((w.alloc (wideO x)).alloc (wideO y)).alloc (wideO 0)) := by
  unfold Two WideAt wideO
  refine ⟨?_, ?_, ?_, by (repeat (first | (with_reducible exact Below.refl _ _) | (with_reducible assumption) | (with_reducible refine Below.drew ?_) | (with_reducible refine below_drewN ?_ _) | ((with_reducible refine Below.alloc ?_ ?_ _); rotate_left; (focus (first | (simp; done) | (simp; omega) | omega))) | ((with_reducible refine Below.setCell ?_ ?_ _); rotate_left; (focus (first | (simp; done) | (simp; omega) | omega))) | ((with_reducible refine Below.trans ?_ (Below.mono (by assumption) ?_)); rotate_left; (focus (first | (simp; done) | (simp; omega) | omega)))))⟩
  · rw [heap_alloc_old _ _ (by first | (simp; done) | (simp; omega) | omega), heap_alloc_old _ _ (by first | (simp; done) | (simp; omega) | omega)]; exact heap_alloc_new _ _
  · rw [heap_alloc_old _ _ (by first | (simp; done) | (simp; omega) | omega)]; exact row_new _ _ (by first | (simp; done) | (simp; omega) | omega)
  · exact row_new _ _ (by first | (simp; done) | (simp; omega) | omega)
def roffVal (x1 x2 x3 x4 : Int) (i p : Nat) : Value :=
  match i with
  | 0 => wideV x2
  | 1 => wideV x1
  | 2 => wideV (sat (x2 - x1))
  | 3 => numV (pair0 (sat (x2 - x1))) (absN (sat (x2 - x1)))
  | 4 => wideV x3
  | 5 => wideV x4
  | 6 => wideV (sat (x3 - x4))
  | 7 => numV (pair0 (sat (x3 - x4))) (absN (sat (x3 - x4)))
  | 8 => numV (addS (pair0 (sat (x2 - x1))) (pair0 (sat (x3 - x4))) (absN (sat (x2 - x1))) (absN (sat (x3 - x4)))) (addM (pair0 (sat (x2 - x1))) (pair0 (sat (x3 - x4))) (absN (sat (x2 - x1))) (absN (sat (x3 - x4))))
  | 9 => wideV (sat (sat (x2 - x1) + sat (x3 - x4)))
  | 10 => .pointer (some ⟨p, 0, none⟩)
  | _ => undef
def roffObj (x1 x2 x3 x4 : Int) (i : Nat) : Obj :=
  match i with
  | 11 => wideO (sat (sat (x2 - x1) + sat (x3 - x4)))
  | _ => wideO 0
end Go.Proofs.YthmkfkmcamjnoaaDoor
namespace Go.Proofs.YthmkfkmcamjnoaaDoor
open Go.RowKit Go.Sort
set_option maxRecDepth 8000
theorem numO_zero : numO false 0 = .cells #[.bool false, .int .u64 0, .int .u64 0, .int .u64 0, .int .u64 0, .int .u64 0, .int .u64 0, .int .u64 0, .int .u64 0, .int .u64 0, .int .u64 0, .int .u64 0, .int .u64 0, .int .u64 0, .int .u64 0, .int .u64 0, .int .u64 0, .int .u64 0, .int .u64 0, .int .u64 0, .int .u64 0] 91 (0, 0) := by
  unfold numO; rw [dig_zero, numC_nought]
def rpartVal (m : Int) (i p : Nat) : Value :=
  match i with
  | 0 => numV false m
  | 1 => numV false 4294967296
  | 2 => numV false (m / 4294967296)
  | 3 => .pointer (some ⟨p, 0, none⟩)
  | _ => undef
def rpartObj (m : Int) (i : Nat) : Obj :=
  match i with
  | 4 => numO false (m / 4294967296)
  | _ => numO false 0
set_option maxHeartbeats 4000000 in
theorem r2_parts (f d : Int) (hf : 0 ≤ f ∧ f ≤ 4294967295) (hd : 0 ≤ d ∧ d ≤ 18446744073709551615) : Gives 35 #[.int .u32 f, .int .u64 d] (.tuple #[.int .u64 (partsI f d), .bool (withinB 0 d)]) := fun w hg => by
  have W := Lib.hid (may_any d hd.1)
  have G := Lib.hid hg
  clear hg
  cases h : withinB 0 d
  · rw [h] at W
    rw [show partsI f d = 0 by unfold partsI; rw [h]; rfl]
    clear h hf hd
    go_enter Tryd.func35, Tryd.ntmps35
    go_wp2_with (go_at_call 55; refine (W.out _ G.out).mono ?_; rintro e w1 ⟨rfl, hb⟩)
    go_ret2
    exact ⟨rfl, by (repeat (first | exact Below.refl _ _ | assumption | (refine Below.drew ?_) | (refine Below.alloc ?_ (by first | (simp; done) | (simp; omega) | omega) _) | (refine Below.setCell ?_ (by first | (simp; done) | (simp; omega) | omega) _) | (refine Below.trans ?_ (Below.mono (by assumption) (by first | (simp; done) | (simp; omega) | omega)))))⟩
  · rw [h] at W
    obtain ⟨d0, d1, p0, p1⟩ := fprod_bd hf h
    rw [show partsI f d = f * d / 4294967296 by unfold partsI; rw [h]; rfl]
    have cv : IntKind.u64.wrap f = f := by rw [IntKind.wrap_u64]; omega
    have N1 := Lib.hid (r_num f hf.1 (by omega))
    have N2 := Lib.hid (r_num d hd.1 hd.2)
    have N3 := Lib.hid (r_num 4294967296 (by omega) (by omega))
    have M := Lib.hid ((r_mul false false f d ⟨hf.1, by omega⟩ ⟨hd.1, by omega⟩ (by omega)).as rfl (v' := .agg (numC false (dig (f * d)))) rfl)
    generalize f * d = m at *
    have FL := Lib.hid ((r_floor m 4294967296 (by unfold In; omega) ⟨by omega, by omega⟩).as (args' := #[numV false m, numV false 4294967296]) (by
      unfold numV; rw [show pair0 m = false by unfold pair0; simp; omega, show absN m = m by unfold absN; rw [if_neg (by omega)]]) (v' := numV false (m / 4294967296)) (by
      unfold numV; rw [show pair0 m = false by unfold pair0; simp; omega, show fl m 4294967296 = m / 4294967296 by unfold fl; rw [if_neg (by omega)]]))
    have X := Lib.hid ((r_wide false (m / 4294967296) (m / 4294967296) ⟨by omega, by omega⟩ rfl).as rfl (v' := .agg #[.int .i64 0, .int .u64 (m / 4294967296)]) (by
      rw [sat_id (by unfold In; omega), show hiOf (m / 4294967296) = 0 by unfold hiOf; omega, show loOf (m / 4294967296) = m / 4294967296 by unfold loOf; omega]))
    clear h p0 p1 hf hd d0 d1
    go_enter Tryd.func35, Tryd.ntmps35
    go_upto_region 3 with (go_at_call 55; refine (W.out _ G.out).mono ?_; rintro e w1 ⟨rfl, hb⟩; have S1 := Lib.hid hb; clear hb)
    go_cut [6] from 11 to 17 (fun v wr => ∃ p, v = .pointer (some ⟨p, 0, none⟩) ∧ NumAt wr p false (dig m) ∧ Below w.heap.size w wr)
    case first =>
      go_wp2_with fail
      refine (N1.out _ (G.out.below S1.out)).mono ?_
      rintro e w2 ⟨rfl, hb⟩
      have S2 := Lib.hid (S1.out.trans (hb.mono S1.out.size))
      clear hb
      go_wp2_with fail
      refine (N2.out _ (G.out.below S2.out)).mono ?_
      rintro e w3 ⟨rfl, hb⟩
      have S3 := Lib.hid (S2.out.trans (hb.mono S2.out.size))
      clear hb
      go_wp2_with fail
      refine (M.out _ (G.out.below S3.out)).mono ?_
      rintro e w4 ⟨rfl, hb⟩
      have S4 := Lib.hid (S3.out.trans (hb.mono S3.out.size))
      clear hb
      go_wp2_with (refine store_num rfl (.tmp 6) (.tmp 16) rfl w4.heap.size rfl _ _ rfl false (fun _ => 0) (NumAt.new w4 false (fun _ => 0) rfl) ?_)
      go_meet
      exact ⟨w4.heap.size, rfl, (NumAt.new w4 false (fun _ => 0) rfl).whole, Below.setRow' (S4.out.trans ((below_alloc _ _).mono S4.out.size)) S4.out.size _⟩
    case rest =>
    obtain ⟨p, rfl, hP, hS⟩ := hcut
    obtain ⟨w0, rfl⟩ : ∃ v : World, v = wc := ⟨_, rfl⟩
    have P := Lib.hid hP
    have S := Lib.hid hS
    clear hP hS S1 N1 N2 M W
    go_upto_region 4 with fail
    refine wp_region_turns [.gives, .gives, .gives, .makes (some 4), .stores 3] (rpartVal m) (rpartObj m) (by kernel_rfl) (by kernel_rfl) rfl ?_ ?_
    · refine EachOp.cons (fun D own a w I hn hd => ?_) ?_
      · exact does_load rfl rfl 91 (.tmp 6) rfl _ ((I.was (by kernel_rfl)).trans rfl) 91 _ _ _ (I.blk P.out) Tryd.underlying91 rfl (infoN _ _) rfl
      refine EachOp.cons (fun D own a w I hn hd => ?_) ?_
      · exact does_go rfl rfl rfl rfl Tryd.func52 (by kernel_rfl) (by kernel_rfl) #[.int .u64 4294967296] (by simp [Act.eval]) (N3.out w (G.out.below (S.out.trans (I.below.mono S.out.size))))
      refine EachOp.cons (fun D own a w I hn hd => ?_) ?_
      · have e17 : a.eval (.tmp 17) = numV false m := I.get (i := 0) rfl (hd 0 (by kernel_rfl)) rfl rfl
        have e18 : a.eval (.tmp 18) = numV false 4294967296 := I.get (i := 1) rfl (hd 1 (by kernel_rfl)) rfl rfl
        exact does_go rfl rfl rfl rfl Tryd.func51 (by kernel_rfl) (by kernel_rfl) #[numV false m, numV false 4294967296] (by simp [e17, e18]) (FL.out w (G.out.below (S.out.trans (I.below.mono S.out.size))))
      refine EachOp.cons (fun D own a w I hn hd => ?_) ?_
      · exact does_alloc rfl rfl (by go_simp; exact ⟨rfl, by rw [show rpartObj m 3 = numO false 0 from rfl, numO_zero]⟩)
      refine EachOp.cons (fun D own a w I hn hd => ?_) EachOp.nil
      have e7 : a.eval (.tmp 7) = .pointer (some ⟨own 3, 0, none⟩) := I.get (i := 3) rfl (hd 3 (by kernel_rfl)) rfl rfl
      have e19 : a.eval (.tmp 19) = numV false (m / 4294967296) := I.get (i := 2) rfl (hd 2 (by kernel_rfl)) rfl rfl
      exact does_store rfl rfl rfl 91 (.tmp 7) (.tmp 19) rfl _ e7 e19 91 _ (I.fresh (hd 3 (by kernel_rfl)) rfl hn) (infoN _ _) (by rw [numC_size, numC_size]) (numC_ok _ _) rfl
    · intro own w1 H
      have R := Lib.hid (show NumAt w1 (own 3) false (dig (m / 4294967296)) from H.made 3 rfl rfl)
      have S2 := Lib.hid (S.out.trans (H.below.mono S.out.size))
      refine (by assumption : ∀ (a : Act) (w : World), Code.wp Tryd.prog _ _ a w → _) _ _ ?_
      simp only [putAll, Act.put, List.setIfInBounds_toArray, List.set_cons_zero, List.set_cons_succ, Nat.zero_add, Nat.reduceAdd, rpartVal, numV]
      generalize own 3 = q at *
      clear H S P N3 FL
      have hfd : ∀ w : World, (Instr.field 52 (.agg #[.int .i64 0, .int .u64 (m / 4294967296)]) 1).run Tryd.prog w = .ok (.int .u64 (m / 4294967296)) w := fun _ => by kernel_rfl
      go_wp2_with (first
        | (refine load_num rfl (.tmp 7) rfl q rfl _ _ R.out ?_)
        | (go_at_call 54; refine (X.out _ (G.out.below S2.out)).mono ?_; rintro e w2 ⟨rfl, hb⟩; have S3 := Lib.hid (S2.out.trans (hb.mono S2.out.size)); clear hb))
      go_ret2
      exact ⟨rfl, S3.out⟩
end Go.Proofs.YthmkfkmcamjnoaaDoor
namespace Go.Proofs.YthmkfkmcamjnoaaDoor
open Go.RowKit Go.Sort
set_option maxRecDepth 8000
/-- The bit of round k. -/
def bitI (k : Nat) : Int := if k = 0 then 0 else 2 ^ (k - 1)
theorem bit_zero : bitI 0 = 0 := rfl
theorem bit_succ (k : Nat) : bitI (k + 1) = 2 ^ k := by unfold bitI; simp
theorem bit_half (k : Nat) : bitI (k + 1) / 2 = bitI k := by
  rw [bit_succ]
  cases k with
  | zero => rfl
  | succ k => rw [bit_succ, Int.pow_succ]; omega
theorem pow_pos2 (k : Nat) : (0 : Int) < 2 ^ k := Int.pow_pos (by decide)
/-- What stands at the head of round k: the least number is not above f, and less than 2^k below. -/
def FracR (L f : Int) (k : Nat) : Prop := 0 ≤ L ∧ L ≤ f ∧ f < L + 2 ^ k ∧ 2 ^ k ≤ f + 1 ∧ f ≤ 4294967295
theorem frac_first {L : Int} (h0 : 0 ≤ L) (h : L ≤ 4294967295) : FracR L 4294967295 32 := ⟨h0, h, by omega, by omega, by omega⟩
theorem frac_last {L f : Int} (h : FracR L f 0) : f = L := by obtain ⟨_, a, b, _⟩ := h; omega
theorem frac_down {L f : Int} {k : Nat} (h : FracR L f (k + 1)) (c : L ≤ f - 2 ^ k) : FracR L (f - 2 ^ k) k := by
  obtain ⟨a, b, d, e, g⟩ := h
  have p := pow_pos2 k
  rw [Int.pow_succ] at d e
  exact ⟨a, c, by omega, by omega, by omega⟩
theorem frac_stay {L f : Int} {k : Nat} (h : FracR L f (k + 1)) (c : ¬ L ≤ f - 2 ^ k) : FracR L f k := by
  obtain ⟨a, b, d, e, g⟩ := h
  have p := pow_pos2 k
  rw [Int.pow_succ] at d e
  exact ⟨a, b, by omega, by omega, g⟩
theorem frac_less {L f : Int} {k : Nat} (h : FracR L f (k + 1)) : 0 ≤ f - 2 ^ k ∧ f - 2 ^ k ≤ 4294967294 := by
  obtain ⟨a, b, d, e, g⟩ := h
  have p := pow_pos2 k
  rw [Int.pow_succ] at d e
  omega
/-- When a number of units is enough. -/
theorem enough {n d f : Int} (hn : 0 ≤ n) (h : withinB n d = true) (h0 : 0 ≤ f) (h1 : f ≤ 4294967294) : (n * 4294967296 ≤ f * d) ↔ fracI n d ≤ f := by
  obtain ⟨d0, d1, nd, q0, q1, r0, r1⟩ := fquot_bd hn h
  have e : fracI n d = if 0 < n * 4294967296 % d ∧ n * 4294967296 / d < 4294967295 then n * 4294967296 / d + 1 else n * 4294967296 / d := by unfold fracI; rw [h]; rfl
  rw [e]
  have hq : n * 4294967296 = d * (n * 4294967296 / d) + n * 4294967296 % d := (Int.mul_ediv_add_emod _ _).symm
  generalize n * 4294967296 / d = q at *
  generalize n * 4294967296 % d = r at *
  rw [hq, Int.mul_comm f d]
  constructor
  · intro hle
    by_cases c : q + 1 ≤ f
    · split <;> omega
    · have : d * f ≤ d * q := Int.mul_le_mul_of_nonneg_left (by omega) (by omega)
      have r00 : r = 0 := by omega
      subst r00
      rw [if_neg (by omega)]
      rcases Int.lt_or_le f q with g | g
      · have : d * (f + 1) ≤ d * q := Int.mul_le_mul_of_nonneg_left (by omega) (by omega)
        rw [Int.mul_add] at this
        omega
      · exact g
  · intro hle
    by_cases c : 0 < r
    · by_cases c2 : q < 4294967295
      · rw [if_pos ⟨c, c2⟩] at hle
        have : d * (q + 1) ≤ d * f := Int.mul_le_mul_of_nonneg_left hle (by omega)
        rw [Int.mul_add] at this
        omega
      · rw [if_neg (by omega)] at hle
        omega
    · have : r = 0 := by omega
      subst this
      rw [if_neg (by omega)] at hle
      have : d * q ≤ d * f := Int.mul_le_mul_of_nonneg_left hle (by omega)
      omega
theorem frac_bd {n d : Int} (hn : 0 ≤ n) (h : withinB n d = true) : 0 ≤ fracI n d ∧ fracI n d ≤ 4294967295 := by
  obtain ⟨d0, d1, nd, q0, q1, r0, r1⟩ := fquot_bd hn h
  unfold fracI
  rw [h]
  simp only [if_true]
  split <;> omega
theorem size_ge (m n : Int) : decide (0 ≤ sgz m n) = decide (n ≤ m) := by
  unfold sgz; congr 1; (repeat' split) <;> simp <;> omega
theorem r_size2 (b c : Bool) (m n : Int) (hm : Sz m) (hn : Sz n) : Gives 57 #[numV b m, numV c n] (.int .i64 (sgz m n)) := fun w _ => size_any b c m n hm hn w
theorem within_zero {n d : Int} (hn : 0 ≤ n) : withinB n d = (withinB 0 d && decide (n < d)) := by
  unfold withinB
  by_cases a : d ≤ 1099511627776 <;> by_cases b : n < d <;> by_cases c : 0 < d <;> simp [a, b, c] <;> omega
set_option maxHeartbeats 4000000 in
theorem r2_frac (n d : Int) (hn : 0 ≤ n ∧ n ≤ 18446744073709551615) (hd : 0 ≤ d ∧ d ≤ 18446744073709551615) : Gives 37 #[.int .u64 n, .int .u64 d] (.tuple #[.int .u32 (fracI n d), .bool (withinB n d)]) := fun w hg => by
  have W := Lib.hid (may_any d hd.1)
  have G := Lib.hid hg
  clear hg
  cases h : withinB n d
  · rw [show fracI n d = 0 by unfold fracI; rw [h]; rfl]
    rw [within_zero hn.1] at h
    cases h0 : withinB 0 d
    · rw [h0] at W
      clear h h0 hn hd
      go_enter Tryd.func37, Tryd.ntmps37
      go_wp2_with (go_at_call 55; refine (W.out _ G.out).mono ?_; rintro e w1 ⟨rfl, hb⟩)
      go_ret2
      exact ⟨rfl, by (repeat (first | exact Below.refl _ _ | assumption | (refine Below.drew ?_) | (refine Below.alloc ?_ (by first | (simp; done) | (simp; omega) | omega) _) | (refine Below.setCell ?_ (by first | (simp; done) | (simp; omega) | omega) _) | (refine Below.trans ?_ (Below.mono (by assumption) (by first | (simp; done) | (simp; omega) | omega)))))⟩
    · rw [h0] at W h
      have k : ¬ n < d := by simpa using h
      clear h h0
      go_enter Tryd.func37, Tryd.ntmps37
      go_wp2_with (go_at_call 55; refine (W.out _ G.out).mono ?_; rintro e w1 ⟨rfl, hb⟩)
      go_ret2
      exact ⟨rfl, by (repeat (first | exact Below.refl _ _ | assumption | (refine Below.drew ?_) | (refine Below.alloc ?_ (by first | (simp; done) | (simp; omega) | omega) _) | (refine Below.setCell ?_ (by first | (simp; done) | (simp; omega) | omega) _) | (refine Below.trans ?_ (Below.mono (by assumption) (by first | (simp; done) | (simp; omega) | omega)))))⟩
  · have FB := frac_bd hn.1 h
    have EN := Lib.hid (fun f (h0 : 0 ≤ f) (h1 : f ≤ 4294967294) => enough (f := f) hn.1 h h0 h1)
    have hw := h
    rw [within_zero hn.1] at hw
    obtain ⟨h0, h1⟩ := (Bool.and_eq_true _ _).mp hw
    have k1 : n < d := by simpa using h1
    obtain ⟨d0, d1, nd, _⟩ := fquot_bd hn.1 h
    rw [h0] at W
    have N1 := Lib.hid (r_num n hn.1 hn.2)
    have N2 := Lib.hid (r_num d hd.1 hd.2)
    have N3 := Lib.hid (r_num 4294967296 (by omega) (by omega))
    have M := Lib.hid ((r_mul false false n 4294967296 ⟨hn.1, by omega⟩ ⟨by omega, by omega⟩ (by omega)).as rfl (v' := .agg (numC false (dig (n * 4294967296)))) rfl)
    have ZW : Sz (n * 4294967296) := ⟨by omega, by omega⟩
    have Hd := Lib.hid (show 0 ≤ d ∧ d ≤ 1099511627776 from ⟨hd.1, d1⟩)
    generalize fracI n d = L at *
    have R0 := Lib.hid (frac_first FB.1 FB.2)
    have FB' := Lib.hid FB
    clear h hw h0 h1 nd FB hd
    go_enter Tryd.func37, Tryd.ntmps37
    go_upto_region 3 with (go_at_call 55; refine (W.out _ G.out).mono ?_; rintro e w1 ⟨rfl, hb⟩; have S1 := Lib.hid hb; clear hb)
    go_cut [6] from 18 to 22 (fun v wr => ∃ p, v = .pointer (some ⟨p, 0, none⟩) ∧ NumAt wr p false (dig (n * 4294967296)) ∧ Below w.heap.size w wr)
    case first =>
      go_wp2_with fail
      refine (N1.out _ (G.out.below S1.out)).mono ?_
      rintro e w2 ⟨rfl, hb⟩
      have S2 := Lib.hid (S1.out.trans (hb.mono S1.out.size))
      clear hb
      go_wp2_with fail
      refine (N3.out _ (G.out.below S2.out)).mono ?_
      rintro e w3 ⟨rfl, hb⟩
      have S3 := Lib.hid (S2.out.trans (hb.mono S2.out.size))
      clear hb
      go_wp2_with fail
      refine (M.out _ (G.out.below S3.out)).mono ?_
      rintro e w4 ⟨rfl, hb⟩
      have S4 := Lib.hid (S3.out.trans (hb.mono S3.out.size))
      clear hb
      go_wp2_with (refine store_num rfl (.tmp 6) (.tmp 21) rfl w4.heap.size rfl _ _ rfl false (fun _ => 0) (NumAt.new w4 false (fun _ => 0) rfl) ?_)
      go_meet
      exact ⟨w4.heap.size, rfl, (NumAt.new w4 false (fun _ => 0) rfl).whole, Below.setRow' (S4.out.trans ((below_alloc _ _).mono S4.out.size)) S4.out.size _⟩
    case rest =>
    obtain ⟨p, rfl, hP, hS⟩ := hcut
    obtain ⟨w0, rfl⟩ : ∃ v : World, v = wc := ⟨_, rfl⟩
    have P := Lib.hid hP
    have S := Lib.hid hS
    have ZW' := Lib.hid ZW
    clear hP hS S1 N1 N3 M W ZW
    generalize n * 4294967296 = m at *
    go_wp2
    go_loopw [7, 8] (fun f b wr => ∃ (k : Nat) (x : Int), k ≤ 32 ∧ f = .int .u64 x ∧ b = .int .u64 (bitI k) ∧ Hid (FracR L x k) ∧ Hid (NumAt wr p false (dig m)) ∧ Hid (Below w.heap.size w wr)) (fun _ b _ => (intOf b).toNat)
    case atStart => exact ⟨32, 4294967295, by omega, rfl, rfl, R0, P, S⟩
    case round =>
      clear P S R0
      obtain ⟨k, x, hk, rfl, rfl, R1, P1, S1⟩ := hrel
      cases k with
      | zero =>
        have E := Lib.hid (frac_last R1.out)
        have cv : IntKind.u32.wrap x = x := by have := FB'.out; rw [E.out, IntKind.wrap_u32]; omega
        rw [bit_zero]
        go_wp2
        go_ret2
        exact ⟨by rw [E.out]; rfl, S1.out⟩
      | succ k =>
        have lb := frac_less R1.out
        have lx := R1.out.2.2.2.2
        have bh := bit_half k
        have bs := bit_succ k
        have pp := pow_pos2 k
        rw [bs] at bh
        rw [bs]
        have EN' := Lib.hid (EN.out (x - 2 ^ k) lb.1 lb.2)
        have DN := Lib.hid (fun c => frac_down R1.out c)
        have ST := Lib.hid (fun c => frac_stay R1.out c)
        have pd := Int.mul_le_mul lb.2 Hd.out.2 Hd.out.1 (by omega)
        have pn := Int.mul_nonneg lb.1 Hd.out.1
        generalize (2 : Int) ^ k = b at *
        have lb0 := lb.1
        have N4 := Lib.hid (r_num (x - b) lb.1 (by omega))
        have M4 := Lib.hid ((r_mul false false (x - b) d ⟨lb.1, by omega⟩ ⟨Hd.out.1, by have := Hd.out.2; omega⟩ (by omega)).as rfl (v' := .agg (numC false (dig ((x - b) * d)))) rfl)
        have SZ := Lib.hid (r_size2 false false ((x - b) * d) m ⟨pn, by omega⟩ ZW'.out)
        unfold numV at SZ
        have G1 := Lib.hid (G.out.below S1.out)
        have CC : decide (0 ≤ sgz ((x - b) * d) m) = decide (L ≤ x - b) := by rw [size_ge]; exact decide_eq_decide.2 EN'.out
        generalize sgz ((x - b) * d) m = z at *
        have BH := Lib.hid bh
        have K2 := Lib.hid CC
        have w1 : IntKind.u64.wrap (x - b) = x - b := by rw [IntKind.wrap_u64]; omega
        clear bs pd pn bh CC EN' R1
        by_cases c : L ≤ x - b
        · have k2 : decide (0 ≤ z) = true := by rw [K2.out]; simpa using c
          have R2 := Lib.hid (DN.out c)
          clear c DN ST K2
          go_upto_region 9 with fail
          refine wp_region_quiet_below (by kernel_rfl) (by kernel_rfl) ?_
          repeat (first
            | ((refine quiet_load_num (.tmp 6) rfl rfl p rfl _ _ P1.out.regrown ?_); (try simp only [Act.put, List.setIfInBounds_toArray, List.set_cons_zero, List.set_cons_succ]))
            | (go_big_quiet_step (first | (with_reducible exact (N4.out.quiet G1.out _ _)) | (with_reducible exact (N2.out.quiet G1.out _ _)) | (with_reducible exact (M4.out.quiet G1.out _ _)) | (with_reducible exact (SZ.out.quiet G1.out _ _)))))
          (refine wpQuiet_nil ?_; intro _ hw'; obtain ⟨⟨dq, osq⟩, hw''⟩ := hw'; subst hw'')
          go_wp2
          go_roundw
          case rel => exact ⟨k, x - b, by omega, rfl, by rw [BH.out], R2, Lib.hid (P1.out.on (below_quiet dq osq)), Lib.hid (S1.out.trans ((below_quiet dq osq).mono S1.out.size))⟩
          case measure => simp [intOf]; omega
        · have k2 : decide (0 ≤ z) = false := by rw [K2.out]; simpa using c
          have R2 := Lib.hid (ST.out c)
          clear c DN ST K2
          go_upto_region 9 with fail
          refine wp_region_quiet_below (by kernel_rfl) (by kernel_rfl) ?_
          repeat (first
            | ((refine quiet_load_num (.tmp 6) rfl rfl p rfl _ _ P1.out.regrown ?_); (try simp only [Act.put, List.setIfInBounds_toArray, List.set_cons_zero, List.set_cons_succ]))
            | (go_big_quiet_step (first | (with_reducible exact (N4.out.quiet G1.out _ _)) | (with_reducible exact (N2.out.quiet G1.out _ _)) | (with_reducible exact (M4.out.quiet G1.out _ _)) | (with_reducible exact (SZ.out.quiet G1.out _ _)))))
          (refine wpQuiet_nil ?_; intro _ hw'; obtain ⟨⟨dq, osq⟩, hw''⟩ := hw'; subst hw'')
          go_wp2
          go_roundw
          case rel => exact ⟨k, x, by omega, rfl, by rw [BH.out], R2, Lib.hid (P1.out.on (below_quiet dq osq)), Lib.hid (S1.out.trans ((below_quiet dq osq).mono S1.out.size))⟩
          case measure => simp [intOf]; omega
end Go.Proofs.YthmkfkmcamjnoaaDoor
