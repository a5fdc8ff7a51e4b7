/-
  The document's answers for package fix: Parts.
-/
import Derived.Test.YtpjmngolnobomaaDoorRef2b
namespace Go.Proofs.YtpjmngolnobomaaDoor
open Go.RowKit Go.Sort
theorem numO_zero : numO false 0 = .cells #[.bool false, .int .u64 0, .int .u64 0, .int .u64 0, .int .u64 0, .int .u64 0, .int .u64 0, .int .u64 0, .int .u64 0, .int .u64 0, .int .u64 0, .int .u64 0, .int .u64 0, .int .u64 0, .int .u64 0, .int .u64 0, .int .u64 0, .int .u64 0, .int .u64 0, .int .u64 0, .int .u64 0] 50 (0, 0) := by
  unfold numO; rw [dig_zero, numC_nought]
def rpartVal (m : Int) (i p : Nat) : Value :=
  match i with
  | 0 => numV false m
  | 1 => numV false 4294967296
  | 2 => numV false (m / 4294967296)
  | 3 => .pointer (some ⟨p, 0, none⟩)
  | _ => undef
def rpartObj (m : Int) (i : Nat) : Obj :=
  match i with
  | 4 => numO false (m / 4294967296)
  | _ => numO false 0
set_option maxHeartbeats 4000000 in
theorem r2_parts (f d : Int) (hf : 0 ≤ f ∧ f ≤ 4294967295) (hd : 0 ≤ d ∧ d ≤ 18446744073709551615) : Gives 17 #[.int .u32 f, .int .u64 d] (.tuple #[.int .u64 (partsI f d), .bool (withinB 0 d)]) := fun w hg => by
  have W := Lib.hid (may_any d hd.1)
  have G := Lib.hid hg
  clear hg
  cases h : withinB 0 d
  · rw [h] at W
    rw [show partsI f d = 0 by unfold partsI; rw [h]; rfl]
    clear h hf hd
    go_enter Tryd.func17, Tryd.ntmps17
    go_wp2_with (go_at_call 39; refine (W.out _ G.out).mono ?_; rintro e w1 ⟨rfl, hb⟩)
    go_ret2
    exact ⟨rfl, by (repeat (first | exact Below.refl _ _ | assumption | (refine Below.drew ?_) | (refine Below.alloc ?_ (by first | (simp; done) | (simp; omega) | omega) _) | (refine Below.setCell ?_ (by first | (simp; done) | (simp; omega) | omega) _) | (refine Below.trans ?_ (Below.mono (by assumption) (by first | (simp; done) | (simp; omega) | omega)))))⟩
  · rw [h] at W
    obtain ⟨d0, d1, p0, p1⟩ := fprod_bd hf h
    rw [show partsI f d = f * d / 4294967296 by unfold partsI; rw [h]; rfl]
    have cv : IntKind.u64.wrap f = f := by rw [IntKind.wrap_u64]; omega
    have N1 := Lib.hid (r_num f hf.1 (by omega))
    have N2 := Lib.hid (r_num d hd.1 hd.2)
    have N3 := Lib.hid (r_num 4294967296 (by omega) (by omega))
    have M := Lib.hid ((r_mul false false f d ⟨hf.1, by omega⟩ ⟨hd.1, by omega⟩ (by omega)).as rfl (v' := .agg (numC false (dig (f * d)))) rfl)
    generalize f * d = m at *
    have FL := Lib.hid ((r_floor m 4294967296 (by unfold In; omega) ⟨by omega, by omega⟩).as (args' := #[numV false m, numV false 4294967296]) (by
      unfold numV; rw [show pair0 m = false by unfold pair0; simp; omega, show absN m = m by unfold absN; rw [if_neg (by omega)]]) (v' := numV false (m / 4294967296)) (by
      unfold numV; rw [show pair0 m = false by unfold pair0; simp; omega, show fl m 4294967296 = m / 4294967296 by unfold fl; rw [if_neg (by omega)]]))
    have X := Lib.hid ((r_wide false (m / 4294967296) (m / 4294967296) ⟨by omega, by omega⟩ rfl).as rfl (v' := .agg #[.int .i64 0, .int .u64 (m / 4294967296)]) (by
      rw [sat_id (by unfold In; omega), show hiOf (m / 4294967296) = 0 by unfold hiOf; omega, show loOf (m / 4294967296) = m / 4294967296 by unfold loOf; omega]))
    clear h p0 p1 hf hd d0 d1
    go_enter Tryd.func17, Tryd.ntmps17
    go_upto_region 3 with (go_at_call 39; refine (W.out _ G.out).mono ?_; rintro e w1 ⟨rfl, hb⟩; have S1 := Lib.hid hb; clear hb)
    go_cut [6] from 11 to 17 (fun v wr => ∃ p, v = .pointer (some ⟨p, 0, none⟩) ∧ NumAt wr p false (dig m) ∧ Below w.heap.size w wr)
    case first =>
      go_wp2_with fail
      refine (N1.out _ (G.out.below S1.out)).mono ?_
      rintro e w2 ⟨rfl, hb⟩
      have S2 := Lib.hid (S1.out.trans (hb.mono S1.out.size))
      clear hb
      go_wp2_with fail
      refine (N2.out _ (G.out.below S2.out)).mono ?_
      rintro e w3 ⟨rfl, hb⟩
      have S3 := Lib.hid (S2.out.trans (hb.mono S2.out.size))
      clear hb
      go_wp2_with fail
      refine (M.out _ (G.out.below S3.out)).mono ?_
      rintro e w4 ⟨rfl, hb⟩
      have S4 := Lib.hid (S3.out.trans (hb.mono S3.out.size))
      clear hb
      go_wp2_with (refine store_num rfl (.tmp 6) (.tmp 16) rfl w4.heap.size rfl _ _ rfl false (fun _ => 0) (NumAt.new w4 false (fun _ => 0) rfl) ?_)
      go_meet
      exact ⟨w4.heap.size, rfl, (NumAt.new w4 false (fun _ => 0) rfl).whole, Below.setRow' (S4.out.trans ((below_alloc _ _).mono S4.out.size)) S4.out.size _⟩
    case rest =>
    obtain ⟨p, rfl, hP, hS⟩ := hcut
    obtain ⟨w0, rfl⟩ : ∃ v : World, v = wc := ⟨_, rfl⟩
    have P := Lib.hid hP
    have S := Lib.hid hS
    clear hP hS S1 N1 N2 M W
    go_upto_region 4 with fail
    refine wp_region_turns [.gives, .gives, .gives, .makes (some 4), .stores 3] (rpartVal m) (rpartObj m) (by kernel_rfl) (by kernel_rfl) rfl ?_ ?_
    · refine EachOp.cons (fun D own a w I hn hd => ?_) ?_
      · exact does_load rfl rfl 50 (.tmp 6) rfl _ ((I.was (by kernel_rfl)).trans rfl) 50 _ _ _ (I.blk P.out) Tryd.underlying50 rfl (infoN _ _) rfl
      refine EachOp.cons (fun D own a w I hn hd => ?_) ?_
      · exact does_go rfl rfl rfl rfl Tryd.func31 (by kernel_rfl) (by kernel_rfl) #[.int .u64 4294967296] (by simp [Act.eval]) (N3.out w (G.out.below (S.out.trans (I.below.mono S.out.size))))
      refine EachOp.cons (fun D own a w I hn hd => ?_) ?_
      · have e17 : a.eval (.tmp 17) = numV false m := I.get (i := 0) rfl (hd 0 (by kernel_rfl)) rfl rfl
        have e18 : a.eval (.tmp 18) = numV false 4294967296 := I.get (i := 1) rfl (hd 1 (by kernel_rfl)) rfl rfl
        exact does_go rfl rfl rfl rfl Tryd.func29 (by kernel_rfl) (by kernel_rfl) #[numV false m, numV false 4294967296] (by simp [e17, e18]) (FL.out w (G.out.below (S.out.trans (I.below.mono S.out.size))))
      refine EachOp.cons (fun D own a w I hn hd => ?_) ?_
      · exact does_alloc rfl rfl (by go_simp; exact ⟨rfl, by rw [show rpartObj m 3 = numO false 0 from rfl, numO_zero]⟩)
      refine EachOp.cons (fun D own a w I hn hd => ?_) EachOp.nil
      have e7 : a.eval (.tmp 7) = .pointer (some ⟨own 3, 0, none⟩) := I.get (i := 3) rfl (hd 3 (by kernel_rfl)) rfl rfl
      have e19 : a.eval (.tmp 19) = numV false (m / 4294967296) := I.get (i := 2) rfl (hd 2 (by kernel_rfl)) rfl rfl
      exact does_store rfl rfl rfl 50 (.tmp 7) (.tmp 19) rfl _ e7 e19 50 _ (I.fresh (hd 3 (by kernel_rfl)) rfl hn) (infoN _ _) (by rw [numC_size, numC_size]) (numC_ok _ _) rfl
    · intro own w1 H
      have R := Lib.hid (show NumAt w1 (own 3) false (dig (m / 4294967296)) from H.made 3 rfl rfl)
      have S2 := Lib.hid (S.out.trans (H.below.mono S.out.size))
      refine (by assumption : ∀ (a : Act) (w : World), Code.wp Tryd.prog _ _ a w → _) _ _ ?_
      simp only [putAll, Act.put, List.setIfInBounds_toArray, List.set_cons_zero, List.set_cons_succ, Nat.zero_add, Nat.reduceAdd, rpartVal, numV]
      generalize own 3 = q at *
      clear H S P N3 FL
      have hfd : ∀ w : World, (Instr.field 25 (.agg #[.int .i64 0, .int .u64 (m / 4294967296)]) 1).run Tryd.prog w = .ok (.int .u64 (m / 4294967296)) w := fun _ => by kernel_rfl
      go_wp2_with (first
        | (refine load_num rfl (.tmp 7) rfl q rfl _ _ R.out ?_)
        | (go_at_call 33; refine (X.out _ (G.out.below S2.out)).mono ?_; rintro e w2 ⟨rfl, hb⟩; have S3 := Lib.hid (S2.out.trans (hb.mono S2.out.size)); clear hb))
      go_ret2
      exact ⟨rfl, S3.out⟩
end Go.Proofs.YtpjmngolnobomaaDoor
