/-
  The document's answers of layer 8: Open (horologeref08).
-/
import Derived.Test.YthmkfkmcamjnoaaDoorPRBytes8
import Derived.Test.YthmkfkmcamjnoaaDoorConvB
namespace Go.Proofs.YthmkfkmcamjnoaaDoor
open Go.RowKit Go.Sort
set_option maxRecDepth 8000
theorem BytA.upto {w : World} {a : Option Addr} {l : List UInt8} (h : BytA w a l) (m : Nat) : BytA w a (l.take m) := by
  rcases h with rfl | ⟨b, o, e, hb, hc⟩
  · left; simp
  · right
    refine ⟨b, o, e, hb, fun j hj => ?_⟩
    have hj' : j < l.length := by rw [List.length_take] at hj; omega
    rw [hc j hj']; simp
/-- What has been tried of the four magic numbers. -/
def Tried (l : List UInt8) (j : Nat) : Prop := (0 < j → begins l false false = false) ∧ (1 < j → begins l true false = false) ∧ (2 < j → begins l false true = false) ∧ (3 < j → begins l true true = false)
theorem tried_hit {l : List UInt8} {j : Nat} (h : Tried l j) (hj : j < 4) (hb : begins l (decide (j % 2 = 1)) (decide (1 < j)) = true) : which l = some (decide (j % 2 = 1), decide (1 < j)) := by
  obtain ⟨t0, t1, t2, t3⟩ := h
  unfold which
  match j, hj with
  | 0, _ => simp at hb; simp [hb]
  | 1, _ => simp at hb; simp [hb, t0]
  | 2, _ => simp at hb; simp [hb, t0, t1]
  | 3, _ => simp at hb; simp [hb, t0, t1, t2]
theorem tried_next {l : List UInt8} {j : Nat} (h : Tried l j) (hj : j < 4) (hb : begins l (decide (j % 2 = 1)) (decide (1 < j)) = false) : Tried l (j + 1) := by
  obtain ⟨t0, t1, t2, t3⟩ := h
  unfold Tried
  match j, hj with
  | 0, _ => simp at hb; simp [hb]
  | 1, _ => simp at hb; simp [hb, t0]
  | 2, _ => simp at hb; simp [hb, t0, t1]
  | 3, _ => simp at hb; simp [hb, t0, t1, t2]
theorem tried_none {l : List UInt8} (h : Tried l 4) : which l = none := by
  obtain ⟨t0, t1, t2, t3⟩ := h
  unfold which
  simp [t0, t1, t2, t3]
set_option maxHeartbeats 2000000 in
theorem r_open (v : Value) (l : List UInt8) (w : World) (hB : Byt w v l) (hz : l.length ≤ 140737488355328) :
    Calls Tryd.prog 9 #[v] w fun e w' => e = .returned (fileV (openS l)) ∧ Below w.heap.size w w' := by
  obtain ⟨a, c, rfl, hc, hA⟩ := hB.open
  have HA := Lib.hid hA
  have S0 := Lib.hid (KSt.new w (.cells #[.bool false, .bool false, .int .u16 0, .int .u32 0] 31 (0, 0)))
  have RM := Lib.hid (fun x y w => r_magic x y w)
  have G := Lib.hid (fun b at_ many ha hm w hB => r_get a l c b at_ many ha hm hz w hB)
  have T0 := Lib.hid (show Tried l 0 by unfold Tried; simp)
  obtain ⟨n, hn⟩ : ∃ n, n = l.length := ⟨_, rfl⟩
  have HN := Lib.hid hn
  rw [← hn] at hz hc G ⊢
  clear hn hB hA
  rcases (show (min n 4 = n ∧ n ≤ 4 ∧ (4 < (n : Int)) = False) ∨ (min n 4 = 4 ∧ (4 < (n : Int)) = True ∧ (4 < n)) by
    by_cases h : n ≤ 4
    · left; refine ⟨by omega, h, by simp; omega⟩
    · right; refine ⟨by omega, by simp; omega, by omega⟩) with ⟨M, g1, g2⟩ | ⟨M, g1, g2⟩
  · go_enter Tryd.func9, Tryd.ntmps9
    go_upto_region 1 with fail
    generalize hw0 : w.alloc (.cells _ 31 (0, 0)) = w0 at *
    clear hw0
    go_wp2
    go_loopw [5] (fun i wr => ∃ j : Nat, j ≤ 4 ∧ i = .int .i64 j ∧ Hid (KSt w wr (.cells #[.bool false, .bool false, .int .u16 0, .int .u32 0] 31 (0, 0)) ∧ Tried l j)) (fun i _ => 4 - (intOf i).toNat)
    case atStart => exact ⟨0, by omega, rfl, Lib.hid ⟨S0.out, T0.out⟩⟩
    case round =>
      obtain ⟨j, hj, rfl, N⟩ := hrel
      clear S0 T0
      by_cases hlt : j < 4
      · have S1 := Lib.hid N.out.1
        have T1 := Lib.hid N.out.2
        clear N
        obtain ⟨x, hx⟩ : ∃ x, x = decide (j % 2 = 1) := ⟨_, rfl⟩
        obtain ⟨y, hy⟩ : ∃ y, y = decide (1 < j) := ⟨_, rfl⟩
        have HIT := Lib.hid (fun hb => tried_hit T1.out hlt hb)
        have NEXT := Lib.hid (fun hb => tried_next T1.out hlt hb)
        rw [← hx, ← hy] at HIT NEXT
        have ex : ((((j : Int) % 2) == 1) : Bool) = x := by rw [hx]; apply Bool.eq_iff_iff.2; simp; omega
        have ey : decide ((1 : Int) < (j : Nat)) = y := by rw [hy]; apply Bool.eq_iff_iff.2; simp; omega
        have RMx := Lib.hid (fun w => RM.out x y w)
        clear hx hy RM
        go_upto_region 8 with fail
        have QP := Lib.hid (Array.getElem?_eq_some_iff.1 S1.out.1).1
        have S2 := Lib.hid (S1.out.on (below_alloc wr (.cells #[.bool x, .bool y, .int .u16 0, .int .u32 0] 31)))
        have F2 := Lib.hid (row_new wr (.cells #[.bool x, .bool y, .int .u16 0, .int .u32 0] 31) rfl)
        clear S1 T1 ex ey
        generalize wr.alloc (.cells #[.bool x, .bool y, .int .u16 0, .int .u32 0] 31) = w2 at *
        generalize wr.heap.size = p at *
        obtain ⟨⟨c0, c1, c2, c3⟩, _⟩ := row4 F2.out
        have BD : begins l x y = decide ((magicL x y).take n = l.take n) := by unfold begins; rw [← HN.out, M]
        have CQ := Lib.hid (show ∀ W', BytA W' a l → (convert 22 9 (.slice a n c)).run Tryd.prog W' = .ok (.string ⟨(l.take n).toArray⟩) W' from fun W' h => conv_bytes ((h.upto n).byt (by rw [List.length_take, ← HN.out]; omega) (by omega)).bytes)
        have LM := Lib.hid (show ((magicL x y).take n).length = n by rw [List.length_take, magicL_length]; omega)
        have d1 : n ≤ c := by omega
        have d2 : n ≤ 4 := by omega
        have d3 : ((4 : Int) ≤ (c : Nat)) = True ∨ c < 4 := by
          by_cases h : 4 ≤ c
          · left; simp; omega
          · right; omega
        obtain ⟨s0, hs0⟩ : ∃ s : ByteArray, s = ⟨(l.take n).toArray⟩ := ⟨_, rfl⟩
        rw [← hs0] at CQ
        refine wp_region_held_drew (S := fun W' => (W'.cell? ⟨p, 0, none⟩ = some (.bool x) ∧ W'.cell? ⟨p, 1, none⟩ = some (.bool y)) ∧ BytA W' a l) (by kernel_rfl) ⟨⟨c0, c1⟩, (HA.out.on (S2.out.2.trans (Below.mono (Below.refl _ _).drew S2.out.2.size)))⟩ (fun hHeld => ?_)
        refine wpAnyH_take (i := 0) (v := .pointer (some ⟨p, 0, none⟩)) rfl (by kernel_rfl) (by kernel_rfl) (by kernel_rfl) (fun _ _ _ h => h) (Or.inl ⟨by rfl, ?_⟩) (by assumption) ?_
        · intro W' hS; go_simp
        (try simp only [Act.put])
        refine wpAnyH_take (i := 1) (v := .bool x) rfl (by kernel_rfl) (by kernel_rfl) (by kernel_rfl) (fun _ _ _ h => h) (Or.inl ⟨by rfl, ?_⟩) (by assumption) ?_
        · intro W' hS; have c := hS.1.1; go_simp
        (try simp only [Act.put])
        refine wpAnyH_take (i := 2) (v := .pointer (some ⟨p, 1, none⟩)) rfl (by kernel_rfl) (by kernel_rfl) (by kernel_rfl) (fun _ _ _ h => h) (Or.inl ⟨by rfl, ?_⟩) (by assumption) ?_
        · intro W' hS; go_simp
        (try simp only [Act.put])
        refine wpAnyH_take (i := 3) (v := .bool y) rfl (by kernel_rfl) (by kernel_rfl) (by kernel_rfl) (fun _ _ _ h => h) (Or.inl ⟨by rfl, ?_⟩) (by assumption) ?_
        · intro W' hS; have c := hS.1.2; go_simp
        (try simp only [Act.put])
        refine wpAnyH_take (i := 5) (v := .int .i64 n) rfl (by kernel_rfl) (by kernel_rfl) (by kernel_rfl) (fun _ _ _ h => h) (Or.inl ⟨by rfl, ?_⟩) (by assumption) ?_
        · intro W' hS; go_simp
        (try simp only [Act.put])
        refine wpAnyH_take (i := 8) (v := .slice a n c) rfl (by kernel_rfl) (by kernel_rfl) (by kernel_rfl) (fun _ _ _ h => h) (Or.inl ⟨by rfl, ?_⟩) (by assumption) ?_
        · intro W' hS; go_simp
        (try simp only [Act.put])
        refine wpAnyH_take (i := 9) (v := .int .i64 n) rfl (by kernel_rfl) (by kernel_rfl) (by kernel_rfl) (fun _ _ _ h => h) (Or.inl ⟨by rfl, ?_⟩) (by assumption) ?_
        · intro W' hS; go_simp
        (try simp only [Act.put])
        refine wpAnyH_take (i := 10) (v := .slice a n c) rfl (by kernel_rfl) (by kernel_rfl) (by kernel_rfl) (fun _ _ _ h => h) (Or.inl ⟨by rfl, ?_⟩) (by assumption) ?_
        · intro W' hS; go_simp
        (try simp only [Act.put])
        refine wpAnyH_take (i := 11) (v := .string s0) rfl (by kernel_rfl) (by kernel_rfl) (by kernel_rfl) (fun _ _ _ h => h) (Or.inl ⟨by rfl, ?_⟩) (by assumption) ?_
        · intro W' hS; have c := CQ.out W' hS.2; go_simp
        (try simp only [Act.put])
        refine wpAnyH_ready (rs := [4]) (by kernel_rfl) (by simp) ?_
        refine AllReadyH.cons rfl (fun K hK => ?_) AllReadyH.nil
        go_simp
        go_at_call 28
        refine (RMx.out _).mono ?_
        rintro e w3 ⟨g, rfl, hR, hg, hb0⟩
        have hb := Below.trans (Below.refl w2.heap.size _).drew (hb0.mono (by simp))
        have S3 := Lib.hid (S2.out.on hb)
        have F3 := Lib.hid (keepRow F2.out hb)
        have cv1 := conv_bytes ((hR.bytA.upto n).byt (n := n) (c := 4) LM.out.symm d2).bytes
        obtain ⟨⟨x0, x1, x2, x3⟩, _⟩ := row4 F3.out
        refine hK.out _ _ ⟨⟨x0, x1⟩, HA.out.on S3.out.2⟩ (fun hHeld => ?_)
        clear hK K
        (try simp only [Act.put])
        refine wpAnyH_take (i := 6) (v := .slice (some ⟨g, 0, none⟩) n 4) rfl (by kernel_rfl) (by kernel_rfl) (by kernel_rfl) (fun _ _ _ h => h) (Or.inl ⟨by rfl, ?_⟩) (by assumption) ?_
        · intro W' hS; go_simp
        (try simp only [Act.put])
        refine wpAnyH_ready (rs := [7]) (by kernel_rfl) (by simp) ?_
        refine AllReadyH.cons rfl (fun K hK => ?_) AllReadyH.nil
        go_simp
        refine hK.out _ _ hHeld (fun hHeld => ?_)
        clear hK K
        (try simp only [Act.put])
        refine wpAnyH_ready (rs := [12]) (by kernel_rfl) (by simp) ?_
        refine AllReadyH.cons rfl (fun K hK => ?_) AllReadyH.nil
        go_simp
        refine hK.out _ _ hHeld (fun hHeld => ?_)
        clear hK K hHeld
        (try simp only [Act.put])
        refine wpAnyH_done (by kernel_rfl) ?_ _
        all_goals
          have BQ : ((magicL x y).take n == l.take n) = begins l x y := by rw [BD]; apply Bool.eq_iff_iff.2; simp
          clear c0 c1 c2 c3 x0 x1 x2 x3 cv1 hR S2 F2 hb hb0 CQ BD hs0 LM RMx d3
          generalize ((magicL x y).take n == l.take n) = bq at *
          generalize (magicL x y).take n = s1 at *
          generalize l.take n = s2 at *
          cases hbq : bq with
          | false =>
            rw [hbq] at BQ
            have T4 := Lib.hid (NEXT.out BQ.symm)
            clear NEXT HIT BQ
            subst hbq
            go_wp2
            go_roundw
            case rel => exact ⟨j + 1, by omega, by go_num, Lib.hid ⟨S3.out, T4.out⟩⟩
            case measure => simp [intOf]; omega
          | true =>
            rw [hbq] at BQ
            have W := HIT.out BQ.symm
            clear NEXT HIT BQ
            subst hbq
            have E0 : openS l = if n < 24 then ((false, false, 0, 0), 121) else if gv l x 4 2 = 2 then ((x, y, gv l x 20 4 % 65536, gv l x 16 4), 0) else ((false, false, 0, 0), 125) := by unfold openS; rw [W, ← HN.out]
            clear W
            obtain ⟨⟨c0, c1, c2, c3⟩, f⟩ := row4 S3.out.1
            have f0 := f 0
            have f1 := f 1
            have f2 := f 2
            have f3 := f 3
            clear f
            by_cases hl : n < 24
            · rw [if_pos hl] at E0
              have e24 : decide ((n : Int) < 24) = true := by simp; omega
              go_wp2
              refine bodyPost_ret (v := fileV ((false, false, 0, 0), 121)) (by simp [results, Tryd.results9, go_sem, fileV, c0, c1, c2, c3]) rfl ⟨by rw [E0], ?_⟩
              have B2 := S3.out.2
              (repeat (first | (with_reducible exact Below.refl _ _) | (with_reducible assumption) | (with_reducible refine Below.drew ?_) | (with_reducible refine below_drewN ?_ _) | ((with_reducible refine Below.alloc ?_ ?_ _); rotate_left; (focus (first | (simp; done) | (simp; omega) | omega))) | ((with_reducible refine Below.setCell ?_ ?_ _); rotate_left; (focus (first | (simp; done) | (simp; omega) | omega))) | ((with_reducible refine Below.trans ?_ (Below.mono (by assumption) ?_)); rotate_left; (focus (first | (simp; done) | (simp; omega) | omega)))))
            · exfalso; omega
      · have ej : j = 4 := by omega
        subst ej
        have E0 : openS l = ((false, false, 0, 0), 120) := by unfold openS; rw [tried_none N.out.2]
        obtain ⟨⟨c0, c1, c2, c3⟩, f⟩ := row4 N.out.1.1
        have f0 := f 0
        have f1 := f 1
        have f2 := f 2
        have f3 := f 3
        clear f
        go_wp2
        refine bodyPost_ret (v := fileV ((false, false, 0, 0), 120)) (by simp [results, Tryd.results9, go_sem, fileV, c0, c1, c2, c3]) rfl ⟨by rw [E0], ?_⟩
        have B2 := N.out.1.2
        (repeat (first | (with_reducible exact Below.refl _ _) | (with_reducible assumption) | (with_reducible refine Below.drew ?_) | (with_reducible refine below_drewN ?_ _) | ((with_reducible refine Below.alloc ?_ ?_ _); rotate_left; (focus (first | (simp; done) | (simp; omega) | omega))) | ((with_reducible refine Below.setCell ?_ ?_ _); rotate_left; (focus (first | (simp; done) | (simp; omega) | omega))) | ((with_reducible refine Below.trans ?_ (Below.mono (by assumption) ?_)); rotate_left; (focus (first | (simp; done) | (simp; omega) | omega)))))
  · go_enter Tryd.func9, Tryd.ntmps9
    go_upto_region 1 with fail
    generalize hw0 : w.alloc (.cells _ 31 (0, 0)) = w0 at *
    clear hw0
    go_wp2
    go_loopw [5] (fun i wr => ∃ j : Nat, j ≤ 4 ∧ i = .int .i64 j ∧ Hid (KSt w wr (.cells #[.bool false, .bool false, .int .u16 0, .int .u32 0] 31 (0, 0)) ∧ Tried l j)) (fun i _ => 4 - (intOf i).toNat)
    case atStart => exact ⟨0, by omega, rfl, Lib.hid ⟨S0.out, T0.out⟩⟩
    case round =>
      obtain ⟨j, hj, rfl, N⟩ := hrel
      clear S0 T0
      by_cases hlt : j < 4
      · have S1 := Lib.hid N.out.1
        have T1 := Lib.hid N.out.2
        clear N
        obtain ⟨x, hx⟩ : ∃ x, x = decide (j % 2 = 1) := ⟨_, rfl⟩
        obtain ⟨y, hy⟩ : ∃ y, y = decide (1 < j) := ⟨_, rfl⟩
        have HIT := Lib.hid (fun hb => tried_hit T1.out hlt hb)
        have NEXT := Lib.hid (fun hb => tried_next T1.out hlt hb)
        rw [← hx, ← hy] at HIT NEXT
        have ex : ((((j : Int) % 2) == 1) : Bool) = x := by rw [hx]; apply Bool.eq_iff_iff.2; simp; omega
        have ey : decide ((1 : Int) < (j : Nat)) = y := by rw [hy]; apply Bool.eq_iff_iff.2; simp; omega
        have RMx := Lib.hid (fun w => RM.out x y w)
        clear hx hy RM
        go_upto_region 8 with fail
        have QP := Lib.hid (Array.getElem?_eq_some_iff.1 S1.out.1).1
        have S2 := Lib.hid (S1.out.on (below_alloc wr (.cells #[.bool x, .bool y, .int .u16 0, .int .u32 0] 31)))
        have F2 := Lib.hid (row_new wr (.cells #[.bool x, .bool y, .int .u16 0, .int .u32 0] 31) rfl)
        clear S1 T1 ex ey
        generalize wr.alloc (.cells #[.bool x, .bool y, .int .u16 0, .int .u32 0] 31) = w2 at *
        generalize wr.heap.size = p at *
        obtain ⟨⟨c0, c1, c2, c3⟩, _⟩ := row4 F2.out
        have BD : begins l x y = decide ((magicL x y).take 4 = l.take 4) := by unfold begins; rw [← HN.out, M]
        have CQ := Lib.hid (show ∀ W', BytA W' a l → (convert 22 9 (.slice a 4 c)).run Tryd.prog W' = .ok (.string ⟨(l.take 4).toArray⟩) W' from fun W' h => conv_bytes ((h.upto 4).byt (by rw [List.length_take, ← HN.out]; omega) (by omega)).bytes)
        have LM := Lib.hid (show ((magicL x y).take 4).length = 4 by rw [List.length_take, magicL_length]; omega)
        have d1 : 4 ≤ c := by omega
        have d2 : 4 ≤ 4 := by omega
        have d3 : ((4 : Int) ≤ (c : Nat)) = True ∨ c < 4 := by
          by_cases h : 4 ≤ c
          · left; simp; omega
          · right; omega
        obtain ⟨s0, hs0⟩ : ∃ s : ByteArray, s = ⟨(l.take 4).toArray⟩ := ⟨_, rfl⟩
        rw [← hs0] at CQ
        refine wp_region_held_drew (S := fun W' => (W'.cell? ⟨p, 0, none⟩ = some (.bool x) ∧ W'.cell? ⟨p, 1, none⟩ = some (.bool y)) ∧ BytA W' a l) (by kernel_rfl) ⟨⟨c0, c1⟩, (HA.out.on (S2.out.2.trans (Below.mono (Below.refl _ _).drew S2.out.2.size)))⟩ (fun hHeld => ?_)
        refine wpAnyH_take (i := 0) (v := .pointer (some ⟨p, 0, none⟩)) rfl (by kernel_rfl) (by kernel_rfl) (by kernel_rfl) (fun _ _ _ h => h) (Or.inl ⟨by rfl, ?_⟩) (by assumption) ?_
        · intro W' hS; go_simp
        (try simp only [Act.put])
        refine wpAnyH_take (i := 1) (v := .bool x) rfl (by kernel_rfl) (by kernel_rfl) (by kernel_rfl) (fun _ _ _ h => h) (Or.inl ⟨by rfl, ?_⟩) (by assumption) ?_
        · intro W' hS; have c := hS.1.1; go_simp
        (try simp only [Act.put])
        refine wpAnyH_take (i := 2) (v := .pointer (some ⟨p, 1, none⟩)) rfl (by kernel_rfl) (by kernel_rfl) (by kernel_rfl) (fun _ _ _ h => h) (Or.inl ⟨by rfl, ?_⟩) (by assumption) ?_
        · intro W' hS; go_simp
        (try simp only [Act.put])
        refine wpAnyH_take (i := 3) (v := .bool y) rfl (by kernel_rfl) (by kernel_rfl) (by kernel_rfl) (fun _ _ _ h => h) (Or.inl ⟨by rfl, ?_⟩) (by assumption) ?_
        · intro W' hS; have c := hS.1.2; go_simp
        (try simp only [Act.put])
        refine wpAnyH_take (i := 5) (v := .int .i64 4) rfl (by kernel_rfl) (by kernel_rfl) (by kernel_rfl) (fun _ _ _ h => h) (Or.inl ⟨by rfl, ?_⟩) (by assumption) ?_
        · intro W' hS; go_simp
        (try simp only [Act.put])
        refine wpAnyH_take (i := 8) (v := .slice a n c) rfl (by kernel_rfl) (by kernel_rfl) (by kernel_rfl) (fun _ _ _ h => h) (Or.inl ⟨by rfl, ?_⟩) (by assumption) ?_
        · intro W' hS; go_simp
        (try simp only [Act.put])
        refine wpAnyH_take (i := 9) (v := .int .i64 4) rfl (by kernel_rfl) (by kernel_rfl) (by kernel_rfl) (fun _ _ _ h => h) (Or.inl ⟨by rfl, ?_⟩) (by assumption) ?_
        · intro W' hS; go_simp
        (try simp only [Act.put])
        refine wpAnyH_take (i := 10) (v := .slice a 4 c) rfl (by kernel_rfl) (by kernel_rfl) (by kernel_rfl) (fun _ _ _ h => h) (Or.inl ⟨by rfl, ?_⟩) (by assumption) ?_
        · intro W' hS; go_simp; intro h; exact absurd h (by omega)
        (try simp only [Act.put])
        refine wpAnyH_take (i := 11) (v := .string s0) rfl (by kernel_rfl) (by kernel_rfl) (by kernel_rfl) (fun _ _ _ h => h) (Or.inl ⟨by rfl, ?_⟩) (by assumption) ?_
        · intro W' hS; have c := CQ.out W' hS.2; go_simp
        (try simp only [Act.put])
        refine wpAnyH_ready (rs := [4]) (by kernel_rfl) (by simp) ?_
        refine AllReadyH.cons rfl (fun K hK => ?_) AllReadyH.nil
        go_simp
        go_at_call 28
        refine (RMx.out _).mono ?_
        rintro e w3 ⟨g, rfl, hR, hg, hb0⟩
        have hb := Below.trans (Below.refl w2.heap.size _).drew (hb0.mono (by simp))
        have S3 := Lib.hid (S2.out.on hb)
        have F3 := Lib.hid (keepRow F2.out hb)
        have cv1 := conv_bytes ((hR.bytA.upto 4).byt (n := 4) (c := 4) LM.out.symm d2).bytes
        obtain ⟨⟨x0, x1, x2, x3⟩, _⟩ := row4 F3.out
        refine hK.out _ _ ⟨⟨x0, x1⟩, HA.out.on S3.out.2⟩ (fun hHeld => ?_)
        clear hK K
        (try simp only [Act.put])
        refine wpAnyH_take (i := 6) (v := .slice (some ⟨g, 0, none⟩) 4 4) rfl (by kernel_rfl) (by kernel_rfl) (by kernel_rfl) (fun _ _ _ h => h) (Or.inl ⟨by rfl, ?_⟩) (by assumption) ?_
        · intro W' hS; go_simp
        (try simp only [Act.put])
        refine wpAnyH_ready (rs := [7]) (by kernel_rfl) (by simp) ?_
        refine AllReadyH.cons rfl (fun K hK => ?_) AllReadyH.nil
        go_simp
        refine hK.out _ _ hHeld (fun hHeld => ?_)
        clear hK K
        (try simp only [Act.put])
        refine wpAnyH_ready (rs := [12]) (by kernel_rfl) (by simp) ?_
        refine AllReadyH.cons rfl (fun K hK => ?_) AllReadyH.nil
        go_simp
        refine hK.out _ _ hHeld (fun hHeld => ?_)
        clear hK K hHeld
        (try simp only [Act.put])
        refine wpAnyH_done (by kernel_rfl) ?_ _
        all_goals
          have BQ : ((magicL x y).take 4 == l.take 4) = begins l x y := by rw [BD]; apply Bool.eq_iff_iff.2; simp
          clear c0 c1 c2 c3 x0 x1 x2 x3 cv1 hR S2 F2 hb hb0 CQ BD hs0 LM RMx d3
          generalize ((magicL x y).take 4 == l.take 4) = bq at *
          generalize (magicL x y).take 4 = s1 at *
          generalize l.take 4 = s2 at *
          cases hbq : bq with
          | false =>
            rw [hbq] at BQ
            have T4 := Lib.hid (NEXT.out BQ.symm)
            clear NEXT HIT BQ
            subst hbq
            go_wp2
            go_roundw
            case rel => exact ⟨j + 1, by omega, by go_num, Lib.hid ⟨S3.out, T4.out⟩⟩
            case measure => simp [intOf]; omega
          | true =>
            rw [hbq] at BQ
            have W := HIT.out BQ.symm
            clear NEXT HIT BQ
            subst hbq
            have E0 : openS l = if n < 24 then ((false, false, 0, 0), 121) else if gv l x 4 2 = 2 then ((x, y, gv l x 20 4 % 65536, gv l x 16 4), 0) else ((false, false, 0, 0), 125) := by unfold openS; rw [W, ← HN.out]
            clear W
            obtain ⟨⟨c0, c1, c2, c3⟩, f⟩ := row4 S3.out.1
            have f0 := f 0
            have f1 := f 1
            have f2 := f 2
            have f3 := f 3
            clear f
            by_cases hl : n < 24
            · rw [if_pos hl] at E0
              have e24 : decide ((n : Int) < 24) = true := by simp; omega
              go_wp2
              refine bodyPost_ret (v := fileV ((false, false, 0, 0), 121)) (by simp [results, Tryd.results9, go_sem, fileV, c0, c1, c2, c3]) rfl ⟨by rw [E0], ?_⟩
              have B2 := S3.out.2
              (repeat (first | (with_reducible exact Below.refl _ _) | (with_reducible assumption) | (with_reducible refine Below.drew ?_) | (with_reducible refine below_drewN ?_ _) | ((with_reducible refine Below.alloc ?_ ?_ _); rotate_left; (focus (first | (simp; done) | (simp; omega) | omega))) | ((with_reducible refine Below.setCell ?_ ?_ _); rotate_left; (focus (first | (simp; done) | (simp; omega) | omega))) | ((with_reducible refine Below.trans ?_ (Below.mono (by assumption) ?_)); rotate_left; (focus (first | (simp; done) | (simp; omega) | omega)))))
            · rw [if_neg hl] at E0
              have e24 : decide ((n : Int) < 24) = false := by simp; omega
              have U2 := Lib.hid (fun w hB => G.out x 4 2 (by omega) (by omega) w hB)
              have UA := Lib.hid (fun w hB => G.out x 16 4 (by omega) (by omega) w hB)
              have UB := Lib.hid (fun w hB => G.out x 20 4 (by omega) (by omega) w hB)
              have bd1 := gv_u32 l x 16
              have bd2 := gv_u32 l x 20
              clear G
              generalize gv l x 4 2 = m1 at *
              generalize gv l x 16 4 = m2 at *
              generalize gv l x 20 4 = m3 at *
              generalize gok n 4 2 = k1 at *
              generalize gok n 16 4 = k2 at *
              generalize gok n 20 4 = k3 at *
              have wv : IntKind.u32.wrap (m2 : Int) = (m2 : Int) := by rw [IntKind.wrap_u32]; omega
              have wz : IntKind.u16.wrap ((m3 : Int) % 65536) = ((m3 % 65536 : Nat) : Int) := by rw [IntKind.wrap_u16]; omega
              generalize m3 % 65536 = z at *
              obtain ⟨⟨x0, x1, x2, x3⟩, f⟩ := row4 F3.out
              have h2 := f 2
              have h3 := f 3
              clear f
              go_wp2_with fail
              refine (U2.out _ (HA.out.on S3.out.2)).mono ?_
              rintro e w4 ⟨rfl, rfl⟩
              go_wp2_with fail
              refine (UA.out _ (HA.out.on S3.out.2)).mono ?_
              rintro e w4 ⟨rfl, rfl⟩
              go_wp2_with fail
              refine (UB.out _ (HA.out.on S3.out.2)).mono ?_
              rintro e w4 ⟨rfl, rfl⟩
              go_upto_region 14 with fail
              by_cases hm : m1 = 2
              · rw [if_pos hm] at E0
                have d : (((m1 : Int) != 2) : Bool) = false := by simp; omega
                have P1 := QP.out
                have ne1 : (p = w.heap.size) = False := by simp; omega
                have ne2 : (w.heap.size = p) = False := by simp; omega
                clear hm
                go_upto_region 18 with fail
                have S4 := Lib.hid ((S3.out.far (q := p) P1 3 (.int .u32 (m2 : Nat))).far (q := p) P1 2 (.int .u16 (z : Nat)))
                have F4 := Lib.hid (show ((w3.setCell ⟨p, 3, none⟩ (.int .u32 (m2 : Nat))).setCell ⟨p, 2, none⟩ (.int .u16 (z : Nat))).heap[p]? = some (.cells #[.bool x, .bool y, .int .u16 (z : Nat), .int .u32 (m2 : Nat)] 31 (0, 0)) from heap_setCell_same _ _ 2 _ _ _ (heap_setCell_same _ _ 3 _ _ _ F3.out))
                clear S3 F3 c0 c1 c2 c3 f0 f1 f2 f3 x0 x1 x2 x3 h2 h3 ne1 ne2
                generalize (w3.setCell ⟨p, 3, none⟩ (.int .u32 (m2 : Nat))).setCell ⟨p, 2, none⟩ (.int .u16 (z : Nat)) = w5 at *
                obtain ⟨⟨x0, x1, x2, x3⟩, _⟩ := row4 F4.out
                obtain ⟨⟨c0, c1, c2, c3⟩, f⟩ := row4 S4.out.1
                have f0 := f 0
                have f1 := f 1
                have f2 := f 2
                have f3 := f 3
                clear f
                go_wp2
                refine bodyPost_ret (v := fileV ((x, y, z, m2), 0)) (by simp [results, Tryd.results9, go_sem, fileV, c0, c1, c2, c3]) rfl ⟨by rw [E0], ?_⟩
                have B2 := S4.out.2
                (repeat (first | (with_reducible exact Below.refl _ _) | (with_reducible assumption) | (with_reducible refine Below.drew ?_) | (with_reducible refine below_drewN ?_ _) | ((with_reducible refine Below.alloc ?_ ?_ _); rotate_left; (focus (first | (simp; done) | (simp; omega) | omega))) | ((with_reducible refine Below.setCell ?_ ?_ _); rotate_left; (focus (first | (simp; done) | (simp; omega) | omega))) | ((with_reducible refine Below.trans ?_ (Below.mono (by assumption) ?_)); rotate_left; (focus (first | (simp; done) | (simp; omega) | omega)))))
              · rw [if_neg hm] at E0
                have d : (((m1 : Int) != 2) : Bool) = true := by simp; omega
                clear hm
                go_wp2
                refine bodyPost_ret (v := fileV ((false, false, 0, 0), 125)) (by simp [results, Tryd.results9, go_sem, fileV, c0, c1, c2, c3]) rfl ⟨by rw [E0], ?_⟩
                have B2 := S3.out.2
                (repeat (first | (with_reducible exact Below.refl _ _) | (with_reducible assumption) | (with_reducible refine Below.drew ?_) | (with_reducible refine below_drewN ?_ _) | ((with_reducible refine Below.alloc ?_ ?_ _); rotate_left; (focus (first | (simp; done) | (simp; omega) | omega))) | ((with_reducible refine Below.setCell ?_ ?_ _); rotate_left; (focus (first | (simp; done) | (simp; omega) | omega))) | ((with_reducible refine Below.trans ?_ (Below.mono (by assumption) ?_)); rotate_left; (focus (first | (simp; done) | (simp; omega) | omega)))))
      · have ej : j = 4 := by omega
        subst ej
        have E0 : openS l = ((false, false, 0, 0), 120) := by unfold openS; rw [tried_none N.out.2]
        obtain ⟨⟨c0, c1, c2, c3⟩, f⟩ := row4 N.out.1.1
        have f0 := f 0
        have f1 := f 1
        have f2 := f 2
        have f3 := f 3
        clear f
        go_wp2
        refine bodyPost_ret (v := fileV ((false, false, 0, 0), 120)) (by simp [results, Tryd.results9, go_sem, fileV, c0, c1, c2, c3]) rfl ⟨by rw [E0], ?_⟩
        have B2 := N.out.1.2
        (repeat (first | (with_reducible exact Below.refl _ _) | (with_reducible assumption) | (with_reducible refine Below.drew ?_) | (with_reducible refine below_drewN ?_ _) | ((with_reducible refine Below.alloc ?_ ?_ _); rotate_left; (focus (first | (simp; done) | (simp; omega) | omega))) | ((with_reducible refine Below.setCell ?_ ?_ _); rotate_left; (focus (first | (simp; done) | (simp; omega) | omega))) | ((with_reducible refine Below.trans ?_ (Below.mono (by assumption) ?_)); rotate_left; (focus (first | (simp; done) | (simp; omega) | omega)))))
end Go.Proofs.YthmkfkmcamjnoaaDoor
