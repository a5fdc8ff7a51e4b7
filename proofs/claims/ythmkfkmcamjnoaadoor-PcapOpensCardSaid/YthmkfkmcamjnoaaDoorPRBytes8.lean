/-
  The document's answers of layer 8: magic, Bytes (horologeref08).
-/
import Derived.Test.YthmkfkmcamjnoaaDoorPBytes8
import Derived.Test.YthmkfkmcamjnoaaDoorORef7
import Derived.Test.YthmkfkmcamjnoaaDoorOctF
namespace Go.Proofs.YthmkfkmcamjnoaaDoor
open Go.RowKit Go.Sort
set_option maxRecDepth 8000
theorem RowB.on {w w' : World} {g : Nat} {L : List UInt8} (h : RowB w g L) (hb : Below w.heap.size w w') : RowB w' g L := keepRow h hb
theorem RowB.lt {w : World} {g : Nat} {L : List UInt8} (h : RowB w g L) : g < w.heap.size := (Array.getElem?_eq_some_iff.1 h).1
/-- A row that a call has made is the caller's own. -/
theorem RowB.own {W w : World} {g n : Nat} {L : List UInt8} (h : RowB w g L) (hb : Below W.heap.size W w) (hg : W.heap.size ≤ g) (hn : n = L.length) (hz : L.length ≤ 140737488355328) : OwnB W w L (.slice (some ⟨g, 0, none⟩) n n) :=
  own_spliced hn hn (by
    have e : splice (List.replicate n (Value.int .u8 0)) 0 (cellsOf L) = cellsOf L := by
      subst hn; simp [splice, cellsOf_length]
    rw [e]; exact h) hb hg (Nat.le_refl _) (by omega)
set_option maxHeartbeats 1000000 in
theorem r_magic (a b : Bool) (w : World) : Calls Tryd.prog 28 #[.bool a, .bool b] w (RPutG w (magicL a b) 4) := by
  have P := Lib.hid (fun w => r_putG (magN b) a 4 (by omega) (by cases b <;> simp [magN]) w)
  unfold magicL
  cases b
  all_goals
    unfold magN at P ⊢
    simp only [Bool.false_eq_true, if_false, if_true] at P ⊢
    go_enter Tryd.func28, Tryd.ntmps28
    go_wp2_with (go_at_call 31; refine (P.out _).mono ?_; rintro e w1 ⟨g, rfl, hR, hg, hb⟩)
    go_ret
    exact ⟨g, rfl, hR, hg, hb⟩
set_option maxHeartbeats 4000000 in
theorem r_bytes (a b : Bool) (k s : Nat) (hk : k < 65536) (hs : s < 4294967296) (w : World) :
    Calls Tryd.prog 11 #[(.agg #[.bool a, .bool b, .int .u16 k, .int .u32 s])] w (BytOut w (bytesS a b k s)) := by
  have P1 := Lib.hid (fun w => r_magic a b w)
  have P2 := Lib.hid (fun w => r_putG 2 a 2 (by omega) (by omega) w)
  have P3 := Lib.hid (fun w => r_putG 4 a 2 (by omega) (by omega) w)
  have P4 := Lib.hid (fun w => r_putG s a 4 (by omega) (by omega) w)
  have P5 := Lib.hid (fun w => r_putG k a 4 (by omega) (by omega) w)
  have cs : IntKind.u64.wrap (s : Int) = (s : Int) := wrap_small s (by omega)
  have ck : IntKind.u64.wrap (k : Int) = (k : Int) := wrap_small k (by omega)
  have L0 : (magicL a b).length = 4 := magicL_length a b
  have LP : ∀ n m, (ord a (lowB n m)).length = m := fun n m => by rw [ord_length, low_length]
  have S0 := Lib.hid (KSt.new w (.cells #[.bool a, .bool b, .int .u16 k, .int .u32 s] 31 (0, 0)))
  go_enter Tryd.func11, Tryd.ntmps11
  go_upto_region 1 with fail
  generalize hw0 : w.alloc (.cells _ 31 (0, 0)) = w0 at *
  clear hw0
  obtain ⟨⟨c0, c1, c2, c3⟩, _⟩ := row4 S0.out.1
  go_upto_region 2 with (go_at_call 28; refine (P1.out _).mono ?_; rintro e w1 ⟨g, rfl, hR, hg, hb⟩; have S1 := Lib.hid (S0.out.on hb); have O1 := Lib.hid (hR.own hb hg L0.symm (by omega)); clear hb hR c0 c1 c2 c3)
  obtain ⟨⟨c0, c1, c2, c3⟩, _⟩ := row4 S1.out.1
  go_wp2_with fail
  refine (P2.out _).mono ?_
  rintro e m2 ⟨g2, rfl, hR, _, hb⟩
  have Q2 := Lib.hid (O1.out.on hb)
  have R2 := Lib.hid hR
  clear hb hR O1 c0 c1 c2 c3
  go_wp2_with (at_builtin; refine wp_append_bytes rfl (.tmp 9) (.tmp 12) rfl w0 m2 _ _ rfl Q2.out (some ⟨g2, 0, none⟩) _ 2 2 (LP _ _).symm rfl R2.out.bytA (by simp [L0, LP]) ?_)
  intro v2 w2 hO
  have O2 := Lib.hid hO
  have S2 := Lib.hid (S0.out.on hO.below)
  obtain ⟨a2, n2, d2, rfl⟩ := hO.slice
  clear hO Q2 R2
  obtain ⟨⟨c0, c1, c2, c3⟩, _⟩ := row4 S2.out.1
  go_wp2_with fail
  refine (P3.out _).mono ?_
  rintro e m3 ⟨g3, rfl, hR, _, hb⟩
  have Q3 := Lib.hid (O2.out.on hb)
  have R3 := Lib.hid hR
  clear hb hR O2 c0 c1 c2 c3
  go_wp2_with (at_builtin; refine wp_append_bytes rfl (.tmp 14) (.tmp 17) rfl w0 m3 _ _ rfl Q3.out (some ⟨g3, 0, none⟩) _ 2 2 (LP _ _).symm rfl R3.out.bytA (by simp [L0, LP]) ?_)
  intro v3 w3 hO
  have O3 := Lib.hid hO
  have S3 := Lib.hid (S0.out.on hO.below)
  obtain ⟨a3, n3, d3, rfl⟩ := hO.slice
  clear hO Q3 R3
  obtain ⟨⟨c0, c1, c2, c3⟩, _⟩ := row4 S3.out.1
  clear c0 c1 c2 c3
  go_wp2_with (at_builtin; refine wp_append_bytes rfl (.tmp 19) (.tmp 20) rfl w0 _ _ _ rfl (O3.out.on (below_alloc w3 (.cells #[.int .u8 0, .int .u8 0, .int .u8 0, .int .u8 0, .int .u8 0, .int .u8 0, .int .u8 0, .int .u8 0] 5))) (some ⟨w3.heap.size, 0, none⟩) (List.replicate 8 0) 8 8 rfl rfl (RowB.new w3 (List.replicate 8 0) rfl).bytA (by simp [L0, LP]) ?_)
  intro v4 w4 hO
  have O4 := Lib.hid hO
  have S4 := Lib.hid (S0.out.on hO.below)
  obtain ⟨a4, n4, d4, rfl⟩ := hO.slice
  clear hO O3
  obtain ⟨⟨c0, c1, c2, c3⟩, _⟩ := row4 S4.out.1
  go_wp2_with fail
  refine (P4.out _).mono ?_
  rintro e m5 ⟨g5, rfl, hR, _, hb⟩
  have Q5 := Lib.hid (O4.out.on hb)
  have R5 := Lib.hid hR
  clear hb hR O4 c0 c1 c2 c3
  go_wp2_with (at_builtin; refine wp_append_bytes rfl (.tmp 22) (.tmp 28) rfl w0 m5 _ _ rfl Q5.out (some ⟨g5, 0, none⟩) _ 4 4 (LP _ _).symm rfl R5.out.bytA (by simp [L0, LP]) ?_)
  intro v5 w5 hO
  have O5 := Lib.hid hO
  have S5 := Lib.hid (S0.out.on hO.below)
  obtain ⟨a5, n5, d5, rfl⟩ := hO.slice
  clear hO Q5 R5
  obtain ⟨⟨c0, c1, c2, c3⟩, _⟩ := row4 S5.out.1
  go_wp2_with fail
  refine (P5.out _).mono ?_
  rintro e m6 ⟨g6, rfl, hR, _, hb⟩
  have Q6 := Lib.hid (O5.out.on hb)
  have R6 := Lib.hid hR
  clear hb hR O5 c0 c1 c2 c3
  go_wp2_with (at_builtin; refine wp_append_bytes rfl (.tmp 30) (.tmp 36) rfl w0 m6 _ _ rfl Q6.out (some ⟨g6, 0, none⟩) _ 4 4 (LP _ _).symm rfl R6.out.bytA (by simp [L0, LP]) ?_)
  intro v6 w6 hO
  have O6 := Lib.hid hO
  have S6 := Lib.hid (S0.out.on hO.below)
  obtain ⟨a6, n6, d6, rfl⟩ := hO.slice
  clear hO Q6 R6
  obtain ⟨⟨c0, c1, c2, c3⟩, _⟩ := row4 S6.out.1
  go_wp2
  go_ret
  refine ⟨_, rfl, ?_, S6.out.2⟩
  have := O6.out.byt
  have e : bytesS a b k s = magicL a b ++ (ord a (lowB 2 2) ++ (ord a (lowB 4 2) ++ 0 :: 0 :: 0 :: 0 :: 0 :: 0 :: 0 :: 0 :: (ord a (lowB s 4) ++ ord a (lowB k 4)))) := by
    unfold bytesS
    simp only [List.append_assoc]
    rfl
  rw [e]
  exact this
end Go.Proofs.YthmkfkmcamjnoaaDoor
