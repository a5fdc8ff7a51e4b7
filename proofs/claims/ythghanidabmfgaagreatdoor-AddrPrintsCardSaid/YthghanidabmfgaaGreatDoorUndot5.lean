/-
  undot: an end that is an IPv4 address, as two groups.
-/
import Derived.Test.YthghanidabmfgaaGreatDoorFour5
namespace Go.Proofs.YthghanidabmfgaaGreatDoor
open Go.RowKit Go.Sort
set_option maxRecDepth 8000
theorem ext_head (s : ByteArray) : s.extract 0 (headW s.data.toList).length = str (headW s.data.toList) := by
  refine bytes_eq ?_
  have e := (head_last s.data.toList).1
  rw [str_list, show (s.extract 0 (headW s.data.toList).length).data.toList = (s.data.toList.take (headW s.data.toList).length).drop 0 by simp]
  generalize headW s.data.toList = H at *
  rw [← e]
  simp
theorem ext_last (s : ByteArray) : s.extract (headW s.data.toList).length s.size = str (lastW s.data.toList) := by
  refine bytes_eq ?_
  have e := (head_last s.data.toList).1
  rw [str_list, show (s.extract (headW s.data.toList).length s.size).data.toList = (s.data.toList.take s.size).drop (headW s.data.toList).length by simp [List.drop_take], List.take_of_length_le (by rw [len_list]; exact Nat.le_refl _)]
  generalize headW s.data.toList = H at *
  generalize lastW s.data.toList = T at *
  rw [← e]
  simp
theorem tells_four (l : List UInt8) (hl : l.length ≤ 4000) : Tells 27 #[.string (str l)] (p4V l) := fun w hw => by
  have := t_parse4 (str l) (by rw [str_size]; exact hl) w hw
  rwa [str_list] at this
theorem head_le (s : ByteArray) : (headW s.data.toList).length ≤ s.size := by
  have e := congrArg List.length (head_last s.data.toList).1
  rw [List.length_append, len_list] at e
  omega
theorem last_le (s : ByteArray) : (str (lastW s.data.toList)).size ≤ s.size := by
  have e := congrArg List.length (head_last s.data.toList).1
  rw [List.length_append, len_list] at e
  rw [str_size]; omega
def two8 (a b : Int) : List UInt8 := [UInt8.ofNat a.toNat, UInt8.ofNat b.toNat]
theorem hex_two {a b : Int} (ha : Byte a) (hb : Byte b) : hexL (two8 a b) = h4 a b := by
  unfold Byte at *
  have e : ∀ x : Int, 0 ≤ x → x ≤ 255 → (UInt8.ofNat x.toNat).toNat = x.toNat := fun x h0 h1 => by simp only [UInt8.toNat_ofNat']; omega
  unfold hexL two8 h4
  simp only [List.flatMap_cons, List.flatMap_nil, e a ha.1 ha.2, e b hb.1 hb.2, List.append_nil]
  rfl
theorem bytes_two {w : World} {g o c : Nat} {a b : Int} (ha : Byte a) (hb : Byte b) (hg : g < w.heap.size) (h1 : w.cell? ⟨g, o, none⟩ = some (.int .u8 a)) (h2 : w.cell? ⟨g, o + 1, none⟩ = some (.int .u8 b)) : Bytes w (.slice (some ⟨g, o, none⟩) 2 c) (two8 a b) := by
  unfold Byte at *
  refine ⟨_, c, rfl, Or.inr ⟨g, o, rfl, hg, fun j hj => ?_⟩⟩
  have hj' : j = 0 ∨ j = 1 := by simp [two8] at hj; omega
  rcases hj' with rfl | rfl
  · rw [Nat.add_zero, h1]
    simp only [two8, List.getElem_cons_zero, UInt8.toNat_ofNat']
    congr 2; omega
  · rw [h2]
    simp only [two8, List.getElem_cons_succ, List.getElem_cons_zero, UInt8.toNat_ofNat']
    congr 2; omega
/-- A row is stored into a variable that is new. -/
theorem st_new4 {b : List Int} (hl : b.length = 4) (W : World) : (Instr.storeAt 57 (.pointer (some ⟨W.heap.size, 0, none⟩)) (.agg (u8C b))).run Tryz.prog (W.alloc (.cells #[.int .u8 0, .int .u8 0, .int .u8 0, .int .u8 0] 57)) = .ok () ((W.alloc (.cells #[.int .u8 0, .int .u8 0, .int .u8 0, .int .u8 0] 57)).setRow W.heap.size (u8C b)) :=
  st_row 57 (Blk.new _ _ _ rfl) (by rw [inf4, u8C_size, hl]) (by rw [u8C_size, hl]; rfl) (u8C_ok _)
theorem blk_new4 {b : List Int} {w W : World} (h : Below w.heap.size w W) : Blk ((W.alloc (.cells #[.int .u8 0, .int .u8 0, .int .u8 0, .int .u8 0] 57)).setRow W.heap.size (u8C b)) W.heap.size 57 (u8C b) ∧ Below w.heap.size w ((W.alloc (.cells #[.int .u8 0, .int .u8 0, .int .u8 0, .int .u8 0] 57)).setRow W.heap.size (u8C b)) :=
  ⟨(Blk.new _ _ _ rfl).row _, below_setRow (h.alloc h.size _) h.size _⟩
set_option maxHeartbeats 2000000 in
theorem t_undot (s : ByteArray) (hs : s.size ≤ 1000) (w : World) (hw : Env5 w) : Calls Tryz.prog 51 #[.string s] w fun e w' => e = .returned (.string (str (und6 s.data.toList))) ∧ Below w.heap.size w w' := by
  have G := Lib.hid hw
  have LI := Lib.hid (fun w => c_last s (by omega) w)
  have P4 := Lib.hid (tells_four (lastW s.data.toList) (by have := last_le s; rw [str_size] at this; omega))
  have x1 := ext_head s
  have x2 := ext_last s
  have x3 := head_le s
  obtain ⟨r, hr⟩ : ∃ r, r = str (und6 s.data.toList) := ⟨_, rfl⟩
  rw [← hr]
  cases hp : p4 (lastW s.data.toList) with
  | none =>
    have E := Lib.hid (show r = s by rw [hr]; unfold und6; rw [hp]; exact str_eq5 s)
    have P4 := Lib.hid (P4.out.as rfl (p4V_none hp))
    generalize str (headW s.data.toList) = sh at *
    generalize str (lastW s.data.toList) = sl at *
    generalize (headW s.data.toList).length = n at *
    clear hw hr
    go_enter Tryz.func51, Tryz.ntmps51
    go_upto_region 2 with (go_at_call 33; refine (LI.out _).mono ?_; rintro q w1 ⟨rfl, hb⟩; have S1 := Lib.hid hb; clear hb)
    go_wp2_with (first
      | (go_at_call 27; refine (P4.out _ (G.out.below S1.out)).mono ?_; rintro q w2 ⟨rfl, hb⟩; have S2 := Lib.hid (S1.out.trans (hb.mono S1.out.size)); clear hb)
      | (refine wl_store rfl _ _ _ rfl _ rfl _ rfl _ (st_new4 (b := n4) rfl _) ?_; have S3 := Lib.hid (blk_new4 (b := n4) S2.out).2))
    rw [E.out]
    go_ret
    exact ⟨rfl, S3.out⟩
  | some b =>
    obtain ⟨hl, hb, _⟩ := p4_some hp
    have P4 := Lib.hid (P4.out.as rfl (p4V_some hp))
    have E := Lib.hid (show r = str (headW s.data.toList ++ h8 b) by rw [hr]; unfold und6; rw [hp])
    match b, hl, hb, P4, E with
    | [a, b, c, d], hl, hb, P4, E =>
      have ha := hb a (by simp)
      have hb' := hb b (by simp)
      have hc := hb c (by simp)
      have hd := hb d (by simp)
      have E2 := Lib.hid (show r = str (headW s.data.toList) ++ str (h4 a b) ++ ⟨#[58]⟩ ++ str (h4 c d) by rw [E.out]; exact bytes_eq (by simp [str, h8]))
      have X1 := Lib.hid (fun g cp W (h : Blk W g 57 (u8C [a, b, c, d])) => t_hex (two8 a b) (by simp [two8]) (.slice (some ⟨g, 0, none⟩) 2 cp) W (bytes_two ha hb' h.lt (h.cell rfl) (h.cell rfl)))
      have X2 := Lib.hid (fun g cp W (h : Blk W g 57 (u8C [a, b, c, d])) => t_hex (two8 c d) (by simp [two8]) (.slice (some ⟨g, 2, none⟩) 2 cp) W (bytes_two hc hd h.lt (h.cell rfl) (h.cell rfl)))
      rw [hex_two ha hb'] at X1
      rw [hex_two hc hd] at X2
      have k1 : (str (h4 a b)).size = 4 := by rw [str_size]; rfl
      have k2 : (str (h4 c d)).size = 4 := by rw [str_size]; rfl
      have k3 : (str (headW s.data.toList)).size ≤ 1000 := by rw [str_size]; omega
      rw [show (⟨(h4 a b).toArray⟩ : ByteArray) = str (h4 a b) from rfl] at X1
      rw [show (⟨(h4 c d).toArray⟩ : ByteArray) = str (h4 c d) from rfl] at X2
      generalize str (h4 a b) = s1 at *
      generalize str (h4 c d) = s2 at *
      generalize str (headW s.data.toList) = sh at *
      generalize str (lastW s.data.toList) = sl at *
      generalize (headW s.data.toList).length = n at *
      have hl4 : [a, b, c, d].length = 4 := rfl
      clear hw hr hb ha hb' hc hd hp hl
      generalize [a, b, c, d] = B at *
      go_enter Tryz.func51, Tryz.ntmps51
      go_upto_region 2 with (go_at_call 33; refine (LI.out _).mono ?_; rintro q w1 ⟨rfl, hb⟩; have S1 := Lib.hid hb; clear hb)
      go_upto_region 5 with (first
        | (go_at_call 27; refine (P4.out _ (G.out.below S1.out)).mono ?_; rintro q w2 ⟨rfl, hb⟩; have S2 := Lib.hid (S1.out.trans (hb.mono S1.out.size)); clear hb)
        | (refine wl_store rfl _ _ _ rfl _ rfl (.agg (u8C B)) rfl _ (st_new4 (b := B) hl4 w2) ?_; have S3 := Lib.hid (blk_new4 (b := B) S2.out)))
      generalize (w2.alloc (.cells #[.int .u8 0, .int .u8 0, .int .u8 0, .int .u8 0] 57)).setRow w2.heap.size (u8C B) = w3 at *
      have Y1 := Lib.hid (fun d os => Calls.regrown_of (X1.out w2.heap.size 4 (grow (redrawn w3 d) os) (S3.out.1.on (below_quiet d os))))
      have Y2 := Lib.hid (fun d os => Calls.regrown_of (X2.out w2.heap.size 2 (grow (redrawn w3 d) os) (S3.out.1.on (below_quiet d os))))
      clear X1 X2
      refine wp_region_quiet_below (by kernel_rfl) (by kernel_rfl) ?_
      repeat (go_big_quiet_step (first | (with_reducible exact (Y1.out _ _)) | (with_reducible exact (Y2.out _ _))))
      (refine wpQuiet_nil ?_; intro _ hw'; obtain ⟨⟨dq, osq⟩, hw''⟩ := hw'; subst hw'')
      go_wp2
      go_ret
      exact ⟨by rw [E2.out]; rfl, S3.out.2.trans ((below_quiet dq osq).mono S3.out.2.size)⟩
end Go.Proofs.YthghanidabmfgaaGreatDoor
