/-
  PROVED HERE (the walk): the statement BlockFrames: the frame of any block, and the block of any section's head, are the document's.
-/
import Derived.Test.YtjdnekkbmanmdaaBKnown9
import Derived.Test.YtjdnekkbmanmdaaBRBody9
namespace Go.Proofs.Ytjdnekkbmanmdaa
open Go.RowKit Go.Sort
set_option maxRecDepth 100000
/-- What stays: the block and the head that came in. -/
def FrSt (w wr : World) (o1 o2 : Obj) : Prop := Below w.heap.size w wr ∧ wr.heap[w.heap.size]? = some o1 ∧ wr.heap[w.heap.size + 1]? = some o2
theorem FrSt.on {w wr w2 : World} {o1 o2 : Obj} (h : FrSt w wr o1 o2) (hb : Below wr.heap.size wr w2) : FrSt w w2 o1 o2 := ⟨h.1.trans (hb.mono h.1.size), keepRow h.2.1 hb, keepRow h.2.2 hb⟩
theorem FrSt.new (w : World) (o1 o2 : Obj) : FrSt w ((w.alloc o1).alloc o2) o1 o2 :=
  ⟨(below_alloc w o1).trans ((below_alloc _ o2).mono (by simp)), keepRow (row_new w o1 rfl) (below_alloc _ o2), row_new (w.alloc o1) o2 (by simp)⟩
set_option maxHeartbeats 4000000 in
theorem blockFrames_small (kind : Nat) (u : Value) (body : List UInt8) (major minor : Nat) (len : Int) (v : Value) (opts : List UInt8) (b : Bool) (hk : kind < 4294967296) (h1 : major < 65536) (h2 : minor < 65536) (w : World) (hU : Byt w u body) (hB : Byt w v opts) (hl : body.length ≤ 300) (hl2 : opts.length ≤ 300) :
    Calls Try.prog 4 #[.agg #[.int .u32 kind, u], .agg #[.int .u16 major, .int .u16 minor, .int .i64 len, v], .bool b] w fun e w' => e = .returned (.bool true) ∧ Below w.heap.size w w' := by
  have HU := Lib.hid hU
  have HB := Lib.hid hB
  have hL : IntKind.u64.wrap len = ((len % 18446744073709551616).toNat : Int) := by rw [IntKind.wrap_u64]; omega
  have hlong : (len % 18446744073709551616).toNat < 18446744073709551616 := by omega
  have TF := Lib.hid (fun w hB => t_frame kind u body b hk (by omega) w hB)
  have RF := Lib.hid (fun w hB => r_frame kind u body b hk (by omega) w hB)
  have TB := Lib.hid (fun w hB => t_block major minor len _ v opts b h1 h2 hlong hL (by omega) w hB)
  have RB := Lib.hid (fun w hB => r_body9 major minor len _ v opts b h1 h2 hlong hL (by omega) w hB)
  obtain ⟨ad, c, rfl, hc, _⟩ := hU.open
  obtain ⟨ad2, c2, rfl, hc2, _⟩ := hB.open
  have g : decide ((300 : Int) < (body.length : Nat)) = false := by simp; omega
  have g2 : decide ((300 : Int) < (opts.length : Nat)) = false := by simp; omega
  obtain ⟨o1, ho1⟩ : ∃ o, o = Obj.cells #[.int .u32 kind, .slice ad body.length c] 32 (0, 0) := ⟨_, rfl⟩
  obtain ⟨o2, ho2⟩ : ∃ o, o = Obj.cells #[.int .u16 major, .int .u16 minor, .int .i64 len, .slice ad2 opts.length c2] 35 (0, 0) := ⟨_, rfl⟩
  have S0 := Lib.hid (FrSt.new w o1 o2)
  unfold FrOut at TF RF
  unfold BlkOut at TB
  unfold BytOut at RB
  generalize frameR kind body b = fr at *
  generalize frameE body = fe at *
  generalize bodyB major minor (len % 18446744073709551616).toNat opts b = bo at *
  clear hL hlong hU hB hc hc2 hl hl2
  generalize body.length = n at *
  generalize opts.length = n2 at *
  go_enter Try.func4, Try.ntmps4
  go_upto_region 1 with fail
  rw [← ho1, ← ho2]
  generalize (w.alloc o1).alloc o2 = w0 at *
  rw [ho1, ho2] at S0
  clear ho1 ho2
  go_upto_region 3 with (go_at_call 7; refine (t_known9 _).mono ?_; rintro e w1 ⟨rfl, hb⟩; have S1 := Lib.hid (S0.out.on hb); clear hb S0)
  obtain ⟨⟨c0, c1⟩, _⟩ := row2 S1.out.2.1
  obtain ⟨⟨e0, e1, e2, e3⟩, _⟩ := row4 S1.out.2.2
  go_upto_region 6 with (go_at_call 10; refine (TF.out _ (HU.out.on S1.out.1)).mono ?_; rintro e w2 ⟨v2, rfl, hY, hb⟩; have S2 := Lib.hid (S1.out.on hb); have Y2 := Lib.hid hY; obtain ⟨a2, n3, d2, rfl⟩ := hY.slice; clear hb hY S1 c0 c1 e0 e1 e2 e3)
  obtain ⟨⟨c0, c1⟩, _⟩ := row2 S2.out.2.1
  go_upto_region 7 with (go_at_call 11; refine (RF.out _ (HU.out.on S2.out.1)).mono ?_; rintro e w3 ⟨v3, rfl, hY, hb⟩; have S3 := Lib.hid (S2.out.on hb); have Y3 := Lib.hid (Y2.out.on hb); have Z3 := Lib.hid hY; obtain ⟨a3, n4, d3, rfl⟩ := hY.slice; clear hb hY S2 Y2 c0 c1)
  obtain ⟨⟨e0, e1, e2, e3⟩, _⟩ := row4 S3.out.2.2
  go_upto_region 8 with (go_at_call 12; refine (TB.out _ (HB.out.on S3.out.1)).mono ?_; rintro e w4 ⟨v4, rfl, hY, hb⟩; have S4 := Lib.hid (S3.out.on hb); have Y4 := Lib.hid (Y3.out.on hb); have Z4 := Lib.hid (Z3.out.on hb); have X4 := Lib.hid hY; obtain ⟨a4, n5, d4, rfl⟩ := hY.slice; clear hb hY S3 Y3 Z3 e0 e1 e2 e3)
  -- from here on: tools/gen9f.py
  have S5 := Lib.hid ((S4.out.on (below_alloc w4 (.cells #[.int .u32 168627466, .slice a4 n5 d4] 32))).on (Below.refl _ _).drew)
  have Y5 := Lib.hid ((Y4.out.on (below_alloc w4 (.cells #[.int .u32 168627466, .slice a4 n5 d4] 32))).on (Below.refl _ _).drew)
  have Z5 := Lib.hid ((Z4.out.on (below_alloc w4 (.cells #[.int .u32 168627466, .slice a4 n5 d4] 32))).on (Below.refl _ _).drew)
  have X5 := Lib.hid ((X4.out.on (below_alloc w4 (.cells #[.int .u32 168627466, .slice a4 n5 d4] 32))).on (Below.refl _ _).drew)
  have K5 := Lib.hid (keepRow (row_new w4 (.cells #[.int .u32 168627466, .slice a4 n5 d4] 32) rfl) (Below.refl _ _).drew)
  clear S4 Y4 Z4 X4
  generalize w4.alloc (.cells #[.int .u32 168627466, .slice a4 n5 d4] 32) = w5 at *
  generalize w4.heap.size = q1 at *
  obtain ⟨S, hS0⟩ : ∃ S : World → Prop, S = (fun W' => FrSt w W' (.cells #[.int .u32 kind, .slice ad n c] 32 (0, 0)) (.cells #[.int .u16 major, .int .u16 minor, .int .i64 len, .slice ad2 n2 c2] 35 (0, 0)) ∧ W'.heap[q1]? = some (.cells #[.int .u32 168627466, .slice a4 n5 d4] 32 (0, 0)) ∧ Byt W' (.slice a2 n3 d2) fr ∧ Byt W' (.slice a3 n4 d3) fr ∧ Byt W' (.slice a4 n5 d4) bo) := ⟨_, rfl⟩
  have SX := Lib.hid (fun W' => show S W' ↔ _ from by rw [hS0])
  have SI := Lib.hid (show ∀ W' W2, S W' → Below W'.heap.size W' W2 → S W2 from fun W' W2 h hb => by
    rw [hS0] at h ⊢
    exact ⟨h.1.on hb, keepRow h.2.1 hb, h.2.2.1.on hb, h.2.2.2.1.on hb, h.2.2.2.2.on hb⟩)
  have C1 := Lib.hid (show ∀ W', S W' → (convert 22 9 (.slice a2 n3 d2)).run Try.prog W' = .ok (.string ⟨fr.toArray⟩) W' from fun W' h => conv_bytes ((SX.out W').1 h).2.2.1.bytes)
  have C2 := Lib.hid (show ∀ W', S W' → (convert 22 9 (.slice a3 n4 d3)).run Try.prog W' = .ok (.string ⟨fr.toArray⟩) W' from fun W' h => conv_bytes ((SX.out W').1 h).2.2.2.1.bytes)
  have C3 := Lib.hid (show ∀ W', S W' → (convert 22 9 (.slice a4 n5 d4)).run Try.prog W' = .ok (.string ⟨bo.toArray⟩) W' from fun W' h => conv_bytes ((SX.out W').1 h).2.2.2.2.bytes)
  have R1 := Lib.hid (show ∀ W', S W' → W'.cell? ⟨q1, 0, none⟩ = some (.int .u32 168627466) ∧ W'.cell? ⟨q1, 1, none⟩ = some (.slice a4 n5 d4) from fun W' h => (row2 ((SX.out W').1 h).2.1).1)
  have R2 := Lib.hid (show ∀ W', S W' → (W'.cell? ⟨w.heap.size + 1, 0, none⟩ = some (.int .u16 major) ∧ W'.cell? ⟨w.heap.size + 1, 1, none⟩ = some (.int .u16 minor) ∧ W'.cell? ⟨w.heap.size + 1, 2, none⟩ = some (.int .i64 len) ∧ W'.cell? ⟨w.heap.size + 1, 3, none⟩ = some (.slice ad2 n2 c2)) from fun W' h => (row4 ((SX.out W').1 h).1.2.2).1)
  refine wp_region_held_drew (S := S) (by kernel_rfl) (by rw [hS0]; exact ⟨S5.out, K5.out, Y5.out, Z5.out, X5.out⟩) (fun hHeld => ?_)
  clear hS0 K5 Y5 Z5 X5
  refine wpAnyH_take (i := 0) (v := .slice a2 n3 d2) rfl (by kernel_rfl) (by kernel_rfl) (by kernel_rfl) (fun _ _ _ h => h) (Or.inl ⟨by rfl, ?_⟩) (by assumption) ?_
  · intro W' hS; go_simp
  refine castP (d := 42) rfl (by simp only [List.set_cons_succ, List.set_cons_zero]; exact rfl) ?_
  refine wpAnyH_take (i := 1) (v := .string ⟨fr.toArray⟩) rfl (by kernel_rfl) (by kernel_rfl) (by kernel_rfl) (fun _ _ _ h => h) (Or.inl ⟨by rfl, ?_⟩) (by assumption) ?_
  · intro W' hS; have cv := C1.out W' hS; go_simp
  refine castP (d := 43) rfl (by simp only [List.set_cons_succ, List.set_cons_zero]; exact rfl) ?_
  refine wpAnyH_take (i := 2) (v := .slice a3 n4 d3) rfl (by kernel_rfl) (by kernel_rfl) (by kernel_rfl) (fun _ _ _ h => h) (Or.inl ⟨by rfl, ?_⟩) (by assumption) ?_
  · intro W' hS; go_simp
  refine castP (d := 44) rfl (by simp only [List.set_cons_succ, List.set_cons_zero]; exact rfl) ?_
  refine wpAnyH_take (i := 3) (v := .string ⟨fr.toArray⟩) rfl (by kernel_rfl) (by kernel_rfl) (by kernel_rfl) (fun _ _ _ h => h) (Or.inl ⟨by rfl, ?_⟩) (by assumption) ?_
  · intro W' hS; have cv := C2.out W' hS; go_simp
  refine castP (d := 45) rfl (by simp only [List.set_cons_succ, List.set_cons_zero]; exact rfl) ?_
  refine wpAnyH_take (i := 4) (v := .bool true) rfl (by kernel_rfl) (by kernel_rfl) (by kernel_rfl) (fun _ _ _ h => h) (Or.inl ⟨by rfl, ?_⟩) (by assumption) ?_
  · intro W' hS; go_simp
  refine castP (d := 46) rfl (by simp only [List.set_cons_succ, List.set_cons_zero]; exact rfl) ?_
  refine wpAnyH_take (i := 5) (v := .bool true) rfl (by kernel_rfl) (by kernel_rfl) (by kernel_rfl) (fun _ _ _ h => h) (Or.inl ⟨by rfl, ?_⟩) (by assumption) ?_
  · intro W' hS; go_simp
  refine castP (d := 47) rfl (by simp only [List.set_cons_succ, List.set_cons_zero]; exact rfl) ?_
  refine wpAnyH_take (i := 6) (v := .int .i64 fe) rfl (by kernel_rfl) (by kernel_rfl) (by kernel_rfl) (fun _ _ _ h => h) (Or.inl ⟨by rfl, ?_⟩) (by assumption) ?_
  · intro W' hS; go_simp
  refine castP (d := 48) rfl (by simp only [List.set_cons_succ, List.set_cons_zero]; exact rfl) ?_
  refine wpAnyH_take (i := 7) (v := .int .i64 fe) rfl (by kernel_rfl) (by kernel_rfl) (by kernel_rfl) (fun _ _ _ h => h) (Or.inl ⟨by rfl, ?_⟩) (by assumption) ?_
  · intro W' hS; go_simp
  refine castP (d := 49) rfl (by simp only [List.set_cons_succ, List.set_cons_zero]; exact rfl) ?_
  refine wpAnyH_take (i := 8) (v := .bool true) rfl (by kernel_rfl) (by kernel_rfl) (by kernel_rfl) (fun _ _ _ h => h) (Or.inl ⟨by rfl, ?_⟩) (by assumption) ?_
  · intro W' hS; go_simp
  refine castP (d := 50) rfl (by simp only [List.set_cons_succ, List.set_cons_zero]; exact rfl) ?_
  refine wpAnyH_take (i := 9) (v := .bool true) rfl (by kernel_rfl) (by kernel_rfl) (by kernel_rfl) (fun _ _ _ h => h) (Or.inl ⟨by rfl, ?_⟩) (by assumption) ?_
  · intro W' hS; go_simp
  refine castP (d := 51) rfl (by simp only [List.set_cons_succ, List.set_cons_zero]; exact rfl) ?_
  refine wpAnyH_take (i := 10) (v := .bool true) rfl (by kernel_rfl) (by kernel_rfl) (by kernel_rfl) (fun _ _ _ h => h) (Or.inl ⟨by rfl, ?_⟩) (by assumption) ?_
  · intro W' hS; go_simp
  refine castP (d := 52) rfl (by simp only [List.set_cons_succ, List.set_cons_zero]; exact rfl) ?_
  refine wpAnyH_take (i := 11) (v := .pointer (some ⟨q1, 0, none⟩)) rfl (by kernel_rfl) (by kernel_rfl) (by kernel_rfl) (fun _ _ _ h => h) (Or.inl ⟨by rfl, ?_⟩) (by assumption) ?_
  · intro W' hS; go_simp
  refine castP (d := 53) rfl (by simp only [List.set_cons_succ, List.set_cons_zero]; exact rfl) ?_
  refine wpAnyH_take (i := 12) (v := .int .u32 168627466) rfl (by kernel_rfl) (by kernel_rfl) (by kernel_rfl) (fun _ _ _ h => h) (Or.inl ⟨by rfl, ?_⟩) (by assumption) ?_
  · intro W' hS; obtain ⟨x0, x1⟩ := R1.out W' hS; go_simp
  refine castP (d := 54) rfl (by simp only [List.set_cons_succ, List.set_cons_zero]; exact rfl) ?_
  refine wpAnyH_take (i := 13) (v := .bool true) rfl (by kernel_rfl) (by kernel_rfl) (by kernel_rfl) (fun _ _ _ h => h) (Or.inl ⟨by rfl, ?_⟩) (by assumption) ?_
  · intro W' hS; go_simp
  refine castP (d := 55) rfl (by simp only [List.set_cons_succ, List.set_cons_zero]; exact rfl) ?_
  refine wpAnyH_take (i := 14) (v := .bool true) rfl (by kernel_rfl) (by kernel_rfl) (by kernel_rfl) (fun _ _ _ h => h) (Or.inl ⟨by rfl, ?_⟩) (by assumption) ?_
  · intro W' hS; go_simp
  refine castP (d := 56) rfl (by simp only [List.set_cons_succ, List.set_cons_zero]; exact rfl) ?_
  refine wpAnyH_take (i := 15) (v := .bool true) rfl (by kernel_rfl) (by kernel_rfl) (by kernel_rfl) (fun _ _ _ h => h) (Or.inl ⟨by rfl, ?_⟩) (by assumption) ?_
  · intro W' hS; go_simp
  refine castP (d := 57) rfl (by simp only [List.set_cons_succ, List.set_cons_zero]; exact rfl) ?_
  refine wpAnyH_take (i := 16) (v := .pointer (some ⟨q1, 1, none⟩)) rfl (by kernel_rfl) (by kernel_rfl) (by kernel_rfl) (fun _ _ _ h => h) (Or.inl ⟨by rfl, ?_⟩) (by assumption) ?_
  · intro W' hS; go_simp
  refine castP (d := 58) rfl (by simp only [List.set_cons_succ, List.set_cons_zero]; exact rfl) ?_
  refine wpAnyH_take (i := 17) (v := .slice a4 n5 d4) rfl (by kernel_rfl) (by kernel_rfl) (by kernel_rfl) (fun _ _ _ h => h) (Or.inl ⟨by rfl, ?_⟩) (by assumption) ?_
  · intro W' hS; obtain ⟨x0, x1⟩ := R1.out W' hS; go_simp
  refine castP (d := 59) rfl (by simp only [List.set_cons_succ, List.set_cons_zero]; exact rfl) ?_
  refine wpAnyH_take (i := 18) (v := .string ⟨bo.toArray⟩) rfl (by kernel_rfl) (by kernel_rfl) (by kernel_rfl) (fun _ _ _ h => h) (Or.inl ⟨by rfl, ?_⟩) (by assumption) ?_
  · intro W' hS; have cv := C3.out W' hS; go_simp
  refine castP (d := 60) rfl (by simp only [List.set_cons_succ, List.set_cons_zero]; exact rfl) ?_
  refine wpAnyH_take (i := 19) (v := .agg #[.int .u16 major, .int .u16 minor, .int .i64 len, .slice ad2 n2 c2]) rfl (by kernel_rfl) (by kernel_rfl) (by kernel_rfl) (fun _ _ _ h => h) (Or.inl ⟨by rfl, ?_⟩) (by assumption) ?_
  · intro W' hS; obtain ⟨x0, x1, x2, x3⟩ := R2.out W' hS; go_simp
  refine castP (d := 61) rfl (by simp only [List.set_cons_succ, List.set_cons_zero]; exact rfl) ?_
  refine wpAnyH_take (i := 20) (v := .bool b) rfl (by kernel_rfl) (by kernel_rfl) (by kernel_rfl) (fun _ _ _ h => h) (Or.inl ⟨by rfl, ?_⟩) (by assumption) ?_
  · intro W' hS; go_simp
  refine castP (d := 62) rfl (by simp only [List.set_cons_succ, List.set_cons_zero]; exact rfl) ?_
  refine wpAnyH_ready (rs := [21]) (by kernel_rfl) (by simp) ?_
  refine AllReadyH.cons rfl (fun K hK => ?_) AllReadyH.nil
  go_simp
  go_at_call 13
  refine (RB.out _ (HB.out.on S5.out.1)).mono ?_
  rintro e w6 ⟨v6, rfl, hY, hb⟩
  have S6 := Lib.hid (S5.out.on hb)
  have Y6 := Lib.hid hY
  obtain ⟨a6, n6, d6, rfl⟩ := hY.slice
  refine hK.out _ _ (SI.out _ _ hHeld hb) (fun hHeld => ?_)
  clear hK K hY
  have CQ := Lib.hid (show ∀ W', Byt W' (.slice a6 n6 d6) bo → (convert 22 9 (.slice a6 n6 d6)).run Try.prog W' = .ok (.string ⟨bo.toArray⟩) W' from fun W' h => conv_bytes h.bytes)
  refine wpAnyH_mono (T := fun W' => S W' ∧ Byt W' (.slice a6 n6 d6) bo) (fun _ h => h.1) _ _ _ _ ?_
  have hHeld2 : S w6 ∧ Byt w6 (.slice a6 n6 d6) bo := ⟨hHeld, Y6.out⟩
  refine wpAnyH_take (i := 22) (v := .string ⟨bo.toArray⟩) rfl (by kernel_rfl) (by kernel_rfl) (by kernel_rfl) (fun _ _ _ h => h) (Or.inl ⟨by rfl, ?_⟩) (by assumption) ?_
  · intro W' hS; have cv := CQ.out W' hS.2; go_simp
  refine castP (d := 64) rfl (by simp only [List.set_cons_succ, List.set_cons_zero]; exact rfl) ?_
  refine wpAnyH_take (i := 23) (v := .bool true) rfl (by kernel_rfl) (by kernel_rfl) (by kernel_rfl) (fun _ _ _ h => h) (Or.inl ⟨by rfl, ?_⟩) (by assumption) ?_
  · intro W' hS; go_simp
  refine castP (d := 65) rfl (by simp only [List.set_cons_succ, List.set_cons_zero]; exact rfl) ?_
  refine wpAnyH_take (i := 24) (v := .bool true) rfl (by kernel_rfl) (by kernel_rfl) (by kernel_rfl) (fun _ _ _ h => h) (Or.inl ⟨by rfl, ?_⟩) (by assumption) ?_
  · intro W' hS; go_simp
  refine castP (d := 66) rfl (by simp only [List.set_cons_succ, List.set_cons_zero]; exact rfl) ?_
  refine wpAnyH_take (i := 25) (v := .bool true) rfl (by kernel_rfl) (by kernel_rfl) (by kernel_rfl) (fun _ _ _ h => h) (Or.inl ⟨by rfl, ?_⟩) (by assumption) ?_
  · intro W' hS; go_simp
  refine castP (d := 6) rfl (by simp only [List.set_cons_succ, List.set_cons_zero]; exact rfl) ?_
  refine wpAnyH_done (by kernel_rfl) ?_ _
  go_wp2_with fail
  go_ret
  exact ⟨rfl, S6.out.1⟩
set_option maxHeartbeats 1000000 in
theorem blockFrames_any (kind : Nat) (u : Value) (body : List UInt8) (major minor : Nat) (len : Int) (v : Value) (opts : List UInt8) (b : Bool) (hk : kind < 4294967296) (h1 : major < 65536) (h2 : minor < 65536) (w : World) (hU : Byt w u body) (hB : Byt w v opts) :
    Calls Try.prog 4 #[.agg #[.int .u32 kind, u], .agg #[.int .u16 major, .int .u16 minor, .int .i64 len, v], .bool b] w fun e w' => e = .returned (.bool true) ∧ Below w.heap.size w w' := by
  by_cases hl : body.length ≤ 300
  · by_cases hl2 : opts.length ≤ 300
    · exact blockFrames_small kind u body major minor len v opts b hk h1 h2 w hU hB hl hl2
    · obtain ⟨ad, c, rfl, hc, _⟩ := hU.open
      obtain ⟨ad2, c2, rfl, hc2, _⟩ := hB.open
      have g : decide ((300 : Int) < (body.length : Nat)) = false := by simp; omega
      have g2 : decide ((300 : Int) < (opts.length : Nat)) = true := by simp; omega
      obtain ⟨o1, ho1⟩ : ∃ o, o = Obj.cells #[.int .u32 kind, .slice ad body.length c] 32 (0, 0) := ⟨_, rfl⟩
      obtain ⟨o2, ho2⟩ : ∃ o, o = Obj.cells #[.int .u16 major, .int .u16 minor, .int .i64 len, .slice ad2 opts.length c2] 35 (0, 0) := ⟨_, rfl⟩
      have S0 := Lib.hid (FrSt.new w o1 o2)
      clear hl hl2 hB hU hc hc2
      generalize body.length = n at *
      generalize opts.length = n2 at *
      go_enter Try.func4, Try.ntmps4
      go_upto_region 1 with fail
      rw [← ho1, ← ho2]
      generalize (w.alloc o1).alloc o2 = w0 at *
      rw [ho1, ho2] at S0
      clear ho1 ho2
      go_upto_region 3 with (go_at_call 7; refine (t_known9 _).mono ?_; rintro e w1 ⟨rfl, hb⟩; have S1 := Lib.hid (S0.out.on hb); clear hb S0)
      obtain ⟨⟨c0, c1⟩, _⟩ := row2 S1.out.2.1
      obtain ⟨⟨e0, e1, e2, e3⟩, _⟩ := row4 S1.out.2.2
      go_wp2
      go_ret
      exact ⟨rfl, S1.out.1⟩
  · obtain ⟨ad, c, rfl, hc, _⟩ := hU.open
    obtain ⟨ad2, c2, rfl, hc2, _⟩ := hB.open
    have g : decide ((300 : Int) < (body.length : Nat)) = true := by simp; omega
    obtain ⟨o1, ho1⟩ : ∃ o, o = Obj.cells #[.int .u32 kind, .slice ad body.length c] 32 (0, 0) := ⟨_, rfl⟩
    obtain ⟨o2, ho2⟩ : ∃ o, o = Obj.cells #[.int .u16 major, .int .u16 minor, .int .i64 len, .slice ad2 opts.length c2] 35 (0, 0) := ⟨_, rfl⟩
    have S0 := Lib.hid (FrSt.new w o1 o2)
    clear hl hB hU hc hc2
    generalize body.length = n at *
    generalize opts.length = n2 at *
    go_enter Try.func4, Try.ntmps4
    go_upto_region 1 with fail
    rw [← ho1, ← ho2]
    generalize (w.alloc o1).alloc o2 = w0 at *
    rw [ho1, ho2] at S0
    clear ho1 ho2
    go_upto_region 3 with (go_at_call 7; refine (t_known9 _).mono ?_; rintro e w1 ⟨rfl, hb⟩; have S1 := Lib.hid (S0.out.on hb); clear hb S0)
    obtain ⟨⟨c0, c1⟩, _⟩ := row2 S1.out.2.1
    go_wp2
    go_ret
    exact ⟨rfl, S1.out.1⟩
end Go.Proofs.Ytjdnekkbmanmdaa
