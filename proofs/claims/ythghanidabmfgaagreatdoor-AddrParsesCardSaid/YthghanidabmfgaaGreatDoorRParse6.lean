/-
  The document's reading of an address (horologeref05).
  The document's reading of an IPv6 address (horologeref05).
-/
import Derived.Test.YthghanidabmfgaaGreatDoorRHex5
import Derived.Test.YthghanidabmfgaaGreatDoorRRows5
import Derived.Test.YthghanidabmfgaaGreatDoorParse5
import Derived.Deep.CutBlock
namespace Go.Proofs.YthghanidabmfgaaGreatDoor
open Go.RowKit Go.Sort
set_option maxRecDepth 8000
/-- What the call answers. -/
def rpV (l : List UInt8) : Value := match parseA l with
  | some (v, b) => .tuple #[.agg (adC v b), .bool true]
  | none => .tuple #[.agg (adC false n16), .bool false]
theorem rpV_none {l : List UInt8} (h : parseA l = none) : rpV l = .tuple #[.agg (adC false n16), .bool false] := by unfold rpV; rw [h]
theorem rpV_some {l : List UInt8} {v : Bool} {b : List Int} (h : parseA l = some (v, b)) : rpV l = .tuple #[.agg (adC v b), .bool true] := by unfold rpV; rw [h]
/-- The result's variable, empty, and the address's. -/
def PA (w wr : World) (v : Bool) (B : List Int) : Prop := Blk wr w.heap.size 24 (adC false n16) ∧ Blk wr (w.heap.size + 1) 24 (adC v B) ∧ Below w.heap.size w wr
theorem PA.on {w w1 w2 : World} {v : Bool} {B : List Int} (h : PA w w1 v B) (hb : Below w1.heap.size w1 w2) : PA w w2 v B := ⟨h.1.on hb, h.2.1.on hb, h.2.2.trans (hb.mono h.2.2.size)⟩
theorem PA.new (w : World) : PA w ((w.alloc (.cells #[.bool false, .int .u8 0, .int .u8 0, .int .u8 0, .int .u8 0, .int .u8 0, .int .u8 0, .int .u8 0, .int .u8 0, .int .u8 0, .int .u8 0, .int .u8 0, .int .u8 0, .int .u8 0, .int .u8 0, .int .u8 0, .int .u8 0] 24)).alloc (.cells #[.bool false, .int .u8 0, .int .u8 0, .int .u8 0, .int .u8 0, .int .u8 0, .int .u8 0, .int .u8 0, .int .u8 0, .int .u8 0, .int .u8 0, .int .u8 0, .int .u8 0, .int .u8 0, .int .u8 0, .int .u8 0, .int .u8 0] 24)) false n16 := by
  have h0 : Blk (w.alloc (.cells #[.bool false, .int .u8 0, .int .u8 0, .int .u8 0, .int .u8 0, .int .u8 0, .int .u8 0, .int .u8 0, .int .u8 0, .int .u8 0, .int .u8 0, .int .u8 0, .int .u8 0, .int .u8 0, .int .u8 0, .int .u8 0, .int .u8 0] 24)) w.heap.size 24 (adC false n16) := Blk.new _ _ _ rfl
  refine ⟨h0.alloc _, Blk.new _ _ _ (by simp), ?_⟩
  (repeat (first | (with_reducible exact Below.refl _ _) | (with_reducible assumption) | (with_reducible refine Below.drew ?_) | (with_reducible refine below_drewN ?_ _) | ((with_reducible refine Below.alloc ?_ ?_ _); rotate_left; (focus (first | (simp; done) | (simp; omega) | omega))) | ((with_reducible refine Below.setCell ?_ ?_ _); rotate_left; (focus (first | (simp; done) | (simp; omega) | omega))) | ((with_reducible refine Below.trans ?_ (Below.mono (by assumption) ?_)); rotate_left; (focus (first | (simp; done) | (simp; omega) | omega)))))
theorem ad_set (v : Bool) (B : List Int) (k : Nat) (n : Int) : (adC v B).setIfInBounds (1 + k) (.int .u8 n) = adC v (B.set k n) := by
  unfold adC adL
  rw [Nat.add_comm]
  simp [ints, List.map_set]
theorem PA.put {w wr : World} {v : Bool} {B : List Int} (h : PA w wr v B) (k : Nat) (n : Int) : PA w (wr.setCell ⟨w.heap.size + 1, 1 + k, none⟩ (.int .u8 n)) v (B.set k n) := by
  refine ⟨h.1.other (by dsimp only; omega) _, ?_, h.2.2.setCell (by dsimp only; omega) _⟩
  have := h.2.1.put (1 + k) (.int .u8 n)
  rwa [ad_set] at this
theorem PA.cell {w wr : World} {v : Bool} {B : List Int} (h : PA w wr v B) {k : Nat} (hk : k < B.length) : ∃ z, wr.cell? ⟨w.heap.size + 1, 1 + k, none⟩ = some z :=
  ⟨_, h.2.1.cell (Array.getElem?_eq_getElem (by rw [adC_size]; omega))⟩
theorem PA.load {w wr : World} {v : Bool} {B : List Int} (h : PA w wr v B) (hl : B.length = 16) : (Instr.loadAt 24 (.pointer (some ⟨w.heap.size + 1, 0, none⟩))).run Tryz.prog wr = .ok (.agg (adC v B)) wr := ld_addr hl h.2.1
theorem PA.store {w wr : World} {v : Bool} {B : List Int} (h : PA w wr v B) (hl : B.length = 16) : (Instr.storeAt 24 (.pointer (some ⟨w.heap.size, 0, none⟩)) (.agg (adC v B))).run Tryz.prog wr = .ok () (wr.setRow w.heap.size (adC v B)) := st_addr h.1 (by rw [adC_size]; rfl) hl
theorem PA.done {w wr : World} {v : Bool} {B : List Int} (h : PA w wr v B) (v' : Bool) (B' : List Int) : Blk (wr.setRow w.heap.size (adC v' B')) w.heap.size 24 (adC v' B') ∧ Below w.heap.size w (wr.setRow w.heap.size (adC v' B')) := ⟨h.1.row _, below_setRow h.2.2 (Nat.le_refl _) _⟩
/-- Bytes are filled in; nothing else changes. -/
def Fil (w wF wr : World) (B : List Int) : Prop := PA w wr false B ∧ ∀ a : Addr, a.block ≠ w.heap.size + 1 → wr.cell? a = wF.cell? a
theorem Fil.start {w wF : World} {B : List Int} (h : PA w wF false B) : Fil w wF wF B := ⟨h, fun _ _ => rfl⟩
theorem Fil.put {w wF wr : World} {B C : List Int} {k : Nat} {n : Int} (h : Fil w wF wr (mix B C k)) (hB : B.length = 16) (hC : C.length = 16) (hn : C[k]? = some n) : Fil w wF (wr.setCell ⟨w.heap.size + 1, 1 + k, none⟩ (.int .u8 n)) (mix B C (k + 1)) := by
  refine ⟨?_, fun a ha => ?_⟩
  · rw [← mix_put hB hC hn]; exact h.1.put k n
  · rw [World.cell?_setCell_other _ _ _ _ (fun e => ha (by rw [← e])), h.2 a ha]
set_option maxHeartbeats 1000000 in
theorem r_parse4 (s : ByteArray) (hs : s.size ≤ 4000) (b : List Int) (h4 : p4 s.data.toList = some b) (w : World) : Calls Tryz.prog 16 #[.string s] w fun e w' => e = .returned (rpV s.data.toList) ∧ Below w.heap.size w w' := by
  have F4 := Lib.hid (fun w => r_four s hs w)
  rw [h4] at F4
  have N := Lib.hid (show parseA s.data.toList = some (false, b ++ n12) by unfold parseA; rw [h4])
  obtain ⟨bl, _, _⟩ := p4_some h4
  have P0 := Lib.hid (PA.new w)
  have C16 : (b ++ n12).length = 16 := by simp [bl, n12]
  have M4 : mix n16 (b ++ n12) 4 = b ++ n12 := by
    unfold mix
    rw [List.take_left' bl]; rfl
  clear h4
  go_enter Tryz.func16, Tryz.ntmps16
  go_upto_region 2 with fail
  generalize (w.alloc (.cells #[.bool false, .int .u8 0, .int .u8 0, .int .u8 0, .int .u8 0, .int .u8 0, .int .u8 0, .int .u8 0, .int .u8 0, .int .u8 0, .int .u8 0, .int .u8 0, .int .u8 0, .int .u8 0, .int .u8 0, .int .u8 0, .int .u8 0] 24)).alloc (.cells #[.bool false, .int .u8 0, .int .u8 0, .int .u8 0, .int .u8 0, .int .u8 0, .int .u8 0, .int .u8 0, .int .u8 0, .int .u8 0, .int .u8 0, .int .u8 0, .int .u8 0, .int .u8 0, .int .u8 0, .int .u8 0, .int .u8 0] 24) = w1 at *
  go_upto_region 4 with (go_at_call 30; refine (F4.out _).mono ?_; rintro q w2 ⟨⟨v, rfl, hv⟩, hb⟩; have P2 := Lib.hid (P0.out.on hb); have z1 := hb.size; clear hb; obtain ⟨g, c, rfl, hc, hg0, hg, hx⟩ := hv; have HX := Lib.hid hx; clear hx)
  have L2 := P2.out.2.1.lt
  have L1 := P0.out.2.1.lt
  go_wp2
  go_loopw [6] (fun i wr => ∃ k : Nat, k ≤ 4 ∧ i = .int .i64 k ∧ Hid (Fil w w2 wr (mix n16 (b ++ n12) k))) (fun i _ => 4 - (intOf i).toNat)
  case atStart => exact ⟨0, by omega, rfl, by rw [mix_zero]; exact Fil.start P2.out⟩
  case round =>
    obtain ⟨k, hk, rfl, F⟩ := hrel
    by_cases hlt : k < 4
    · have e1 : b[k]? = some (b[k]'(by omega)) := List.getElem?_eq_getElem _
      have e2 : (b ++ n12)[k]? = some (b[k]'(by omega)) := by rw [List.getElem?_append_left (by omega), e1]
      have X := Lib.hid (F.out.put rfl C16 e2)
      have c1 := (F.out.2 ⟨g, k, none⟩ (by dsimp only; omega)).trans (HX.out k _ e1)
      obtain ⟨z, c2⟩ := F.out.1.cell (k := k) (by rw [mix_length (n := 16) rfl C16 (by omega)]; omega)
      have f2 := F.out.1.2.1.free (1 + k)
      generalize b[k]'(by omega) = n at *
      clear e1 e2 F
      go_wp2
      go_roundw
      case rel => exact ⟨k + 1, by omega, by go_num, X⟩
      case measure => simp [intOf]; omega
    · obtain rfl : k = 4 := by omega
      rw [M4] at F
      have d := F.out.1.load C16
      have s2 := F.out.1.store C16
      have D := Lib.hid (F.out.1.done false (b ++ n12))
      have I := Lib.hid (show (Tryz.prog.info? 24).map (·.size) = some (adC false (b ++ n12)).size by rw [infA, adC_size, C16])
      clear F
      generalize b ++ n12 = B at *
      go_wp2_with (first | (refine wl_load rfl _ _ rfl _ rfl _ d ?_) | (refine wl_store rfl _ _ _ rfl _ rfl (.agg (adC false B)) rfl _ s2 ?_))
      exact bodyPost_ret (res_pair (p := 2) (q := 3) rfl _ _ w.heap.size 24 (adC false B) (.bool true) _ rfl rfl D.out.1 Tryz.underlying24 rfl I.out) rfl ⟨by rw [rpV_some N.out], D.out.2⟩
end Go.Proofs.YthghanidabmfgaaGreatDoor
namespace Go.Proofs.YthghanidabmfgaaGreatDoor
open Go.RowKit Go.Sort
set_option maxRecDepth 8000
/-- Where the two colons are looked for. -/
def CutS (s : ByteArray) (ct : Int) (k : Nat) : Prop := (ct = -1 ∧ k ≤ s.size ∧ CutI s.data.toList k) ∨ (∃ j : Nat, ct = j ∧ k = j + 1 ∧ j + 1 < s.size ∧ cut2 s.data.toList = some (s.data.toList.take j, s.data.toList.drop (j + 2)))
/-- What was found. -/
def CutF (s : ByteArray) (ct : Int) : Prop := (ct = -1 ∧ cut2 s.data.toList = none) ∨ (∃ j : Nat, ct = j ∧ j + 1 < s.size ∧ cut2 s.data.toList = some (s.data.toList.take j, s.data.toList.drop (j + 2)))
theorem PA.mark {w wr : World} {B : List Int} (h : PA w wr false B) : PA w (wr.setCell ⟨w.heap.size + 1, 0, none⟩ (.bool true)) true B := by
  refine ⟨h.1.other (by dsimp only; omega) _, ?_, h.2.2.setCell (by dsimp only; omega) _⟩
  have := h.2.1.put 0 (.bool true)
  rwa [show (adC false B).setIfInBounds 0 (.bool true) = adC true B by unfold adC adL; simp] at this
theorem cells_new (w : World) (t : TypeId) (cs : List Value) : ∀ j u, cs[j]? = some u → (w.alloc (.cells cs.toArray t)).cell? ((⟨w.heap.size, 0, none⟩ : Addr).add j) = some u := by
  intro j u hj
  rw [Lib.add_plain, Nat.zero_add, World.cell?_alloc_new]
  simpa using hj
/-- The parts, in their slice. -/
def Prt (w2 wr : World) (s : ByteArray) (ct : Int) (g n : Nat) (xs : List ByteArray) : Prop := xs.length = n ∧ Parts s.data.toList ct (xs.map (·.data.toList)) ∧ (∀ x ∈ xs, x.size ≤ s.size) ∧ w2.heap.size ≤ g ∧ g < wr.heap.size ∧ (∀ j x, xs[j]? = some x → wr.cell? ⟨g, j, none⟩ = some (.string x)) ∧ Below w2.heap.size w2 wr
theorem r_four_none (s : ByteArray) (hs : s.size ≤ 4000) (h : p4 s.data.toList = none) (w : World) : Calls Tryz.prog 30 #[.string s] w fun e w' => e = .returned (.slice none 0 0) ∧ Below w.heap.size w w' := by
  refine (r_four s hs w).mono ?_
  rintro e w' ⟨⟨v, rfl, hv⟩, hb⟩
  rw [h] at hv
  exact ⟨congrArg Ending.returned hv, hb⟩
set_option maxHeartbeats 4000000 in
theorem r_parse6 (s : ByteArray) (hs : s.size ≤ 2000) (h4 : p4 s.data.toList = none) (w : World) : Calls Tryz.prog 16 #[.string s] w fun e w' => e = .returned (rpV s.data.toList) ∧ Below w.heap.size w w' := by
  have F4 := Lib.hid (fun w => r_four_none s (by omega) h4 w)
  have H4 := Lib.hid h4
  have ls : s.data.toList.length = s.size := by simp
  have P0 := Lib.hid (PA.new w)
  clear h4
  go_enter Tryz.func16, Tryz.ntmps16
  go_upto_region 2 with fail
  generalize (w.alloc (.cells #[.bool false, .int .u8 0, .int .u8 0, .int .u8 0, .int .u8 0, .int .u8 0, .int .u8 0, .int .u8 0, .int .u8 0, .int .u8 0, .int .u8 0, .int .u8 0, .int .u8 0, .int .u8 0, .int .u8 0, .int .u8 0, .int .u8 0] 24)).alloc (.cells #[.bool false, .int .u8 0, .int .u8 0, .int .u8 0, .int .u8 0, .int .u8 0, .int .u8 0, .int .u8 0, .int .u8 0, .int .u8 0, .int .u8 0, .int .u8 0, .int .u8 0, .int .u8 0, .int .u8 0, .int .u8 0, .int .u8 0] 24) = w1 at *
  go_upto_region 3 with (go_at_call 30; refine (F4.out _).mono ?_; rintro q w2 ⟨rfl, hb⟩; have P2 := Lib.hid (P0.out.on hb); clear hb)
  go_upto_block 2 with fail
  clear F4 P0
  go_cut [7] from 8 to 60 (fun c wr => (∃ ct : Int, c = .int .i64 ct ∧ Hid (CutF s ct)) ∧ wr = w2)
  case first =>
    -- <a
    clear P2
    go_wp2_with fail
    go_loopw [7, 8] (fun c i wr => wr = w2 ∧ ∃ (ct : Int) (k : Nat), k ≤ s.size + 1 ∧ c = .int .i64 ct ∧ i = .int .i64 k ∧ Hid (CutS s ct k)) (fun _ i _ => s.size + 1 - (intOf i).toNat)
    case atStart => exact ⟨rfl, -1, 0, by omega, rfl, rfl, Lib.hid (Or.inl ⟨rfl, by omega, CutI.start _⟩)⟩
    case round =>
      obtain ⟨hw, ct, k, hk, rfl, rfl, S⟩ := hrel
      rw [hw]
      clear hw
      rcases S.out with ⟨rfl, hks, I⟩ | ⟨j, rfl, rfl, hj, hc⟩
      · by_cases hlt : k + 1 < s.size
        · have hk0 : k < s.size := by omega
          have g0 : s.data.toList[k]'(by omega) = s[k]'hk0 := rfl
          have g1 : s.data.toList[k + 1]'(by omega) = s[k + 1]'hlt := rfl
          by_cases b0 : s[k]'hk0 = 58
          · have e0 : ((((s[k]'hk0).toNat : Nat) : Int) == 58) = true := by rw [b0]; rfl
            by_cases b1 : s[k + 1]'hlt = 58
            · have e1 : ((((s[k + 1]'hlt).toNat : Nat) : Int) == 58) = true := by rw [b1]; rfl
              have X := Lib.hid (show CutS s (k : Int) (k + 1) from Or.inr ⟨k, rfl, rfl, hlt, I.hit (by omega) (g0.trans b0) (g1.trans b1)⟩)
              clear S I b0 b1 g0 g1
              go_wp2
              go_roundw
              case rel => exact ⟨trivial, k, k + 1, by omega, rfl, by go_num, X⟩
              case measure => simp [intOf]; omega
            · have e1 : ((((s[k + 1]'hlt).toNat : Nat) : Int) == 58) = false := by
                have : (s[k + 1]'hlt).toNat ≠ 58 := fun q => b1 (UInt8.toNat_inj.1 q)
                simp; omega
              have X := Lib.hid (show CutS s (-1) (k + 1) from Or.inl ⟨rfl, by omega, I.miss (by omega) (fun q => b1 (g1.symm.trans q.2))⟩)
              clear S I b0 b1 g0 g1
              go_wp2
              go_roundw
              case rel => exact ⟨trivial, -1, k + 1, by omega, rfl, by go_num, X⟩
              case measure => simp [intOf]; omega
          · have e0 : ((((s[k]'hk0).toNat : Nat) : Int) == 58) = false := by
              have : (s[k]'hk0).toNat ≠ 58 := fun q => b0 (UInt8.toNat_inj.1 q)
              simp; omega
            have X := Lib.hid (show CutS s (-1) (k + 1) from Or.inl ⟨rfl, by omega, I.miss (by omega) (fun q => b0 (g0.symm.trans q.1))⟩)
            clear S I b0 g0 g1
            go_wp2
            go_roundw
            case rel => exact ⟨trivial, -1, k + 1, by omega, rfl, by go_num, X⟩
            case measure => simp [intOf]; omega
        · have X := Lib.hid (show CutF s (-1) from Or.inl ⟨rfl, I.fin (by omega)⟩)
          have hlt' : ¬ ((k : Int) + 1 < s.size) := by omega
          clear S I
          go_wp2
          go_meet
          exact ⟨⟨-1, rfl, X⟩, rfl⟩
      · have X := Lib.hid (show CutF s (j : Int) from Or.inr ⟨j, rfl, hj, hc⟩)
        have hj0 : ¬ ((j : Int) < 0) := by omega
        clear S hc
        by_cases hlt : j + 1 + 1 < s.size
        · have hlt' : (j : Int) + 1 + 1 < s.size := by omega
          go_wp2
          go_meet
          exact ⟨⟨j, rfl, X⟩, rfl⟩
        · have hlt' : ¬ ((j : Int) + 1 + 1 < s.size) := by omega
          go_wp2
          go_meet
          exact ⟨⟨j, rfl, X⟩, rfl⟩
    -- a>
  case rest =>
  obtain ⟨⟨ct, rfl, CF⟩, hw⟩ := hcut
  rw [hw]
  clear hw
  go_upto_region 15 with fail
  go_cut [9] from 61 to 62 (fun v wr => v = .slice (some ⟨w2.heap.size, 0, none⟩) 1 1 ∧ wr = w2.alloc (.cells #[.string s] 9))
  case first =>
    go_wp2
    go_meet
    exact ⟨rfl, rfl⟩
  case rest =>
  obtain ⟨rfl, hw⟩ := hcut
  rw [hw]
  clear hw
  refine (by assumption : ∀ (a : Act) (w : World), Code.wp Tryz.prog _ _ a w → _) _ _ ?_
  refine wp_seq_k (fun K hK => ?_)
  go_cut [9] from 63 to 72 (fun v wr => ∃ (g n : Nat) (xs : List ByteArray), v = .slice (some ⟨g, 0, none⟩) n n ∧ 1 ≤ n ∧ n ≤ 2 ∧ Hid (Prt w2 wr s ct g n xs))
  case first =>
    -- <b
    clear P2
    rcases CF.out with ⟨rfl, hc⟩ | ⟨j, rfl, hj, hc⟩
    · have X := Lib.hid (show Prt w2 (w2.alloc (.cells #[.string s] 9)) s (-1) w2.heap.size 1 [s] from ⟨rfl, Or.inl ⟨rfl, hc, rfl⟩, fun x hx => by rw [List.mem_singleton.1 hx]; exact Nat.le_refl _, Nat.le_refl _, by simp, fun j x hj => by
        rw [World.cell?_alloc_new]
        match j, hj with
        | 0, hj => obtain rfl := Option.some.inj hj; rfl, below_alloc _ _⟩)
      clear CF hc
      go_wp2
      go_meet
      exact ⟨w2.heap.size, 1, [s], rfl, by omega, by omega, X⟩
    · have hj1 : (j : Int) ≤ s.size := by omega
      have hj2 : (j : Int) + 2 ≤ s.size := by omega
      have hj0 : (0 : Int) ≤ j := by omega
      have B9 : Blk ((w2.alloc (.cells #[.string s] 9)).alloc (.cells #[.string (s.extract 0 j), .string (s.extract (j + 2) s.size)] 9)) (w2.heap.size + 1) 9 #[.string (s.extract 0 j), .string (s.extract (j + 2) s.size)] := Blk.new _ _ _ (by simp)
      have X := Lib.hid (show Prt w2 (((w2.alloc (.cells #[.string s] 9)).alloc (.cells #[.string (s.extract 0 j), .string (s.extract (j + 2) s.size)] 9)).drew) s (j : Int) (w2.heap.size + 1) 2 [s.extract 0 j, s.extract (j + 2) s.size] from ⟨rfl, Or.inr ⟨by omega, _, _, hc, by
          simp only [List.map_cons, List.map_nil, ext_list]
          rw [List.take_of_length_le (show s.data.toList.length ≤ s.size by omega), List.drop_zero]⟩, fun x hx => by
          simp only [List.mem_cons, List.not_mem_nil, or_false] at hx
          rcases hx with rfl | rfl <;> simp <;> omega, by omega, by simp, fun j x hj => by
        match j, hj with
        | 0, hj => obtain rfl := Option.some.inj hj; exact B9.cell rfl
        | 1, hj => obtain rfl := Option.some.inj hj; exact B9.cell rfl, ((below_alloc _ _).alloc (by simp) _).drew⟩)
      clear B9
      clear CF
      go_upto_region 17 with fail
      go_region
      go_wp2
      go_meet
      exact ⟨w2.heap.size + 1, 2, [s.extract 0 j, s.extract (j + 2) s.size], rfl, by omega, by omega, X⟩
    -- b>
  case rest =>
  obtain ⟨g, n, xs, rfl, n1, n2, PR⟩ := hcut
  obtain ⟨w3, rfl⟩ : ∃ v : World, v = wc := ⟨_, rfl⟩
  have P3 := Lib.hid (P2.out.on PR.out.2.2.2.2.2.2)
  have G3 := PR.out.2.2.2.2.1
  clear P2
  refine hK _ _ ?_
  go_wp2
  go_loopw [10, 11, 12] (fun a m k wr => ∃ (kk : Nat) (gs : List (List Nat)) (vs : List Value), kk ≤ n ∧ m = .int .i64 (many gs : Nat) ∧ k = .int .i64 kk ∧ many gs ≤ 10000 * kk ∧ Hid (Read (xs.map (·.data.toList)) kk gs ∧ AllP w3 wr (gs.map g2b) vs a)) (fun _ _ k _ => n - (intOf k).toNat)
  case atStart => exact ⟨0, [], [], by omega, rfl, rfl, by simp [many], ⟨rfl, fun j x h => by omega⟩, AllP.nil _⟩
  case round =>
    obtain ⟨kk, gs, vs, hkk, rfl, rfl, hmb, A⟩ := hrel
    by_cases hlt : kk < n
    · have hlt' : kk < xs.length := by rw [PR.out.1]; exact hlt
      have e1 : xs[kk]? = some (xs[kk]'hlt') := List.getElem?_eq_getElem _
      have c1 := (A.out.2.2.1.2.cell (p := ⟨g, kk, none⟩) (by exact G3)).trans (PR.out.2.2.2.2.2.1 kk _ e1)
      have xz := PR.out.2.2.1 _ (List.mem_of_getElem? e1)
      have RD := Lib.hid (fun q (h : partG (kk + 1 == n) (xs[kk]'hlt').data.toList = some q) => A.out.1.add (x := (xs[kk]'hlt').data.toList) (g := q) (by simp [e1]) (by rw [List.length_map, PR.out.1]; exact h))
      have RN := Lib.hid (fun (h : partG (kk + 1 == n) (xs[kk]'hlt').data.toList = none) => parts_none PR.out.2.1 H4.out (k := kk) (x := (xs[kk]'hlt').data.toList) (by simp [e1]) (by rw [List.length_map, PR.out.1]; exact h))
      clear e1
      generalize xs[kk]'hlt' = x at *
      have SP := Lib.hid (fun w => r_split x 58 (by omega) w)
      rw [show (((58 : UInt8).toNat : Nat) : Int) = 58 from rfl] at SP
      have xl : x.data.toList.length = x.size := by simp
      go_upto_region 25 with (go_at_call 31; refine (SP.out _).mono ?_; rintro q w5 ⟨⟨v, ws, rfl, hv, hw⟩, hb⟩)
      have A5 := Lib.hid (A.out.2.on hb)
      obtain ⟨bl, ol, cl, rfl, hcl, hbl, hws⟩ := hv
      have XW := Lib.hid hw
      have XS := Lib.hid hws
      have c2 := (hb.cell (p := ⟨g, kk, none⟩) (block_lt_of_cell c1)).trans c1
      have U0 : Hid (Own w5 w5 5 (ints .u8 (g2b [])) (.slice none 0 0)) := Lib.hid (Own.nil _ _)
      have L1 : 1 ≤ ws.length := by
        rcases Nat.eq_zero_or_pos ws.length with h | h
        · rw [List.length_eq_zero_iff.1 h] at hw
          exact absurd hw.symm (words_ne _ _)
        · exact h
      have L2 : ws.length ≤ 2001 := by
        have := congrArg List.length hw
        rw [List.length_map, words_count] at this
        have := List.count_le_length (a := (58 : UInt8)) (l := x.data.toList)
        omega
      clear hw hws hb SP c1
      generalize hL : ws.length = L at *
      have HL := Lib.hid hL
      clear hL
      by_cases hx0 : x.data.toList = []
      · -- <c
        have e0 : (x.toList == []) = true := by rw [ByteArray.toList_eq, hx0]; rfl
        have R1 := Lib.hid (RD.out [] (by unfold partG; rw [if_pos hx0]))
        clear hx0 RD RN
        go_wp2
        go_loopw [13, 15] (fun u i wr => u = .slice none 0 0 ∧ i = .int .i64 0 ∧ wr = w5) (fun _ _ _ => 0)
        case atStart => exact ⟨rfl, rfl, rfl⟩
        case round =>
          obtain ⟨rfl, rfl, hw⟩ := hrel
          rw [hw]
          clear hw
          have F1 := Lib.hid (A5.out.2.1.on (below_alloc w5 (.cells #[.slice none 0 0] 33)))
          go_wp2_with (at_builtin; refine wp_append_any rfl _ _ 70 33 (.slice none 0 0) 24 Tryz.underlying70 info_bytes rfl (by decide) rfl w3 _ _ _ rfl F1.out ⟨_, 0, none⟩ 1 1 [.slice none 0 0] rfl rfl (cell_one_new _ _ _) (fun u hu => by simp at hu; subst hu; rfl) (by have := A5.out.1; have := A.out.1.1; simp at *; omega) ?_)
          intro v' w6 F2 gr hat
          have A6 := Lib.hid (A5.out.add (b := g2b []) U0.out (below_alloc w5 (.cells #[.slice none 0 0] 33)) F2 gr (by simpa using hat))
          clear F2 gr hat A5
          go_wp2
          go_roundw
          case rel => exact ⟨kk + 1, gs ++ [[]], vs ++ [.slice none 0 0], by omega, by rw [many_add]; go_num, by go_num, by rw [many_add]; simp; omega, R1.out, by rw [List.map_append]; exact A6.out⟩
          case measure => simp [intOf]; omega
        -- c>
      · have e0 : (x.toList == []) = false := by rw [ByteArray.toList_eq]; simpa using hx0
        have SZ := Lib.hid (fun y (hy : y ∈ words 58 x.data.toList) => show y.length ≤ 2000 by
          have := word_size hy
          omega)
        have D0 := Lib.hid (show Done (kk + 1 == n) (ws.map (·.data.toList)) 0 [] from Done.start (by rw [XW.out]; exact words_ne _ _))
        go_wp2
        go_loopw [13, 15] (fun u i wr => ∃ (m : Nat) (q : List Nat), m ≤ L ∧ i = .int .i64 m ∧ Hid (Done (kk + 1 == n) (ws.map (·.data.toList)) m q ∧ q.length ≤ m + 1 ∧ Own w5 wr 5 (ints .u8 (g2b q)) u)) (fun _ i _ => L - (intOf i).toNat)
        case atStart => exact ⟨0, [], by omega, rfl, D0.out, by simp, U0.out⟩
        case round =>
          clear U0 D0
          obtain ⟨m, q, hm, rfl, U⟩ := hrel
          by_cases hlm : m < L
          · have hlm' : m < ws.length := by rw [HL.out]; exact hlm
            have e1 : ws[m]? = some (ws[m]'hlm') := List.getElem?_eq_getElem _
            have c3 := (U.out.2.2.2.cell (p := ⟨bl, ol + m, none⟩) (by exact hbl)).trans (XS.out m _ e1)
            have c4 := (U.out.2.2.2.cell (p := ⟨g, kk, none⟩) (block_lt_of_cell c2)).trans c2
            have MM := Lib.hid (show (ws.map (·.data.toList))[m]? = some (ws[m]'hlm').data.toList by simp [e1])
            clear e1
            generalize ws[m]'hlm' = y at *
            have yz : y.size ≤ 2000 := by rw [← len_list]; exact SZ.out _ (XW.out ▸ List.mem_of_getElem? MM.out)
            have F := Lib.hid (fun w => r_four y (by omega) w)
            have RX := Lib.hid (fun w => r_hex y (by omega) w)
            have QL := Lib.hid (show q.length ≤ m by have := optAll_length (U.out.1.before (by rw [List.length_map, HL.out]; exact hlm)); rw [List.length_take] at this; omega)
            -- <d
            by_cases hA : kk + 1 = n
            · have eL : (n : Int) - 1 = (kk : Int) := by omega
              have hA := Lib.hid hA
              by_cases hB : m + 1 = L
              · have eM : (L : Int) - 1 = (m : Int) := by omega
                have hB := Lib.hid hB
                cases hp : p4 y.data.toList with
                | none =>
                  -- <d1
                  have F0 := Lib.hid (fun w => r_four_none y (by omega) hp w)
                  go_upto_region 30 with (go_at_call 30; refine (F0.out _).mono ?_; rintro q6 w6 ⟨rfl, hb⟩; have U6 := Lib.hid (And.intro U.out.1 (And.intro U.out.2.1 (U.out.2.2.on hb))); have c5 := (hb.cell (p := ⟨bl, ol + m, none⟩) (block_lt_of_cell c3)).trans c3; clear hb)
                  clear U c3 c4 F0
                  have U := U6
                  clear U6
                  cases hh : hexO y.data.toList with
                  | none =>
                    have N := Lib.hid (RN.out (partG_none (i := m) hx0 (by rw [← XW.out]; exact MM.out) hh (fun _ _ => hp)))
                    rw [hexR_none hh] at RX
                    have P7 := Lib.hid (P3.out.on (A5.out.2.1.2.trans (U.out.2.2.2.mono A5.out.2.1.2.size)))
                    have d := P7.out.load rfl
                    have s2 := P7.out.store rfl
                    have D := Lib.hid (P7.out.done false n16)
                    clear hh RN RD U F P7
                    go_wp2_with (first | (go_at_call 32; refine (RX.out _).mono ?_; rintro q7 w7 ⟨rfl, rfl⟩) | (refine wl_load rfl _ _ rfl _ rfl _ d ?_) | (refine wl_store rfl _ _ _ rfl _ rfl (.agg (adC false n16)) rfl _ s2 ?_))
                    exact bodyPost_ret (res_pair (p := 2) (q := 3) rfl _ _ w.heap.size 24 (adC false n16) (.bool false) _ rfl rfl D.out.1 Tryz.underlying24 rfl (by rw [infA, adC_size]; rfl)) rfl ⟨by rw [rpV_none N.out], D.out.2⟩
                  | some h =>
                    have h16 := hexO_lt hh
                    rw [hexR_some hh] at RX
                    have NX := Lib.hid (U.out.1.hex MM.out hh (fun _ _ => hp))
                    have F1 := Lib.hid (U.out.2.2.on (below_alloc w6 (.cells #[.int .u8 ((h : Int) / 256), .int .u8 ((h : Int) % 256)] 5)))
                    clear hh RN RD U F
                    go_wp2_with (first
                      | (go_at_call 32; refine (RX.out _).mono ?_; rintro q7 w7 ⟨rfl, rfl⟩)
                      | (at_builtin; refine wp_append_any rfl _ _ 33 5 (.int .u8 0) 1 Tryz.underlying33 info_u8 rfl (by decide) rfl w5 _ _ _ rfl F1.out ⟨_, 0, none⟩ 2 2 [.int .u8 ((h : Int) / 256), .int .u8 ((h : Int) % 256)] rfl rfl (cells_new _ _ _) (fun u hu => by simp at hu; rcases hu with rfl | rfl <;> rfl) (by rw [ints_length, g2b_length]; have := QL.out; omega) ?_))
                    intro v' w8 U8 _ _
                    have U8 := Lib.hid U8
                    clear F1
                    go_wp2
                    go_roundw
                    case rel => exact ⟨m + 1, q ++ [h], by omega, by go_num, NX.out, by have := QL.out; simp; omega, by rw [g2b_append, ints_append, g2b_one]; exact U8.out⟩
                    case measure => simp [intOf]; omega
                  -- d1>
                | some b =>
                  -- <d2
                  obtain ⟨b4, bB, _⟩ := p4_some hp
                  have FF := Lib.hid (fun w => r_four y (by omega) w)
                  rw [hp] at FF
                  have NX := Lib.hid (show Done (kk + 1 == n) (ws.map (·.data.toList)) (m + 1) (q ++ pair b) from by
                    have hd := U.out.1
                    rw [show (kk + 1 == n) = true by simpa using hA.out] at hd ⊢
                    exact hd.dots MM.out (by rw [List.length_map, HL.out]; exact hB.out) hp)
                  have PL := Lib.hid (pair_len b4)
                  go_upto_region 29 with (go_at_call 30; refine (FF.out _).mono ?_; rintro q6 w6 ⟨⟨v6, rfl, hv⟩, hb⟩; have U6 := Lib.hid (U.out.2.2.on hb); have c5 := (hb.cell (p := ⟨bl, ol + m, none⟩) (block_lt_of_cell c3)).trans c3; clear hb; obtain ⟨ga, ca, rfl, _, _, _, _⟩ := hv)
                  clear U c3 c4 RD RN RX F
                  go_wp2_with (first
                    | (go_at_call 30; refine (FF.out _).mono ?_; rintro q7 w7 ⟨⟨v7, rfl, hv⟩, hb⟩; have U7 := Lib.hid (U6.out.on hb); clear hb U6; obtain ⟨gb, cb, rfl, hcb, hgb, hgc, hbx⟩ := hv; have HX := Lib.hid hbx; clear hbx hcb hgb)
                    | (at_builtin; refine wp_append_any rfl _ _ 33 5 (.int .u8 0) 1 Tryz.underlying33 info_u8 rfl (by decide) rfl w5 _ _ _ rfl U7.out ⟨gb, 0, none⟩ 4 cb (ints .u8 b) rfl (by rw [ints_length, b4]) (fun j u hj => by
                        rw [Lib.add_plain, Nat.zero_add]
                        simp only [ints, List.getElem?_map, Option.map_eq_some_iff] at hj
                        obtain ⟨z, hz, rfl⟩ := hj
                        exact HX.out j z hz) (ints_one _ _) (by rw [ints_length, g2b_length]; have := QL.out; omega) ?_))
                  intro v' w8 U8 _ _
                  have U8 := Lib.hid U8
                  clear U7
                  go_wp2
                  go_roundw
                  case rel => exact ⟨m + 1, q ++ pair b, by omega, by go_num, NX.out, by have := QL.out; have := PL.out; simp; omega, by rw [g2b_append, ints_append, g2b_pair b4 bB]; exact U8.out⟩
                  case measure => simp [intOf]; omega
                  -- d2>
              · have eM : ((m : Int) == (L : Int) - 1) = false := by simp; omega
                -- <d3
                go_upto_region 30 with fail
                cases hh : hexO y.data.toList with
                | none =>
                  have N := Lib.hid (RN.out (partG_none (i := m) hx0 (by rw [← XW.out]; exact MM.out) hh (fun _ hq => absurd hq (by rw [← XW.out, List.length_map, HL.out]; exact hB))))
                  rw [hexR_none hh] at RX
                  have P7 := Lib.hid (P3.out.on (A5.out.2.1.2.trans (U.out.2.2.2.mono A5.out.2.1.2.size)))
                  have d := P7.out.load rfl
                  have s2 := P7.out.store rfl
                  have D := Lib.hid (P7.out.done false n16)
                  clear hh RN RD U F P7
                  go_wp2_with (first | (go_at_call 32; refine (RX.out _).mono ?_; rintro q7 w7 ⟨rfl, rfl⟩) | (refine wl_load rfl _ _ rfl _ rfl _ d ?_) | (refine wl_store rfl _ _ _ rfl _ rfl (.agg (adC false n16)) rfl _ s2 ?_))
                  exact bodyPost_ret (res_pair (p := 2) (q := 3) rfl _ _ w.heap.size 24 (adC false n16) (.bool false) _ rfl rfl D.out.1 Tryz.underlying24 rfl (by rw [infA, adC_size]; rfl)) rfl ⟨by rw [rpV_none N.out], D.out.2⟩
                | some h =>
                  have h16 := hexO_lt hh
                  rw [hexR_some hh] at RX
                  have NX := Lib.hid (U.out.1.hex MM.out hh (fun _ hq => absurd hq (by rw [List.length_map, HL.out]; exact hB)))
                  have F1 := Lib.hid (U.out.2.2.on (below_alloc wr (.cells #[.int .u8 ((h : Int) / 256), .int .u8 ((h : Int) % 256)] 5)))
                  clear hh RN RD U F
                  go_wp2_with (first
                    | (go_at_call 32; refine (RX.out _).mono ?_; rintro q7 w7 ⟨rfl, rfl⟩)
                    | (at_builtin; refine wp_append_any rfl _ _ 33 5 (.int .u8 0) 1 Tryz.underlying33 info_u8 rfl (by decide) rfl w5 _ _ _ rfl F1.out ⟨_, 0, none⟩ 2 2 [.int .u8 ((h : Int) / 256), .int .u8 ((h : Int) % 256)] rfl rfl (cells_new _ _ _) (fun u hu => by simp at hu; rcases hu with rfl | rfl <;> rfl) (by rw [ints_length, g2b_length]; have := QL.out; omega) ?_))
                  intro v' w8 U8 _ _
                  have U8 := Lib.hid U8
                  clear F1
                  go_wp2
                  go_roundw
                  case rel => exact ⟨m + 1, q ++ [h], by omega, by go_num, NX.out, by have := QL.out; simp; omega, by rw [g2b_append, ints_append, g2b_one]; exact U8.out⟩
                  case measure => simp [intOf]; omega
                -- d3>
            · have eL : ((kk : Int) == (n : Int) - 1) = false := by simp; omega
              -- <d4
              go_upto_region 30 with fail
              cases hh : hexO y.data.toList with
              | none =>
                have N := Lib.hid (RN.out (partG_none (i := m) hx0 (by rw [← XW.out]; exact MM.out) hh (fun hl => absurd (by simpa using hl) hA)))
                rw [hexR_none hh] at RX
                have P7 := Lib.hid (P3.out.on (A5.out.2.1.2.trans (U.out.2.2.2.mono A5.out.2.1.2.size)))
                have d := P7.out.load rfl
                have s2 := P7.out.store rfl
                have D := Lib.hid (P7.out.done false n16)
                clear hh RN RD U F P7
                go_wp2_with (first | (go_at_call 32; refine (RX.out _).mono ?_; rintro q7 w7 ⟨rfl, rfl⟩) | (refine wl_load rfl _ _ rfl _ rfl _ d ?_) | (refine wl_store rfl _ _ _ rfl _ rfl (.agg (adC false n16)) rfl _ s2 ?_))
                exact bodyPost_ret (res_pair (p := 2) (q := 3) rfl _ _ w.heap.size 24 (adC false n16) (.bool false) _ rfl rfl D.out.1 Tryz.underlying24 rfl (by rw [infA, adC_size]; rfl)) rfl ⟨by rw [rpV_none N.out], D.out.2⟩
              | some h =>
                have h16 := hexO_lt hh
                rw [hexR_some hh] at RX
                have NX := Lib.hid (U.out.1.hex MM.out hh (fun hl => absurd (by simpa using hl) hA))
                have F1 := Lib.hid (U.out.2.2.on (below_alloc wr (.cells #[.int .u8 ((h : Int) / 256), .int .u8 ((h : Int) % 256)] 5)))
                clear hh RN RD U F
                go_wp2_with (first
                  | (go_at_call 32; refine (RX.out _).mono ?_; rintro q7 w7 ⟨rfl, rfl⟩)
                  | (at_builtin; refine wp_append_any rfl _ _ 33 5 (.int .u8 0) 1 Tryz.underlying33 info_u8 rfl (by decide) rfl w5 _ _ _ rfl F1.out ⟨_, 0, none⟩ 2 2 [.int .u8 ((h : Int) / 256), .int .u8 ((h : Int) % 256)] rfl rfl (cells_new _ _ _) (fun u hu => by simp at hu; rcases hu with rfl | rfl <;> rfl) (by rw [ints_length, g2b_length]; have := QL.out; omega) ?_))
                intro v' w8 U8 _ _
                have U8 := Lib.hid U8
                clear F1
                go_wp2
                go_roundw
                case rel => exact ⟨m + 1, q ++ [h], by omega, by go_num, NX.out, by have := QL.out; simp; omega, by rw [g2b_append, ints_append, g2b_one]; exact U8.out⟩
                case measure => simp [intOf]; omega
              -- d4>
            -- d>
          · -- <e
            obtain rfl : m = L := by omega
            have R1 := Lib.hid (RD.out q (partG_some hx0 (by rw [← XW.out, List.length_map, HL.out]; exact U.out.1)))
            obtain ⟨a, c, e, hc, _⟩ := U.out.2.2.row
            have O := Lib.hid U.out.2.2
            obtain ⟨ln, hln⟩ : ∃ ln, ln = 2 * q.length := ⟨_, rfl⟩
            have lnb : ln ≤ 4010 := by have := U.out.2.1; omega
            rw [ints_length, g2b_length, ← hln] at e hc
            have LN := Lib.hid hln
            subst e
            have F1 := Lib.hid ((A5.out.2.1.on O.out.2).on (below_alloc wr (.cells #[.slice a ln c] 33)))
            have VL := Lib.hid (show vs.length ≤ 2 by have := A5.out.1; have := A.out.1.1; simp at *; omega)
            clear U hln RD RN
            go_wp2_with (at_builtin; refine wp_append_any rfl _ _ 70 33 (.slice none 0 0) 24 Tryz.underlying70 info_bytes rfl (by decide) rfl w3 _ _ _ rfl F1.out ⟨_, 0, none⟩ 1 1 [.slice a ln c] rfl rfl (cell_one_new _ _ _) (fun u hu => by simp at hu; subst hu; rfl) (by have := VL.out; omega) ?_)
            intro v' w6 F2 gr hat
            have A6 := Lib.hid (A5.out.add (b := g2b q) O.out (below_alloc wr (.cells #[.slice a ln c] 33)) F2 gr (by simpa using hat))
            clear F2 gr hat A5 O F1
            go_wp2
            go_roundw
            case rel => exact ⟨kk + 1, gs ++ [q], vs ++ [.slice a ln c], by omega, by rw [many_add, ← LN.out]; go_num, by go_num, by rw [many_add, ← LN.out]; omega, R1.out, by rw [List.map_append]; exact A6.out⟩
            case measure => simp [intOf]; omega
            -- e>
    · obtain rfl : kk = n := by omega
      have RE := read_end PR.out.2.1 H4.out (by rw [List.length_map, PR.out.1]; exact A.out.1)
      have P8 := Lib.hid (P3.out.on A.out.2.2.1.2)
      have B3 : w.heap.size + 1 < w3.heap.size := P3.out.2.1.lt
      have GL := A.out.1.1
      have VL := A.out.2.1
      rw [List.length_map, GL] at VL
      have AR := Lib.hid A.out.2.2.1.row
      have AX := Lib.hid A.out.2.2.2
      clear P3 H4 PR G3 A
      generalize hM : many gs = M at *
      clear hM
      rcases RE with ⟨bad, N⟩ | ⟨good, x, y, e0, e1, g1, x16, y16, N⟩
      · -- <f
        have N := Lib.hid N
        have d := P8.out.load rfl
        have s2 := P8.out.store rfl
        have D := Lib.hid (P8.out.done false n16)
        rcases bad with ⟨b1, b2⟩ | ⟨b1, b2⟩
        · have em : ((M : Int) != 16) = true := by simp; omega
          go_wp2_with (first | (refine wl_load rfl _ _ rfl _ rfl _ d ?_) | (refine wl_store rfl _ _ _ rfl _ rfl (.agg (adC false n16)) rfl _ s2 ?_))
          exact bodyPost_ret (res_pair (p := 2) (q := 3) rfl _ _ w.heap.size 24 (adC false n16) (.bool false) _ rfl rfl D.out.1 Tryz.underlying24 rfl (by rw [infA, adC_size]; rfl)) rfl ⟨by rw [rpV_none N.out], D.out.2⟩
        · have b1' : ¬ ct < 0 := by omega
          have b2' : (14 : Int) < M := by omega
          go_wp2_with (first | (refine wl_load rfl _ _ rfl _ rfl _ d ?_) | (refine wl_store rfl _ _ _ rfl _ rfl (.agg (adC false n16)) rfl _ s2 ?_))
          exact bodyPost_ret (res_pair (p := 2) (q := 3) rfl _ _ w.heap.size 24 (adC false n16) (.bool false) _ rfl rfl D.out.1 Tryz.underlying24 rfl (by rw [infA, adC_size]; rfl)) rfl ⟨by rw [rpV_none N.out], D.out.2⟩
        -- f>
      · go_upto_region 36 with fail
        go_cut [163] from 150 to 163 (fun v wz => v = .bool false ∧ wz = wr)
        case first =>
          -- <g
          clear P8 AR AX
          by_cases hct : ct < 0
          · obtain rfl : M = 16 := by omega
            go_wp2
            go_meet
            exact ⟨rfl, rfl⟩
          · have h0 : 0 ≤ ct := by omega
            have h14 : ¬ (14 : Int) < M := by omega
            go_wp2
            go_meet
            exact ⟨rfl, rfl⟩
          -- g>
        case rest =>
        obtain ⟨rfl, hw⟩ := hcut
        rw [hw]
        clear hw
        obtain ⟨wF, rfl⟩ : ∃ v : World, v = wr := ⟨_, rfl⟩
        have N := Lib.hid N
        obtain ⟨aa, ca, ea, hca, hra⟩ := AR.out
        rw [VL] at ea hca
        rw [GL] at e1 g1
        obtain ⟨gA, rfl, hAB, hAl, hAx⟩ : ∃ gA, aa = some ⟨gA, 0, none⟩ ∧ w3.heap.size ≤ gA ∧ gA < wF.heap.size ∧ ∀ j u, vs[j]? = some u → wF.cell? ⟨gA, j, none⟩ = some u := by
          rcases hra with h0 | h
          · rw [h0] at VL; simp at VL; omega
          · exact h
        subst ea
        obtain ⟨nl, hnl⟩ : ∃ nl, nl = kk - 1 := ⟨_, rfl⟩
        have ei : (kk : Int) - 1 = (nl : Int) := by omega
        have nlt : nl < kk := by omega
        rw [← hnl] at e1
        obtain ⟨v0, hv0⟩ : ∃ v0, vs[0]? = some v0 := ⟨_, List.getElem?_eq_getElem (by omega)⟩
        obtain ⟨v1, hv1⟩ : ∃ v1, vs[nl]? = some v1 := ⟨_, List.getElem?_eq_getElem (by omega)⟩
        have r0 := (AX.out 0 v0 (g2b x) hv0 (by rw [List.getElem?_map, e0]; rfl)).1
        have r1 := (AX.out nl v1 (g2b y) hv1 (by rw [List.getElem?_map, e1]; rfl)).1
        generalize g2b x = X at *
        generalize g2b y = Y at *
        obtain ⟨a0, c0, ev0, hc0, hr0⟩ := r0
        obtain ⟨a1, c1, ev1, hc1, hr1⟩ := r1
        rw [ints_length] at ev0 hc0 ev1 hc1
        have CX0 := hAx 0 v0 hv0
        have CY0 := hAx nl v1 hv1
        rw [ev0] at CX0
        rw [ev1] at CY0
        have CX := Lib.hid CX0
        have CY := Lib.hid CY0
        have RX := Lib.hid hr0
        have RY := Lib.hid hr1
        have hgA : gA ≠ w.heap.size + 1 := by omega
        have B16 : (X ++ List.replicate (16 - X.length) 0).length = 16 := by simp; omega
        have C16 : ((X ++ List.replicate (16 - X.length) 0).take (16 - Y.length) ++ Y).length = 16 := by rw [List.length_append, List.length_take, B16]; omega
        have MX := mix_front X
        have MY : mix (X ++ List.replicate (16 - X.length) 0) ((X ++ List.replicate (16 - X.length) 0).take (16 - Y.length) ++ Y) (16 - Y.length) = X ++ List.replicate (16 - X.length) 0 := by
          unfold mix
          rw [List.take_left' (by rw [List.length_take, B16]; omega), List.take_append_drop]
        have XG : ∀ i n, X[i]? = some n → (X ++ List.replicate (16 - X.length) 0)[i]? = some n := fun i n h => by
          rw [List.getElem?_append_left (List.getElem?_eq_some_iff.1 h).1]; exact h
        have YG : ∀ i n, Y[i]? = some n → ((X ++ List.replicate (16 - X.length) 0).take (16 - Y.length) ++ Y)[16 - Y.length + i]? = some n := fun i n h => by
          rw [List.getElem?_append_right (by rw [List.length_take, B16]; omega), List.length_take, B16, show 16 - Y.length + i - min (16 - Y.length) 16 = i by omega]; exact h
        generalize X ++ List.replicate (16 - X.length) 0 = XZ at *
        generalize hk0 : 16 - Y.length = k0 at *
        have ek : (16 : Int) - (Y.length : Int) = (k0 : Int) := by omega
        have hk16 : k0 + Y.length = 16 := by omega
        generalize XZ.take k0 ++ Y = C at *
        have MX := Lib.hid MX
        have MY := Lib.hid MY
        have XG := Lib.hid XG
        have YG := Lib.hid YG
        clear AR AX hra hAx hv0 hv1 e0 e1 CX0 CY0 ev0 ev1 hr0 hr1 hnl hk0 good VL GL
        obtain ⟨lx, hlx⟩ : ∃ lx, lx = X.length := ⟨_, rfl⟩
        obtain ⟨ly, hly⟩ : ∃ ly, ly = Y.length := ⟨_, rfl⟩
        rw [← hlx] at CX hc0 x16 MX
        rw [← hly] at CY hc1 y16 ek hk16
        have HX := Lib.hid hlx
        have HY := Lib.hid hly
        clear hlx hly
        go_wp2
        go_loopw [17] (fun i wz => ∃ k : Nat, k ≤ lx ∧ i = .int .i64 k ∧ Hid (Fil w wF wz (mix n16 XZ k))) (fun i _ => lx - (intOf i).toNat)
        case atStart => exact ⟨0, by omega, rfl, by rw [mix_zero]; exact Fil.start P8.out⟩
        case round =>
          obtain ⟨k, hk, rfl, F⟩ := hrel
          have c1 := (F.out.2 ⟨gA, 0, none⟩ hgA).trans CX.out
          by_cases hlt2 : k < lx
          · have hX : k < X.length := by rw [← HX.out]; exact hlt2
            have ex : X[k]? = some (X[k]'hX) := List.getElem?_eq_getElem _
            obtain ⟨g0, rfl, hg0, hg1, hgx⟩ : ∃ g0, a0 = some ⟨g0, 0, none⟩ ∧ w3.heap.size ≤ g0 ∧ g0 < wF.heap.size ∧ ∀ j u, (ints .u8 X)[j]? = some u → wF.cell? ⟨g0, j, none⟩ = some u := by
              rcases RX.out with h0 | h
              · have := congrArg List.length h0
                rw [ints_length, List.length_nil] at this
                omega
              · exact h
            have c2 := (F.out.2 ⟨g0, k, none⟩ (by dsimp only; omega)).trans (hgx k _ (ints_get ex))
            have Z := Lib.hid (F.out.put rfl B16 (XG.out _ _ ex))
            obtain ⟨z, c3⟩ := F.out.1.cell (k := k) (by rw [mix_length (n := 16) rfl B16 (by omega)]; omega)
            have f3 := F.out.1.2.1.free (1 + k)
            clear hgx F ex
            generalize X[k]'hX = xn at *
            go_wp2
            go_roundw
            case rel => exact ⟨k + 1, by omega, by go_num, Z⟩
            case measure => simp [intOf]; omega
          · obtain rfl : k = lx := by omega
            have F1 : Hid (PA w wr false XZ ∧ ∀ a : Addr, a.block ≠ w.heap.size + 1 → wr.cell? a = wF.cell? a) := Lib.hid (by have := F.out; rw [show n16 = List.replicate 16 0 from rfl, MX.out] at this; exact this)
            have c4 := (F.out.2 ⟨gA, nl, none⟩ hgA).trans CY.out
            clear F P8
            go_wp2
            obtain ⟨wG, rfl⟩ : ∃ v : World, v = wr := ⟨_, rfl⟩
            go_loopw [19] (fun i wz => ∃ k : Nat, k ≤ ly ∧ i = .int .i64 k ∧ Hid (Fil w wG wz (mix XZ C (k0 + k)))) (fun i _ => ly - (intOf i).toNat)
            case atStart => exact ⟨0, by omega, rfl, by rw [Nat.add_zero, MY.out]; exact Fil.start F1.out.1⟩
            case round =>
              obtain ⟨k, hk, rfl, F⟩ := hrel
              clear c1 c4
              by_cases hlt3 : k < ly
              · have hY : k < Y.length := by rw [← HY.out]; exact hlt3
                have ey : Y[k]? = some (Y[k]'hY) := List.getElem?_eq_getElem _
                obtain ⟨g0, rfl, hg0, hg1, hgy⟩ : ∃ g0, a1 = some ⟨g0, 0, none⟩ ∧ w3.heap.size ≤ g0 ∧ g0 < wF.heap.size ∧ ∀ j u, (ints .u8 Y)[j]? = some u → wF.cell? ⟨g0, j, none⟩ = some u := by
                  rcases RY.out with h0 | h
                  · have := congrArg List.length h0
                    rw [ints_length, List.length_nil] at this
                    omega
                  · exact h
                have c2 := ((F.out.2 ⟨g0, k, none⟩ (by dsimp only; omega)).trans (F1.out.2 ⟨g0, k, none⟩ (by dsimp only; omega))).trans (hgy k _ (ints_get ey))
                have Z := Lib.hid (F.out.put B16 C16 (YG.out _ _ ey))
                obtain ⟨z, c3⟩ := F.out.1.cell (k := k0 + k) (by rw [mix_length B16 C16 (by omega)]; omega)
                have f3 := F.out.1.2.1.free (1 + (k0 + k))
                have hi1 : (0 : Int) ≤ (k0 : Int) + k := by omega
                have hi2 : (k0 : Int) + k < 16 := by omega
                clear hgy F ey
                generalize Y[k]'hY = yn at *
                go_wp2
                go_roundw
                case rel => exact ⟨k + 1, by omega, by go_num, Z⟩
                case measure => simp [intOf]; omega
              · obtain rfl : k = ly := by omega
                have F2 := F.out.1
                rw [hk16, mix_all B16 C16] at F2
                have F2 := Lib.hid F2
                clear F F1
                have F3 := Lib.hid F2.out.mark
                obtain ⟨z, c3⟩ : ∃ z, wr.cell? ⟨w.heap.size + 1, 0, none⟩ = some z := ⟨_, F2.out.2.1.cell (ad_head _ _)⟩
                have f3 := F2.out.2.1.free 0
                clear F2
                go_upto_region 48 with fail
                generalize wr.setCell ⟨w.heap.size + 1, 0, none⟩ (.bool true) = w9 at *
                have d := F3.out.load C16
                have s2 := F3.out.store C16
                have D := Lib.hid (F3.out.done true C)
                have I := Lib.hid (show (Tryz.prog.info? 24).map (·.size) = some (adC true C).size by rw [infA, adC_size, C16])
                clear F3 c3 f3
                go_wp2_with (first | (refine wl_load rfl _ _ rfl _ rfl _ d ?_) | (refine wl_store rfl _ _ _ rfl _ rfl (.agg (adC true C)) rfl _ s2 ?_))
                exact bodyPost_ret (res_pair (p := 2) (q := 3) rfl _ _ w.heap.size 24 (adC true C) (.bool true) _ rfl rfl D.out.1 Tryz.underlying24 rfl I.out) rfl ⟨by rw [rpV_some N.out], D.out.2⟩
theorem r_parse (s : ByteArray) (hs : s.size ≤ 2000) (w : World) : Calls Tryz.prog 16 #[.string s] w fun e w' => e = .returned (rpV s.data.toList) ∧ Below w.heap.size w w' := by
  cases h : p4 s.data.toList with
  | none => exact r_parse6 s hs h w
  | some b => exact r_parse4 s (by omega) b h w
end Go.Proofs.YthghanidabmfgaaGreatDoor
