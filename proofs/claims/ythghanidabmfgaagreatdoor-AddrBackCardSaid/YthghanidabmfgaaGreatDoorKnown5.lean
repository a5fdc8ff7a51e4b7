/-
  The statements' own 'known': the chapter's rows.
-/
import Derived.Test.YthghanidabmfgaaGreatDoorParse5
namespace Go.Proofs.YthghanidabmfgaaGreatDoor
open Go.RowKit Go.Sort
set_option maxRecDepth 8000
/-! ### Texts, reckoned -/
def hexsF : Nat → Nat → List UInt8
  | 0, _ => []
  | k + 1, n => if n < 16 then [hxd n] else hexsF k (n / 16) ++ [hxd (n % 16)]
theorem hexs_fuel : ∀ (k n : Nat), n < 16 ^ k → 1 ≤ k → hexs n = hexsF k n
  | 0, _, _, h => absurd h (by decide)
  | k + 1, n, h, _ => by
    rw [hexs, hexsF]
    by_cases c : n < 16
    · rw [if_pos c, if_pos c]
    · rw [if_neg c, if_neg c]
      have : 1 ≤ k := by
        rcases Nat.eq_zero_or_pos k with rfl | h'
        · simp at h; omega
        · exact h'
      rw [hexs_fuel k (n / 16) (by rw [Nat.pow_succ] at h; omega) this]
theorem map_fuel {g : List Nat} (h : ∀ n ∈ g, n < 65536) : g.map hexs = g.map (hexsF 4) := List.map_congr_left fun n hn => hexs_fuel 4 n (by have := h n hn; omega) (by decide)
def t6F (g : List Nat) : List UInt8 := if (zrun (isZ g)).2 = (zrun (isZ g)).1 then joinC 58 (g.map (hexsF 4)) else joinC 58 ((g.take (zrun (isZ g)).1).map (hexsF 4)) ++ 58 :: 58 :: joinC 58 ((g.drop (zrun (isZ g)).2).map (hexsF 4))
theorem t6_fuel {g : List Nat} (h : ∀ n ∈ g, n < 65536) : t6 g = t6F g := by
  unfold t6 t6F
  rw [map_fuel h, map_fuel fun n hn => h n (List.mem_of_mem_take hn), map_fuel fun n hn => h n (List.mem_of_mem_drop hn)]
def kb1 : List Int := [32, 1, 13, 184, 0, 0, 0, 0, 0, 1, 0, 0, 0, 0, 0, 1]
def kb2 : List Int := [0, 0, 0, 0, 0, 0, 0, 0, 0, 0, 255, 255, 1, 2, 3, 4]
def kb3 : List Int := [0, 0, 0, 0, 0, 0, 0, 0, 0, 0, 0, 0, 0, 0, 0, 1]
def ks1 : List UInt8 := [50, 48, 48, 49, 58, 100, 98, 56, 58, 48, 58, 48, 58, 49, 58, 48, 58, 48, 58, 49]
def ks2 : List UInt8 := [58, 58, 102, 102, 102, 102, 58, 49, 46, 50, 46, 51, 46, 52]
def ks3 : List UInt8 := [58, 58, 49]
def kx : Nat → List UInt8
  | 0 => [49, 46, 50, 46, 51]
  | 1 => [49, 58, 58, 50, 58, 58, 51]
  | 2 => [48, 49, 46, 50, 46, 51, 46, 52]
  | 3 => [49, 58, 50, 58, 51, 58, 52, 58, 53, 58, 54, 58, 55, 58, 56, 58, 58]
  | 4 => []
  | 5 => [58]
  | 6 => [49, 58, 50]
  | _ => [58, 58, 58]
theorem itoa_one (n : Nat) (h : n < 10) : Lib.itoa (n : Int) = [UInt8.ofNat (48 + n)] := by
  unfold Lib.itoa
  rw [if_neg (by omega), Int.toNat_natCast, Lib.decDigits, dif_pos h]
theorem p4_1234 : p4 [49, 46, 50, 46, 51, 46, 52] = some [1, 2, 3, 4] := by
  have e : t4 [1, 2, 3, 4] = [49, 46, 50, 46, 51, 46, 52] := by
    unfold t4
    rw [show ([1, 2, 3, 4] : List Int).map Lib.itoa = [Lib.itoa ((1 : Nat) : Int), Lib.itoa ((2 : Nat) : Int), Lib.itoa ((3 : Nat) : Int), Lib.itoa ((4 : Nat) : Int)] from rfl,
      itoa_one 1 (by decide), itoa_one 2 (by decide), itoa_one 3 (by decide), itoa_one 4 (by decide)]
    decide +kernel
  rw [← e]
  exact p4_t4 rfl (by unfold Byte; decide)
theorem p4_words {l : List UInt8} (h : (words 46 l).length ≠ 4) : p4 l = none := if_neg h
theorem parse_k1 : parseA ks1 = some (true, kb1) := by
  have h4 : p4 ks1 = none := p4_words (by decide +kernel)
  have hl : p4 (lastW ks1) = none := p4_words (by decide +kernel)
  unfold parseA
  rw [h4]
  dsimp only
  have : q6 ks1 = some (b2g kb1) := by
    have eu : und6 ks1 = ks1 := by unfold und6; rw [hl]
    unfold q6
    rw [eu]
    decide +kernel
  rw [this]
  decide +kernel
theorem parse_k2 : parseA ks2 = some (true, kb2) := by
  have h4 : p4 ks2 = none := by
    cases h : p4 ks2 with
    | none => rfl
    | some b => exact absurd (by decide +kernel : (58 : UInt8) ∈ ks2) (p4_free h).1
  have hl : p4 (lastW ks2) = some [1, 2, 3, 4] := by
    rw [show lastW ks2 = [49, 46, 50, 46, 51, 46, 52] by decide +kernel]; exact p4_1234
  unfold parseA
  rw [h4]
  dsimp only
  have : q6 ks2 = some (b2g kb2) := by
    have eu : und6 ks2 = headW ks2 ++ h8 [1, 2, 3, 4] := by unfold und6; rw [hl]
    unfold q6
    rw [eu]
    decide +kernel
  rw [this]
  decide +kernel
theorem parse_k3 : parseA ks3 = some (true, kb3) := by
  have h4 : p4 ks3 = none := p4_words (by decide +kernel)
  have hl : p4 (lastW ks3) = none := p4_words (by decide +kernel)
  unfold parseA
  rw [h4]
  dsimp only
  have : q6 ks3 = some (b2g kb3) := by
    have eu : und6 ks3 = ks3 := by unfold und6; rw [hl]
    unfold q6
    rw [eu]
    decide +kernel
  rw [this]
  decide +kernel
def cutG (l : List UInt8) : Option (List Nat) := match cut2 l with
  | none => match unl l with
    | some gs => if gs.length = 8 then some gs else none
    | none => none
  | some (f, b) => match unl f, unl b with
    | some x, some y => if x.length + y.length ≤ 7 then some (fill8 x y) else none
    | _, _ => none
theorem parse_plain {l : List UInt8} (h4 : p4 l = none) (hl : p4 (lastW l) = none) (h : cutG l = none) : parseA l = none := by
  have eu : und6 l = l := by unfold und6; rw [hl]
  have eq : q6 l = cutG (und6 l) := rfl
  unfold parseA
  rw [h4, eq, eu, h]; rfl
theorem p4_lead : p4 [48, 49, 46, 50, 46, 51, 46, 52] = none := by
  unfold p4
  rw [if_pos (by decide +kernel)]
  refine optAll_none (a := [48, 49]) (by decide +kernel) ?_
  unfold num?
  rw [if_neg]
  intro h
  have e : cand [48, 49] = ((1 : Nat) : Int) := by decide +kernel
  rw [e, itoa_one 1 (by decide)] at h
  revert h
  decide
theorem parse_kx : ∀ k, parseA (kx k) = none
  | 0 => parse_plain (p4_words (by decide +kernel)) (p4_words (by decide +kernel)) (by decide +kernel)
  | 1 => parse_plain (p4_words (by decide +kernel)) (p4_words (by decide +kernel)) (by decide +kernel)
  | 2 => parse_plain p4_lead (by rw [show lastW (kx 2) = [48, 49, 46, 50, 46, 51, 46, 52] by decide +kernel]; exact p4_lead) (by decide +kernel)
  | 3 => parse_plain (p4_words (by decide +kernel)) (p4_words (by decide +kernel)) (by decide +kernel)
  | 4 => parse_plain (p4_words (by decide +kernel)) (p4_words (by decide +kernel)) (by decide +kernel)
  | 5 => parse_plain (p4_words (by decide +kernel)) (p4_words (by decide +kernel)) (by decide +kernel)
  | 6 => parse_plain (p4_words (by decide +kernel)) (p4_words (by decide +kernel)) (by decide +kernel)
  | _ + 7 => parse_plain (l := [58, 58, 58]) (p4_words (by decide +kernel)) (p4_words (by decide +kernel)) (by decide +kernel)
theorem isA_kb : IsA kb1 ∧ IsA kb2 ∧ IsA kb3 := ⟨⟨rfl, by unfold Byte; decide⟩, ⟨rfl, by unfold Byte; decide⟩, ⟨rfl, by unfold Byte; decide⟩⟩
theorem text_k1 : tx true kb1 = [50, 48, 48, 49, 58, 100, 98, 56, 58, 58, 49, 58, 48, 58, 48, 58, 49] := by
  show t6 (b2g kb1) = _
  rw [t6_fuel (b2g_lt isA_kb.1.2)]
  decide +kernel
theorem text_k2 : tx true kb2 = [58, 58, 102, 102, 102, 102, 58, 49, 48, 50, 58, 51, 48, 52] := by
  show t6 (b2g kb2) = _
  rw [t6_fuel (b2g_lt isA_kb.2.1.2)]
  decide +kernel
theorem text_k3 : te true kb3 123 = [91, 58, 58, 49, 93, 58, 49, 50, 51] := by
  unfold te
  rw [if_pos rfl, show tx true kb3 = t6 (b2g kb3) from rfl, t6_fuel (b2g_lt isA_kb.2.2.2)]
  have : Lib.itoa 123 = [49, 50, 51] := by
    unfold Lib.itoa
    rw [if_neg (by decide), show (123 : Int).toNat = 123 from rfl, Lib.decDigits_eq]
    decide +kernel
  rw [this]
  decide +kernel
/-! ### The walk -/
theorem tells_parse (l : List UInt8) (h : l.length ≤ 4000) : Tells 15 #[.string (str l)] (paV l) := fun w hw => by
  have := t_parse (str l) (by rw [str_size]; exact h) w hw
  rwa [str_list] at this
theorem prV_ok {v : Bool} {b : List Int} (m : mayB v b = true) : prV v b = .tuple #[.string (str (tx v b)), .int .i64 0] := if_pos m
theorem enV_ok {v : Bool} {b : List Int} {p : Int} (m : mayB v b = true) : enV v b p = .tuple #[.string (str (te v b p)), .int .i64 0] := if_pos m
theorem beq_str {l m : List UInt8} (h : l = m) : ((str l).toList == m) = true := by rw [ByteArray.toList_eq, str_list, h]; simp
/-- The texts of none lie in block b. -/
def Kx (w : World) (b : Nat) : Prop := b < w.heap.size ∧ ∀ k, k < 8 → w.cell? ⟨b, k, none⟩ = some (.string (str (kx k)))
theorem Kx.on {w w' : World} {b : Nat} (h : Kx w b) (hb : Below w.heap.size w w') : Kx w' b := ⟨Nat.lt_of_lt_of_le h.1 hb.size, fun k hk => (hb.cell (by exact h.1)).trans (h.2 k hk)⟩
theorem below_new {w W : World} (h : Below w.heap.size w W) (T : TypeId) (zs cs : Array Value) : Below w.heap.size w ((W.alloc (.cells zs T)).setRow W.heap.size cs) := (new_row T zs cs h).2
set_option maxHeartbeats 4000000 in
theorem known_any (w : World) (hw : Env5 w) : Calls Tryz.prog 7 #[] w fun e w' => e = .returned (.bool true) ∧ Below w.heap.size w w' := by
  have G := Lib.hid hw
  clear hw
  have P1 := Lib.hid ((tells_parse ks1 (by decide)).as (args' := #[.string ⟨#[50, 48, 48, 49, 58, 100, 98, 56, 58, 48, 58, 48, 58, 49, 58, 48, 58, 48, 58, 49]⟩]) rfl (paV_some parse_k1))
  have P2 := Lib.hid ((tells_parse ks2 (by decide)).as (args' := #[.string ⟨#[58, 58, 102, 102, 102, 102, 58, 49, 46, 50, 46, 51, 46, 52]⟩]) rfl (paV_some parse_k2))
  have P3 := Lib.hid ((tells_parse ks3 (by decide)).as (args' := #[.string ⟨#[58, 58, 49]⟩]) rfl (paV_some parse_k3))
  have R1 := Lib.hid (fun w hw => t_print true kb1 isA_kb.1 w hw)
  have R2 := Lib.hid (fun w hw => t_print true kb2 isA_kb.2.1 w hw)
  have R3 := Lib.hid (fun w hw => t_ends true kb3 123 isA_kb.2.2 (by omega) w hw)
  rw [prV_ok rfl] at R1 R2
  rw [enV_ok rfl] at R3
  have M := Lib.hid (fun w => t_may false [0, 0, 0, 0, 0, 0, 0, 0, 0, 0, 0, 0, 0, 0, 0, 1] rfl w)
  rw [show mayB false [0, 0, 0, 0, 0, 0, 0, 0, 0, 0, 0, 0, 0, 0, 0, 1] = false by decide, show adC false [0, 0, 0, 0, 0, 0, 0, 0, 0, 0, 0, 0, 0, 0, 0, 1] = #[.bool false, .int .u8 0, .int .u8 0, .int .u8 0, .int .u8 0, .int .u8 0, .int .u8 0, .int .u8 0, .int .u8 0, .int .u8 0, .int .u8 0, .int .u8 0, .int .u8 0, .int .u8 0, .int .u8 0, .int .u8 0, .int .u8 1] from rfl] at M
  have k1 := beq_str text_k1
  have k2 := beq_str text_k2
  have k3 := beq_str text_k3
  generalize str (tx true kb1) = s1 at *
  generalize str (tx true kb2) = s2 at *
  generalize str (te true kb3 123) = s3 at *
  have l1 : kb1.length = 16 := rfl
  have l2 : kb2.length = 16 := rfl
  have l3 : kb3.length = 16 := rfl
  generalize kb1 = b1 at *
  generalize kb2 = b2 at *
  generalize kb3 = b3 at *
  go_enter Tryz.func7, Tryz.ntmps7
  go_upto_region 2 with (first
    | (go_at_call 15; refine (P1.out _ G.out).mono ?_; rintro e w1 ⟨rfl, hb⟩; have S1 := Lib.hid hb; clear hb)
    | (refine wl_store rfl _ _ _ rfl _ rfl (.agg (adC true b1)) rfl _ (st_newA (v := true) (b := b1) l1 w1) ?_))
  have A1 := Lib.hid (new_row 24 #[.bool false, .int .u8 0, .int .u8 0, .int .u8 0, .int .u8 0, .int .u8 0, .int .u8 0, .int .u8 0, .int .u8 0, .int .u8 0, .int .u8 0, .int .u8 0, .int .u8 0, .int .u8 0, .int .u8 0, .int .u8 0, .int .u8 0] (adC true b1) S1.out)
  generalize (w1.alloc (.cells #[.bool false, .int .u8 0, .int .u8 0, .int .u8 0, .int .u8 0, .int .u8 0, .int .u8 0, .int .u8 0, .int .u8 0, .int .u8 0, .int .u8 0, .int .u8 0, .int .u8 0, .int .u8 0, .int .u8 0, .int .u8 0, .int .u8 0] 24)).setRow w1.heap.size (adC true b1) = w2 at *
  generalize w1.heap.size = g1 at *
  have d1 := ld_addr l1 A1.out.1
  go_upto_region 3 with (first
    | (refine wl_load rfl _ _ rfl _ rfl _ d1 ?_)
    | (go_at_call 8; refine (R1.out _ (G.out.below A1.out.2)).mono ?_; rintro e w3 ⟨rfl, hb⟩; have S3 := Lib.hid (A1.out.2.trans (hb.mono A1.out.2.size)); clear hb d1))
  clear A1 S1
  go_upto_region 4 with (first
    | (go_at_call 15; refine (P2.out _ (G.out.below S3.out)).mono ?_; rintro e w4 ⟨rfl, hb⟩; have S4 := Lib.hid (S3.out.trans (hb.mono S3.out.size)); clear hb)
    | (refine wl_store rfl _ _ _ rfl _ rfl (.agg (adC true b2)) rfl _ (st_newA (v := true) (b := b2) l2 w4) ?_))
  have A2 := Lib.hid (new_row 24 #[.bool false, .int .u8 0, .int .u8 0, .int .u8 0, .int .u8 0, .int .u8 0, .int .u8 0, .int .u8 0, .int .u8 0, .int .u8 0, .int .u8 0, .int .u8 0, .int .u8 0, .int .u8 0, .int .u8 0, .int .u8 0, .int .u8 0] (adC true b2) S4.out)
  generalize (w4.alloc (.cells #[.bool false, .int .u8 0, .int .u8 0, .int .u8 0, .int .u8 0, .int .u8 0, .int .u8 0, .int .u8 0, .int .u8 0, .int .u8 0, .int .u8 0, .int .u8 0, .int .u8 0, .int .u8 0, .int .u8 0, .int .u8 0, .int .u8 0] 24)).setRow w4.heap.size (adC true b2) = w5 at *
  generalize w4.heap.size = g2 at *
  have d2 := ld_addr l2 A2.out.1
  go_upto_region 5 with (first
    | (refine wl_load rfl _ _ rfl _ rfl _ d2 ?_)
    | (go_at_call 8; refine (R2.out _ (G.out.below A2.out.2)).mono ?_; rintro e w6 ⟨rfl, hb⟩; have S6 := Lib.hid (A2.out.2.trans (hb.mono A2.out.2.size)); clear hb d2))
  clear A2 S3 S4
  clear P1 P2 R1 R2
  go_wp2
  go_loopw [37] (fun i wr => ∃ k : Nat, k ≤ 8 ∧ i = .int .i64 k ∧ Hid (Kx wr w6.heap.size ∧ Below w.heap.size w wr)) (fun i _ => 8 - (intOf i).toNat)
  case atStart =>
    refine ⟨0, by omega, rfl, ⟨by simp, fun k hk => ?_⟩, S6.out.alloc S6.out.size _⟩
    rw [World.cell?_alloc_new]
    rcases (show k = 0 ∨ k = 1 ∨ k = 2 ∨ k = 3 ∨ k = 4 ∨ k = 5 ∨ k = 6 ∨ k = 7 by omega) with rfl | rfl | rfl | rfl | rfl | rfl | rfl | rfl <;> rfl
  case round =>
    obtain ⟨k, hk, rfl, H⟩ := hrel
    by_cases hlt : k < 8
    · have c := H.out.1.2 k hlt
      have U := Lib.hid ((tells_parse (kx k) (by rcases (show k = 0 ∨ k = 1 ∨ k = 2 ∨ k = 3 ∨ k = 4 ∨ k = 5 ∨ k = 6 ∨ k = 7 by omega) with rfl | rfl | rfl | rfl | rfl | rfl | rfl | rfl <;> decide)).as rfl (paV_none (parse_kx k)))
      generalize str (kx k) = x at *
      have e0 := qA0 false n16 rfl
      rw [show decide (false = false ∧ n16 = n16) = true by simp] at e0
      go_upto_region 9 with (first
        | (go_at_call 15; refine (U.out _ (G.out.below H.out.2)).mono ?_; rintro e w7 ⟨rfl, hb⟩; have H7 := Lib.hid (show Kx w7 w6.heap.size ∧ Below w.heap.size w w7 from ⟨H.out.1.on hb, H.out.2.trans (hb.mono H.out.2.size)⟩); clear hb H c U)
        | (refine wl_store rfl _ _ _ rfl _ rfl (.agg (adC false n16)) rfl _ (st_newA (v := false) (b := n16) rfl w7) ?_))
      have A7 := Lib.hid (new_row 24 #[.bool false, .int .u8 0, .int .u8 0, .int .u8 0, .int .u8 0, .int .u8 0, .int .u8 0, .int .u8 0, .int .u8 0, .int .u8 0, .int .u8 0, .int .u8 0, .int .u8 0, .int .u8 0, .int .u8 0, .int .u8 0, .int .u8 0] (adC false n16) H7.out.2)
      have H8 : Hid (Kx ((w7.alloc (.cells #[.bool false, .int .u8 0, .int .u8 0, .int .u8 0, .int .u8 0, .int .u8 0, .int .u8 0, .int .u8 0, .int .u8 0, .int .u8 0, .int .u8 0, .int .u8 0, .int .u8 0, .int .u8 0, .int .u8 0, .int .u8 0, .int .u8 0] 24)).setRow w7.heap.size (adC false n16)) w6.heap.size) := Lib.hid (H7.out.1.on (below_setRow (below_alloc _ _) (Nat.le_refl _) _))
      generalize (w7.alloc (.cells #[.bool false, .int .u8 0, .int .u8 0, .int .u8 0, .int .u8 0, .int .u8 0, .int .u8 0, .int .u8 0, .int .u8 0, .int .u8 0, .int .u8 0, .int .u8 0, .int .u8 0, .int .u8 0, .int .u8 0, .int .u8 0, .int .u8 0] 24)).setRow w7.heap.size (adC false n16) = w8 at *
      generalize w7.heap.size = g7 at *
      have d7 := ld_addr (v := false) (b := n16) rfl A7.out.1
      go_wp2_with (refine wl_load rfl _ _ rfl _ rfl _ d7 ?_)
      go_roundw
      case rel => exact ⟨k + 1, by omega, by go_num, H8.out, A7.out.2⟩
      case measure => simp [intOf]; omega
    · have B := Lib.hid H.out.2
      clear H
      go_upto_region 13 with (first
        | (go_at_call 15; refine (P3.out _ (G.out.below B.out)).mono ?_; rintro e w7 ⟨rfl, hb⟩; have S7 := Lib.hid (B.out.trans (hb.mono B.out.size)); clear hb)
        | (refine wl_store rfl _ _ _ rfl _ rfl (.agg (adC true b3)) rfl _ (st_newA (v := true) (b := b3) l3 w7) ?_))
      have A3 := Lib.hid (new_row 24 #[.bool false, .int .u8 0, .int .u8 0, .int .u8 0, .int .u8 0, .int .u8 0, .int .u8 0, .int .u8 0, .int .u8 0, .int .u8 0, .int .u8 0, .int .u8 0, .int .u8 0, .int .u8 0, .int .u8 0, .int .u8 0, .int .u8 0] (adC true b3) S7.out)
      generalize (w7.alloc (.cells #[.bool false, .int .u8 0, .int .u8 0, .int .u8 0, .int .u8 0, .int .u8 0, .int .u8 0, .int .u8 0, .int .u8 0, .int .u8 0, .int .u8 0, .int .u8 0, .int .u8 0, .int .u8 0, .int .u8 0, .int .u8 0, .int .u8 0] 24)).setRow w7.heap.size (adC true b3) = w8 at *
      generalize w7.heap.size = g3 at *
      have d3 := ld_addr l3 A3.out.1
      go_upto_region 14 with (first
        | (refine wl_load rfl _ _ rfl _ rfl _ d3 ?_)
        | (refine wl_build rfl _ _ rfl [(0, .agg (adC true b3)), (1, .int .u16 123)] rfl _ (built_ends (v := true) (p := 123) l3) ?_)
        | (go_at_call 9; refine (R3.out _ (G.out.below A3.out.2)).mono ?_; rintro e w9 ⟨rfl, hb⟩; have S9 := Lib.hid (A3.out.2.trans (hb.mono A3.out.2.size)); clear hb d3))
      clear A3 S7 P3 R3 B
      go_wp2_with (go_at_call 11; refine (M.out _).mono ?_; rintro e w10 ⟨rfl, hb⟩)
      go_ret
      exact ⟨rfl, S9.out.trans (hb.mono S9.out.size)⟩
end Go.Proofs.YthghanidabmfgaaGreatDoor
