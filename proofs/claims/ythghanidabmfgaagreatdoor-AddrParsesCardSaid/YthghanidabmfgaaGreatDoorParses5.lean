/-
  The document's reading of ends (horologeref05).
  The law AddrParses.
-/
import Derived.Test.YthghanidabmfgaaGreatDoorRParse6
import Derived.Test.YthghanidabmfgaaGreatDoorPEnds5
import Derived.Test.YthghanidabmfgaaGreatDoorRPrint5
namespace Go.Proofs.YthghanidabmfgaaGreatDoor
open Go.RowKit Go.Sort
set_option maxRecDepth 8000
/-- What the call answers. -/
def rqV (l : List UInt8) : Value := match endsA l with
  | some (v, b, p) => .tuple #[.agg (enC v b p), .bool true]
  | none => .tuple #[.agg (enC false n16 0), .bool false]
theorem rqV_none {l : List UInt8} (h : endsA l = none) : rqV l = .tuple #[.agg (enC false n16 0), .bool false] := by unfold rqV; rw [h]
theorem rqV_some {l : List UInt8} {v : Bool} {b : List Int} {p : Int} (h : endsA l = some (v, b, p)) : rqV l = .tuple #[.agg (enC v b p), .bool true] := by unfold rqV; rw [h]
/-- No ends' text has its last colon there; .. ahead of there. -/
def Bad (l : List UInt8) (k : Nat) : Prop := ∀ v b p, IsA b → mayB v b = true → (0 ≤ p ∧ p ≤ 65535) → te v b p = l → (front v b).length ≠ k
def Nxt (l : List UInt8) (k : Nat) : Prop := ∀ v b p, IsA b → mayB v b = true → (0 ≤ p ∧ p ≤ 65535) → te v b p = l → k ≤ (front v b).length
theorem Nxt.step {l : List UInt8} {k : Nat} (h : Nxt l k) (hb : Bad l k) : Nxt l (k + 1) := fun v b p h1 h2 h3 h4 => by
  have := h v b p h1 h2 h3 h4
  have := hb v b p h1 h2 h3 h4
  omega
theorem Nxt.fin {l : List UInt8} (h : Nxt l l.length) : endsA l = none := ends_none fun v b p h1 h2 h3 h4 => by
  have := h v b p h1 h2 h3 h4
  have e := congrArg List.length h4
  rw [te_front, List.length_append, List.length_cons] at e
  omega
theorem Nxt.fin' {l : List UInt8} {k : Nat} (h : Nxt l k) (hl : l.length = k) : endsA l = none := by subst hl; exact h.fin
theorem bad_colon {l : List UInt8} {k : Nat} {c : UInt8} (hc : l[k]? = some c) (h : c ≠ 58) : Bad l k := fun v b p _ _ _ h4 hk => by
  have := (te_at v b p).1
  rw [hk, h4, hc] at this
  exact h (Option.some.inj this)
theorem bad_num {l : List UInt8} {k : Nat} (h : num? 0 65535 (l.drop (k + 1)) = none) : Bad l k := fun v b p _ _ h3 h4 hk => by
  have := (te_at v b p).2.1
  rw [hk, h4] at this
  rw [this, num_itoa h3] at h
  cases h
theorem bad_parse {l : List UInt8} {k : Nat} (h : parseA (strip2 (l.take k)) = none) : Bad l k := fun v b p h1 h2 _ h4 hk => by
  have := (te_at v b p).2.2
  rw [hk, h4] at this
  rw [this, strip2_front h1 h2, parse_tx h1 h2] at h
  cases h
theorem bad_text {l : List UInt8} {k : Nat} {v' : Bool} {b' : List Int} {n : Int} (hn : num? 0 65535 (l.drop (k + 1)) = some n) (hp : parseA (strip2 (l.take k)) = some (v', b')) (h : te v' b' n ≠ l) : Bad l k := fun v b p h1 h2 h3 h4 hk => by
  have e1 := (te_at v b p).2.1
  have e2 := (te_at v b p).2.2
  rw [hk, h4] at e1 e2
  rw [e1, num_itoa h3] at hn
  rw [e2, strip2_front h1 h2, parse_tx h1 h2] at hp
  obtain rfl := Option.some.inj hn
  have := Option.some.inj hp
  rw [Prod.mk.injEq] at this
  obtain ⟨rfl, rfl⟩ := this
  exact h h4
theorem strip2_cases (s : ByteArray) : (s.size ≤ 1 ∧ strip2 s.data.toList = s.data.toList) ∨ (∃ (h : 1 < s.size), (((s[0]'(by omega)).toNat : Int) == 91) = false ∧ strip2 s.data.toList = s.data.toList) ∨
    (∃ (h : 1 < s.size), (((s[0]'(by omega)).toNat : Int) == 91) = true ∧ (((s[s.size - 1]'(by omega)).toNat : Int) == 93) = false ∧ strip2 s.data.toList = s.data.toList) ∨
    (∃ (h : 1 < s.size), (((s[0]'(by omega)).toNat : Int) == 91) = true ∧ (((s[s.size - 1]'(by omega)).toNat : Int) == 93) = true ∧ strip2 s.data.toList = (s.extract 1 (s.size - 1)).data.toList) := by
  have ls : s.data.toList.length = s.size := by simp
  by_cases h : 1 < s.size
  · right
    have e0 := head_byte s (by omega)
    have e1 : s.data.toList.getLast? = some (s[s.size - 1]'(by omega)) := by
      rw [List.getLast?_eq_getElem?, ls, List.getElem?_eq_getElem (by omega)]; rfl
    have q : ∀ (c : UInt8) (n : Nat), c.toNat ≠ n → (((c.toNat : Nat) : Int) == (n : Int)) = false := fun c n h => by simp; omega
    by_cases c0 : s[0]'(by omega) = 91
    · right
      have f0 : (((s[0]'(by omega)).toNat : Int) == 91) = true := by rw [c0]; rfl
      by_cases c1 : s[s.size - 1]'(by omega) = 93
      · right
        refine ⟨h, f0, by rw [c1]; rfl, ?_⟩
        unfold strip2
        rw [if_pos ⟨by omega, by rw [e0, c0], by rw [e1, c1]⟩, ext_list, ls]
      · left
        refine ⟨h, f0, q _ 93 (fun e => c1 (UInt8.toNat_inj.1 e)), ?_⟩
        unfold strip2
        rw [if_neg]
        rintro ⟨_, _, e⟩
        rw [e1] at e
        exact c1 (Option.some.inj e)
    · left
      refine ⟨h, q _ 91 (fun e => c0 (UInt8.toNat_inj.1 e)), ?_⟩
      unfold strip2
      rw [if_neg]
      rintro ⟨_, e, _⟩
      rw [e0] at e
      exact c0 (Option.some.inj e)
  · left
    refine ⟨by omega, ?_⟩
    unfold strip2
    rw [if_neg (by omega)]
set_option maxHeartbeats 4000000 in
theorem r_parseEnds (s : ByteArray) (hs : s.size ≤ 2000) (w : World) : Calls Tryz.prog 18 #[.string s] w fun e w' => e = .returned (rqV s.data.toList) ∧ Below w.heap.size w w' := by
  have ls : s.data.toList.length = s.size := by simp
  have R0 : Hid (Res w (w.alloc (.cells #[.bool false, .int .u8 0, .int .u8 0, .int .u8 0, .int .u8 0, .int .u8 0, .int .u8 0, .int .u8 0, .int .u8 0, .int .u8 0, .int .u8 0, .int .u8 0, .int .u8 0, .int .u8 0, .int .u8 0, .int .u8 0, .int .u8 0, .int .u16 0] 32))) := Lib.hid ⟨Blk.new _ _ _ rfl, below_alloc _ _⟩
  have I0 := Lib.hid (show (Tryz.prog.info? 32).map (·.size) = some (enC false n16 0).size by rw [infE, enC_size]; rfl)
  go_enter Tryz.func18, Tryz.ntmps18
  go_upto_region 1 with fail
  generalize w.alloc (.cells #[.bool false, .int .u8 0, .int .u8 0, .int .u8 0, .int .u8 0, .int .u8 0, .int .u8 0, .int .u8 0, .int .u8 0, .int .u8 0, .int .u8 0, .int .u8 0, .int .u8 0, .int .u8 0, .int .u8 0, .int .u8 0, .int .u8 0, .int .u16 0] 32) = w1 at *
  go_wp2
  go_loopw [4] (fun i wr => ∃ k : Nat, k ≤ s.size ∧ i = .int .i64 k ∧ Hid (Nxt s.data.toList k ∧ Res w wr)) (fun i _ => s.size - (intOf i).toNat)
  case atStart => exact ⟨0, by omega, rfl, fun _ _ _ _ _ _ _ => Nat.zero_le _, R0.out⟩
  case round =>
    clear R0
    obtain ⟨k, hk, rfl, R⟩ := hrel
    by_cases hlt : k < s.size
    · obtain ⟨sd, hsd⟩ : ∃ sd : ByteArray, s.extract (k + 1) s.size = sd := ⟨_, rfl⟩
      have hk1 : (k : Int) + 1 ≤ s.size := by omega
      have sdl : sd.data.toList = s.data.toList.drop (k + 1) := by rw [← hsd, ext_list, List.take_of_length_le (by omega)]
      have sdz : sd.size ≤ 2000 := by rw [← hsd]; simp; omega
      have RN := Lib.hid (fun w => r_number sd 65535 (by omega) (by omega) w)
      have ek : s.data.toList[k]? = some (s[k]'hlt) := by rw [List.getElem?_eq_getElem (by omega)]; rfl
      have RR := Lib.hid R.out.2
      have NX := Lib.hid (fun h => R.out.1.step h)
      by_cases hc : s[k]'hlt = 58
      · have e1 : ((((s[k]'hlt).toNat : Nat) : Int) != 58) = false := by rw [hc]; rfl
        cases hn : num? 0 65535 (s.data.toList.drop (k + 1)) with
        | none =>
          have X := Lib.hid (NX.out (bad_num hn))
          rw [sdl, numR_none hn] at RN
          clear NX hn hc ek sdl R
          go_wp2_with (go_at_call 37; refine (RN.out _).mono ?_; rintro q w2 ⟨rfl, rfl⟩)
          go_roundw
          case rel => exact ⟨k + 1, by omega, by go_num, X.out, RR.out⟩
          case measure => simp [intOf]; omega
        | some n =>
          have hn2 := (num?_some hn).2
          obtain ⟨n0, n1⟩ := hn2
          rw [sdl, show numR 65535 (s.data.toList.drop (k + 1)) = n by unfold numR; rw [hn]] at RN
          have hn0 : ¬ n < 0 := by omega
          obtain ⟨st, hst⟩ : ∃ st : ByteArray, s.extract 0 k = st := ⟨_, rfl⟩
          have hk0 : (k : Int) ≤ s.size := by omega
          have stl : st.data.toList = s.data.toList.take k := by rw [← hst, ext_list, List.drop_zero]
          have stz : st.size ≤ 2000 := by rw [← hst]; simp; omega
          have HN := Lib.hid hn
          clear hc ek sdl R hn
          rcases strip2_cases st with ⟨z1, hS⟩ | ⟨z1, z2, hS⟩ | ⟨z1, z2, z3, hS⟩ | ⟨z1, z2, z3, hS⟩
          · -- <h0
            have hS : strip2 (s.data.toList.take k) = st.data.toList := by rw [← stl]; exact hS
            have HS := Lib.hid hS
            clear hS
            go_upto_region 9 with (go_at_call 37; refine (RN.out _).mono ?_; rintro q w2 ⟨rfl, rfl⟩)
            clear RN
            have RP := Lib.hid (fun w => r_parse st (by omega) w)
            cases hp : parseA st.data.toList with
            | none =>
              have X := Lib.hid (NX.out (bad_parse (by rw [HS.out]; exact hp)))
              rw [rpV_none hp] at RP
              clear NX hp
              go_upto_region 10 with (first
                | (go_at_call 16; refine (RP.out _).mono ?_; rintro q w3 ⟨rfl, hb⟩; have R3 := Lib.hid (RR.out.on hb); clear hb)
                | (refine wl_store rfl _ _ _ rfl _ rfl (.agg (adC false n16)) rfl _ (st_newA (v := false) (b := n16) rfl w3) ?_))
              have R4 := Lib.hid (show Res w ((w3.alloc (.cells #[.bool false, .int .u8 0, .int .u8 0, .int .u8 0, .int .u8 0, .int .u8 0, .int .u8 0, .int .u8 0, .int .u8 0, .int .u8 0, .int .u8 0, .int .u8 0, .int .u8 0, .int .u8 0, .int .u8 0, .int .u8 0, .int .u8 0] 24)).setRow w3.heap.size (adC false n16)) ∧ Blk ((w3.alloc (.cells #[.bool false, .int .u8 0, .int .u8 0, .int .u8 0, .int .u8 0, .int .u8 0, .int .u8 0, .int .u8 0, .int .u8 0, .int .u8 0, .int .u8 0, .int .u8 0, .int .u8 0, .int .u8 0, .int .u8 0, .int .u8 0, .int .u8 0] 24)).setRow w3.heap.size (adC false n16)) w3.heap.size 24 (adC false n16) from ⟨R3.out.newRow _ _ _, (new_row _ _ _ R3.out.2).1⟩)
              generalize (w3.alloc (.cells #[.bool false, .int .u8 0, .int .u8 0, .int .u8 0, .int .u8 0, .int .u8 0, .int .u8 0, .int .u8 0, .int .u8 0, .int .u8 0, .int .u8 0, .int .u8 0, .int .u8 0, .int .u8 0, .int .u8 0, .int .u8 0, .int .u8 0] 24)).setRow w3.heap.size (adC false n16) = w4 at *
              generalize w3.heap.size = g3 at *
              clear RR R3
              have d4 := ld_addr (v := false) (b := n16) rfl R4.out.2
              go_upto_region 11 with (first
                | (refine wl_load rfl _ _ rfl _ rfl _ d4 ?_)
                | (refine wl_build rfl _ _ rfl [(0, .agg (adC false n16)), (1, .int .u16 n)] rfl _ (built_ends (v := false) (p := n) rfl) ?_)
                | (refine wl_store rfl _ _ _ rfl _ rfl (.agg (enC false n16 n)) rfl _ (st_newE (v := false) (b := n16) (p := n) rfl w4) ?_))
              have R5 := Lib.hid (R4.out.1.newRow 32 #[.bool false, .int .u8 0, .int .u8 0, .int .u8 0, .int .u8 0, .int .u8 0, .int .u8 0, .int .u8 0, .int .u8 0, .int .u8 0, .int .u8 0, .int .u8 0, .int .u8 0, .int .u8 0, .int .u8 0, .int .u8 0, .int .u8 0, .int .u16 0] (enC false n16 n))
              generalize (w4.alloc (.cells #[.bool false, .int .u8 0, .int .u8 0, .int .u8 0, .int .u8 0, .int .u8 0, .int .u8 0, .int .u8 0, .int .u8 0, .int .u8 0, .int .u8 0, .int .u8 0, .int .u8 0, .int .u8 0, .int .u8 0, .int .u8 0, .int .u8 0, .int .u16 0] 32)).setRow w4.heap.size (enC false n16 n) = w5 at *
              clear R4 d4
              go_wp2
              go_roundw
              case rel => exact ⟨k + 1, by omega, by go_num, X.out, R5.out⟩
              case measure => simp [intOf]; omega
            | some vb =>
              obtain ⟨v, b⟩ := vb
              obtain ⟨hA, hM⟩ := parse_is hp
              have bl := hA.1
              have E := Lib.hid (fun w => r_ends v b n hA ⟨n0, n1⟩ w)
              rw [rpV_some hp] at RP
              have BT := Lib.hid (fun h => NX.out (bad_text HN.out (by rw [HS.out]; exact hp) h))
              have GT := Lib.hid (fun (h : te v b n = s.data.toList) => show endsA s.data.toList = some (v, b, n) by rw [← h]; exact ends_te hA hM ⟨n0, n1⟩)
              clear NX hp hA hM
              go_upto_region 10 with (first
                | (go_at_call 16; refine (RP.out _).mono ?_; rintro q w3 ⟨rfl, hb⟩; have R3 := Lib.hid (RR.out.on hb); clear hb)
                | (refine wl_store rfl _ _ _ rfl _ rfl (.agg (adC v b)) rfl _ (st_newA (v := v) (b := b) bl w3) ?_))
              have R4 := Lib.hid (show Res w ((w3.alloc (.cells #[.bool false, .int .u8 0, .int .u8 0, .int .u8 0, .int .u8 0, .int .u8 0, .int .u8 0, .int .u8 0, .int .u8 0, .int .u8 0, .int .u8 0, .int .u8 0, .int .u8 0, .int .u8 0, .int .u8 0, .int .u8 0, .int .u8 0] 24)).setRow w3.heap.size (adC v b)) ∧ Blk ((w3.alloc (.cells #[.bool false, .int .u8 0, .int .u8 0, .int .u8 0, .int .u8 0, .int .u8 0, .int .u8 0, .int .u8 0, .int .u8 0, .int .u8 0, .int .u8 0, .int .u8 0, .int .u8 0, .int .u8 0, .int .u8 0, .int .u8 0, .int .u8 0] 24)).setRow w3.heap.size (adC v b)) w3.heap.size 24 (adC v b) from ⟨R3.out.newRow _ _ _, (new_row _ _ _ R3.out.2).1⟩)
              generalize (w3.alloc (.cells #[.bool false, .int .u8 0, .int .u8 0, .int .u8 0, .int .u8 0, .int .u8 0, .int .u8 0, .int .u8 0, .int .u8 0, .int .u8 0, .int .u8 0, .int .u8 0, .int .u8 0, .int .u8 0, .int .u8 0, .int .u8 0, .int .u8 0] 24)).setRow w3.heap.size (adC v b) = w4 at *
              generalize w3.heap.size = g3 at *
              clear RR R3
              have d4 := ld_addr bl R4.out.2
              go_upto_region 11 with (first
                | (refine wl_load rfl _ _ rfl _ rfl _ d4 ?_)
                | (refine wl_build rfl _ _ rfl [(0, .agg (adC v b)), (1, .int .u16 n)] rfl _ (built_ends (v := v) (p := n) bl) ?_)
                | (refine wl_store rfl _ _ _ rfl _ rfl (.agg (enC v b n)) rfl _ (st_newE (v := v) (b := b) (p := n) bl w4) ?_))
              have R5 := Lib.hid (show Res w ((w4.alloc (.cells #[.bool false, .int .u8 0, .int .u8 0, .int .u8 0, .int .u8 0, .int .u8 0, .int .u8 0, .int .u8 0, .int .u8 0, .int .u8 0, .int .u8 0, .int .u8 0, .int .u8 0, .int .u8 0, .int .u8 0, .int .u8 0, .int .u8 0, .int .u16 0] 32)).setRow w4.heap.size (enC v b n)) ∧ Blk ((w4.alloc (.cells #[.bool false, .int .u8 0, .int .u8 0, .int .u8 0, .int .u8 0, .int .u8 0, .int .u8 0, .int .u8 0, .int .u8 0, .int .u8 0, .int .u8 0, .int .u8 0, .int .u8 0, .int .u8 0, .int .u8 0, .int .u8 0, .int .u8 0, .int .u16 0] 32)).setRow w4.heap.size (enC v b n)) w4.heap.size 32 (enC v b n) from ⟨R4.out.1.newRow _ _ _, (new_row _ _ _ R4.out.1.2).1⟩)
              generalize (w4.alloc (.cells #[.bool false, .int .u8 0, .int .u8 0, .int .u8 0, .int .u8 0, .int .u8 0, .int .u8 0, .int .u8 0, .int .u8 0, .int .u8 0, .int .u8 0, .int .u8 0, .int .u8 0, .int .u8 0, .int .u8 0, .int .u8 0, .int .u8 0, .int .u16 0] 32)).setRow w4.heap.size (enC v b n) = w5 at *
              generalize w4.heap.size = g4 at *
              clear R4 d4
              have d5 := ld_ends bl R5.out.2
              by_cases hT : te v b n = s.data.toList
              · have N := Lib.hid (GT.out hT)
                have k5 : ((str (te v b n)).toList == s.toList) = true := by rw [hT, str_eq5]; simp
                generalize str (te v b n) = q5 at *
                clear hT BT GT
                go_upto_region 12 with (first
                  | (refine wl_load rfl _ _ rfl _ rfl _ d5 ?_)
                  | (go_at_call 14; refine (E.out _).mono ?_; rintro q w6 ⟨rfl, hb⟩; have R6 := Lib.hid (show Res w w6 ∧ Blk w6 g4 32 (enC v b n) from ⟨R5.out.1.on hb, R5.out.2.on hb⟩); clear hb))
                clear R5 d5 E
                have d6 := ld_ends bl R6.out.2
                have s2 := R6.out.1.store (v := v) (b := b) (p := n) bl
                go_wp2_with (first | (refine wl_load rfl _ _ rfl _ rfl _ d6 ?_) | (refine wl_store rfl _ _ _ rfl _ rfl (.agg (enC v b n)) rfl _ s2 ?_))
                exact bodyPost_ret (res_pair (p := 2) (q := 3) rfl _ _ w.heap.size 32 (enC v b n) (.bool true) _ rfl rfl (R6.out.1.put v b n).1 Tryz.underlying32 rfl (by rw [infE, enC_size, bl])) rfl ⟨by rw [rqV_some N.out], (R6.out.1.put v b n).2⟩
              · have X := Lib.hid (BT.out hT)
                have k5 : ((str (te v b n)).toList == s.toList) = false := by rw [ByteArray.toList_eq, ByteArray.toList_eq, str_list]; simpa using hT
                generalize str (te v b n) = q5 at *
                clear hT BT GT
                go_wp2_with (first
                  | (refine wl_load rfl _ _ rfl _ rfl _ d5 ?_)
                  | (go_at_call 14; refine (E.out _).mono ?_; rintro q w6 ⟨rfl, hb⟩; have R6 := Lib.hid (R5.out.1.on hb); clear hb))
                go_roundw
                case rel => exact ⟨k + 1, by omega, by go_num, X.out, R6.out⟩
                case measure => simp [intOf]; omega
            -- h0>
          · -- <h1
            have hS : strip2 (s.data.toList.take k) = st.data.toList := by rw [← stl]; exact hS
            have HS := Lib.hid hS
            clear hS
            go_upto_region 9 with (go_at_call 37; refine (RN.out _).mono ?_; rintro q w2 ⟨rfl, rfl⟩)
            clear RN
            have RP := Lib.hid (fun w => r_parse st (by omega) w)
            cases hp : parseA st.data.toList with
            | none =>
              have X := Lib.hid (NX.out (bad_parse (by rw [HS.out]; exact hp)))
              rw [rpV_none hp] at RP
              clear NX hp
              go_upto_region 10 with (first
                | (go_at_call 16; refine (RP.out _).mono ?_; rintro q w3 ⟨rfl, hb⟩; have R3 := Lib.hid (RR.out.on hb); clear hb)
                | (refine wl_store rfl _ _ _ rfl _ rfl (.agg (adC false n16)) rfl _ (st_newA (v := false) (b := n16) rfl w3) ?_))
              have R4 := Lib.hid (show Res w ((w3.alloc (.cells #[.bool false, .int .u8 0, .int .u8 0, .int .u8 0, .int .u8 0, .int .u8 0, .int .u8 0, .int .u8 0, .int .u8 0, .int .u8 0, .int .u8 0, .int .u8 0, .int .u8 0, .int .u8 0, .int .u8 0, .int .u8 0, .int .u8 0] 24)).setRow w3.heap.size (adC false n16)) ∧ Blk ((w3.alloc (.cells #[.bool false, .int .u8 0, .int .u8 0, .int .u8 0, .int .u8 0, .int .u8 0, .int .u8 0, .int .u8 0, .int .u8 0, .int .u8 0, .int .u8 0, .int .u8 0, .int .u8 0, .int .u8 0, .int .u8 0, .int .u8 0, .int .u8 0] 24)).setRow w3.heap.size (adC false n16)) w3.heap.size 24 (adC false n16) from ⟨R3.out.newRow _ _ _, (new_row _ _ _ R3.out.2).1⟩)
              generalize (w3.alloc (.cells #[.bool false, .int .u8 0, .int .u8 0, .int .u8 0, .int .u8 0, .int .u8 0, .int .u8 0, .int .u8 0, .int .u8 0, .int .u8 0, .int .u8 0, .int .u8 0, .int .u8 0, .int .u8 0, .int .u8 0, .int .u8 0, .int .u8 0] 24)).setRow w3.heap.size (adC false n16) = w4 at *
              generalize w3.heap.size = g3 at *
              clear RR R3
              have d4 := ld_addr (v := false) (b := n16) rfl R4.out.2
              go_upto_region 11 with (first
                | (refine wl_load rfl _ _ rfl _ rfl _ d4 ?_)
                | (refine wl_build rfl _ _ rfl [(0, .agg (adC false n16)), (1, .int .u16 n)] rfl _ (built_ends (v := false) (p := n) rfl) ?_)
                | (refine wl_store rfl _ _ _ rfl _ rfl (.agg (enC false n16 n)) rfl _ (st_newE (v := false) (b := n16) (p := n) rfl w4) ?_))
              have R5 := Lib.hid (R4.out.1.newRow 32 #[.bool false, .int .u8 0, .int .u8 0, .int .u8 0, .int .u8 0, .int .u8 0, .int .u8 0, .int .u8 0, .int .u8 0, .int .u8 0, .int .u8 0, .int .u8 0, .int .u8 0, .int .u8 0, .int .u8 0, .int .u8 0, .int .u8 0, .int .u16 0] (enC false n16 n))
              generalize (w4.alloc (.cells #[.bool false, .int .u8 0, .int .u8 0, .int .u8 0, .int .u8 0, .int .u8 0, .int .u8 0, .int .u8 0, .int .u8 0, .int .u8 0, .int .u8 0, .int .u8 0, .int .u8 0, .int .u8 0, .int .u8 0, .int .u8 0, .int .u8 0, .int .u16 0] 32)).setRow w4.heap.size (enC false n16 n) = w5 at *
              clear R4 d4
              go_wp2
              go_roundw
              case rel => exact ⟨k + 1, by omega, by go_num, X.out, R5.out⟩
              case measure => simp [intOf]; omega
            | some vb =>
              obtain ⟨v, b⟩ := vb
              obtain ⟨hA, hM⟩ := parse_is hp
              have bl := hA.1
              have E := Lib.hid (fun w => r_ends v b n hA ⟨n0, n1⟩ w)
              rw [rpV_some hp] at RP
              have BT := Lib.hid (fun h => NX.out (bad_text HN.out (by rw [HS.out]; exact hp) h))
              have GT := Lib.hid (fun (h : te v b n = s.data.toList) => show endsA s.data.toList = some (v, b, n) by rw [← h]; exact ends_te hA hM ⟨n0, n1⟩)
              clear NX hp hA hM
              go_upto_region 10 with (first
                | (go_at_call 16; refine (RP.out _).mono ?_; rintro q w3 ⟨rfl, hb⟩; have R3 := Lib.hid (RR.out.on hb); clear hb)
                | (refine wl_store rfl _ _ _ rfl _ rfl (.agg (adC v b)) rfl _ (st_newA (v := v) (b := b) bl w3) ?_))
              have R4 := Lib.hid (show Res w ((w3.alloc (.cells #[.bool false, .int .u8 0, .int .u8 0, .int .u8 0, .int .u8 0, .int .u8 0, .int .u8 0, .int .u8 0, .int .u8 0, .int .u8 0, .int .u8 0, .int .u8 0, .int .u8 0, .int .u8 0, .int .u8 0, .int .u8 0, .int .u8 0] 24)).setRow w3.heap.size (adC v b)) ∧ Blk ((w3.alloc (.cells #[.bool false, .int .u8 0, .int .u8 0, .int .u8 0, .int .u8 0, .int .u8 0, .int .u8 0, .int .u8 0, .int .u8 0, .int .u8 0, .int .u8 0, .int .u8 0, .int .u8 0, .int .u8 0, .int .u8 0, .int .u8 0, .int .u8 0] 24)).setRow w3.heap.size (adC v b)) w3.heap.size 24 (adC v b) from ⟨R3.out.newRow _ _ _, (new_row _ _ _ R3.out.2).1⟩)
              generalize (w3.alloc (.cells #[.bool false, .int .u8 0, .int .u8 0, .int .u8 0, .int .u8 0, .int .u8 0, .int .u8 0, .int .u8 0, .int .u8 0, .int .u8 0, .int .u8 0, .int .u8 0, .int .u8 0, .int .u8 0, .int .u8 0, .int .u8 0, .int .u8 0] 24)).setRow w3.heap.size (adC v b) = w4 at *
              generalize w3.heap.size = g3 at *
              clear RR R3
              have d4 := ld_addr bl R4.out.2
              go_upto_region 11 with (first
                | (refine wl_load rfl _ _ rfl _ rfl _ d4 ?_)
                | (refine wl_build rfl _ _ rfl [(0, .agg (adC v b)), (1, .int .u16 n)] rfl _ (built_ends (v := v) (p := n) bl) ?_)
                | (refine wl_store rfl _ _ _ rfl _ rfl (.agg (enC v b n)) rfl _ (st_newE (v := v) (b := b) (p := n) bl w4) ?_))
              have R5 := Lib.hid (show Res w ((w4.alloc (.cells #[.bool false, .int .u8 0, .int .u8 0, .int .u8 0, .int .u8 0, .int .u8 0, .int .u8 0, .int .u8 0, .int .u8 0, .int .u8 0, .int .u8 0, .int .u8 0, .int .u8 0, .int .u8 0, .int .u8 0, .int .u8 0, .int .u8 0, .int .u16 0] 32)).setRow w4.heap.size (enC v b n)) ∧ Blk ((w4.alloc (.cells #[.bool false, .int .u8 0, .int .u8 0, .int .u8 0, .int .u8 0, .int .u8 0, .int .u8 0, .int .u8 0, .int .u8 0, .int .u8 0, .int .u8 0, .int .u8 0, .int .u8 0, .int .u8 0, .int .u8 0, .int .u8 0, .int .u8 0, .int .u16 0] 32)).setRow w4.heap.size (enC v b n)) w4.heap.size 32 (enC v b n) from ⟨R4.out.1.newRow _ _ _, (new_row _ _ _ R4.out.1.2).1⟩)
              generalize (w4.alloc (.cells #[.bool false, .int .u8 0, .int .u8 0, .int .u8 0, .int .u8 0, .int .u8 0, .int .u8 0, .int .u8 0, .int .u8 0, .int .u8 0, .int .u8 0, .int .u8 0, .int .u8 0, .int .u8 0, .int .u8 0, .int .u8 0, .int .u8 0, .int .u16 0] 32)).setRow w4.heap.size (enC v b n) = w5 at *
              generalize w4.heap.size = g4 at *
              clear R4 d4
              have d5 := ld_ends bl R5.out.2
              by_cases hT : te v b n = s.data.toList
              · have N := Lib.hid (GT.out hT)
                have k5 : ((str (te v b n)).toList == s.toList) = true := by rw [hT, str_eq5]; simp
                generalize str (te v b n) = q5 at *
                clear hT BT GT
                go_upto_region 12 with (first
                  | (refine wl_load rfl _ _ rfl _ rfl _ d5 ?_)
                  | (go_at_call 14; refine (E.out _).mono ?_; rintro q w6 ⟨rfl, hb⟩; have R6 := Lib.hid (show Res w w6 ∧ Blk w6 g4 32 (enC v b n) from ⟨R5.out.1.on hb, R5.out.2.on hb⟩); clear hb))
                clear R5 d5 E
                have d6 := ld_ends bl R6.out.2
                have s2 := R6.out.1.store (v := v) (b := b) (p := n) bl
                go_wp2_with (first | (refine wl_load rfl _ _ rfl _ rfl _ d6 ?_) | (refine wl_store rfl _ _ _ rfl _ rfl (.agg (enC v b n)) rfl _ s2 ?_))
                exact bodyPost_ret (res_pair (p := 2) (q := 3) rfl _ _ w.heap.size 32 (enC v b n) (.bool true) _ rfl rfl (R6.out.1.put v b n).1 Tryz.underlying32 rfl (by rw [infE, enC_size, bl])) rfl ⟨by rw [rqV_some N.out], (R6.out.1.put v b n).2⟩
              · have X := Lib.hid (BT.out hT)
                have k5 : ((str (te v b n)).toList == s.toList) = false := by rw [ByteArray.toList_eq, ByteArray.toList_eq, str_list]; simpa using hT
                generalize str (te v b n) = q5 at *
                clear hT BT GT
                go_wp2_with (first
                  | (refine wl_load rfl _ _ rfl _ rfl _ d5 ?_)
                  | (go_at_call 14; refine (E.out _).mono ?_; rintro q w6 ⟨rfl, hb⟩; have R6 := Lib.hid (R5.out.1.on hb); clear hb))
                go_roundw
                case rel => exact ⟨k + 1, by omega, by go_num, X.out, R6.out⟩
                case measure => simp [intOf]; omega
            -- h1>
          · -- <h2
            have hS : strip2 (s.data.toList.take k) = st.data.toList := by rw [← stl]; exact hS
            have HS := Lib.hid hS
            clear hS
            go_upto_region 9 with (go_at_call 37; refine (RN.out _).mono ?_; rintro q w2 ⟨rfl, rfl⟩)
            clear RN
            have RP := Lib.hid (fun w => r_parse st (by omega) w)
            cases hp : parseA st.data.toList with
            | none =>
              have X := Lib.hid (NX.out (bad_parse (by rw [HS.out]; exact hp)))
              rw [rpV_none hp] at RP
              clear NX hp
              go_upto_region 10 with (first
                | (go_at_call 16; refine (RP.out _).mono ?_; rintro q w3 ⟨rfl, hb⟩; have R3 := Lib.hid (RR.out.on hb); clear hb)
                | (refine wl_store rfl _ _ _ rfl _ rfl (.agg (adC false n16)) rfl _ (st_newA (v := false) (b := n16) rfl w3) ?_))
              have R4 := Lib.hid (show Res w ((w3.alloc (.cells #[.bool false, .int .u8 0, .int .u8 0, .int .u8 0, .int .u8 0, .int .u8 0, .int .u8 0, .int .u8 0, .int .u8 0, .int .u8 0, .int .u8 0, .int .u8 0, .int .u8 0, .int .u8 0, .int .u8 0, .int .u8 0, .int .u8 0] 24)).setRow w3.heap.size (adC false n16)) ∧ Blk ((w3.alloc (.cells #[.bool false, .int .u8 0, .int .u8 0, .int .u8 0, .int .u8 0, .int .u8 0, .int .u8 0, .int .u8 0, .int .u8 0, .int .u8 0, .int .u8 0, .int .u8 0, .int .u8 0, .int .u8 0, .int .u8 0, .int .u8 0, .int .u8 0] 24)).setRow w3.heap.size (adC false n16)) w3.heap.size 24 (adC false n16) from ⟨R3.out.newRow _ _ _, (new_row _ _ _ R3.out.2).1⟩)
              generalize (w3.alloc (.cells #[.bool false, .int .u8 0, .int .u8 0, .int .u8 0, .int .u8 0, .int .u8 0, .int .u8 0, .int .u8 0, .int .u8 0, .int .u8 0, .int .u8 0, .int .u8 0, .int .u8 0, .int .u8 0, .int .u8 0, .int .u8 0, .int .u8 0] 24)).setRow w3.heap.size (adC false n16) = w4 at *
              generalize w3.heap.size = g3 at *
              clear RR R3
              have d4 := ld_addr (v := false) (b := n16) rfl R4.out.2
              go_upto_region 11 with (first
                | (refine wl_load rfl _ _ rfl _ rfl _ d4 ?_)
                | (refine wl_build rfl _ _ rfl [(0, .agg (adC false n16)), (1, .int .u16 n)] rfl _ (built_ends (v := false) (p := n) rfl) ?_)
                | (refine wl_store rfl _ _ _ rfl _ rfl (.agg (enC false n16 n)) rfl _ (st_newE (v := false) (b := n16) (p := n) rfl w4) ?_))
              have R5 := Lib.hid (R4.out.1.newRow 32 #[.bool false, .int .u8 0, .int .u8 0, .int .u8 0, .int .u8 0, .int .u8 0, .int .u8 0, .int .u8 0, .int .u8 0, .int .u8 0, .int .u8 0, .int .u8 0, .int .u8 0, .int .u8 0, .int .u8 0, .int .u8 0, .int .u8 0, .int .u16 0] (enC false n16 n))
              generalize (w4.alloc (.cells #[.bool false, .int .u8 0, .int .u8 0, .int .u8 0, .int .u8 0, .int .u8 0, .int .u8 0, .int .u8 0, .int .u8 0, .int .u8 0, .int .u8 0, .int .u8 0, .int .u8 0, .int .u8 0, .int .u8 0, .int .u8 0, .int .u8 0, .int .u16 0] 32)).setRow w4.heap.size (enC false n16 n) = w5 at *
              clear R4 d4
              go_wp2
              go_roundw
              case rel => exact ⟨k + 1, by omega, by go_num, X.out, R5.out⟩
              case measure => simp [intOf]; omega
            | some vb =>
              obtain ⟨v, b⟩ := vb
              obtain ⟨hA, hM⟩ := parse_is hp
              have bl := hA.1
              have E := Lib.hid (fun w => r_ends v b n hA ⟨n0, n1⟩ w)
              rw [rpV_some hp] at RP
              have BT := Lib.hid (fun h => NX.out (bad_text HN.out (by rw [HS.out]; exact hp) h))
              have GT := Lib.hid (fun (h : te v b n = s.data.toList) => show endsA s.data.toList = some (v, b, n) by rw [← h]; exact ends_te hA hM ⟨n0, n1⟩)
              clear NX hp hA hM
              go_upto_region 10 with (first
                | (go_at_call 16; refine (RP.out _).mono ?_; rintro q w3 ⟨rfl, hb⟩; have R3 := Lib.hid (RR.out.on hb); clear hb)
                | (refine wl_store rfl _ _ _ rfl _ rfl (.agg (adC v b)) rfl _ (st_newA (v := v) (b := b) bl w3) ?_))
              have R4 := Lib.hid (show Res w ((w3.alloc (.cells #[.bool false, .int .u8 0, .int .u8 0, .int .u8 0, .int .u8 0, .int .u8 0, .int .u8 0, .int .u8 0, .int .u8 0, .int .u8 0, .int .u8 0, .int .u8 0, .int .u8 0, .int .u8 0, .int .u8 0, .int .u8 0, .int .u8 0] 24)).setRow w3.heap.size (adC v b)) ∧ Blk ((w3.alloc (.cells #[.bool false, .int .u8 0, .int .u8 0, .int .u8 0, .int .u8 0, .int .u8 0, .int .u8 0, .int .u8 0, .int .u8 0, .int .u8 0, .int .u8 0, .int .u8 0, .int .u8 0, .int .u8 0, .int .u8 0, .int .u8 0, .int .u8 0] 24)).setRow w3.heap.size (adC v b)) w3.heap.size 24 (adC v b) from ⟨R3.out.newRow _ _ _, (new_row _ _ _ R3.out.2).1⟩)
              generalize (w3.alloc (.cells #[.bool false, .int .u8 0, .int .u8 0, .int .u8 0, .int .u8 0, .int .u8 0, .int .u8 0, .int .u8 0, .int .u8 0, .int .u8 0, .int .u8 0, .int .u8 0, .int .u8 0, .int .u8 0, .int .u8 0, .int .u8 0, .int .u8 0] 24)).setRow w3.heap.size (adC v b) = w4 at *
              generalize w3.heap.size = g3 at *
              clear RR R3
              have d4 := ld_addr bl R4.out.2
              go_upto_region 11 with (first
                | (refine wl_load rfl _ _ rfl _ rfl _ d4 ?_)
                | (refine wl_build rfl _ _ rfl [(0, .agg (adC v b)), (1, .int .u16 n)] rfl _ (built_ends (v := v) (p := n) bl) ?_)
                | (refine wl_store rfl _ _ _ rfl _ rfl (.agg (enC v b n)) rfl _ (st_newE (v := v) (b := b) (p := n) bl w4) ?_))
              have R5 := Lib.hid (show Res w ((w4.alloc (.cells #[.bool false, .int .u8 0, .int .u8 0, .int .u8 0, .int .u8 0, .int .u8 0, .int .u8 0, .int .u8 0, .int .u8 0, .int .u8 0, .int .u8 0, .int .u8 0, .int .u8 0, .int .u8 0, .int .u8 0, .int .u8 0, .int .u8 0, .int .u16 0] 32)).setRow w4.heap.size (enC v b n)) ∧ Blk ((w4.alloc (.cells #[.bool false, .int .u8 0, .int .u8 0, .int .u8 0, .int .u8 0, .int .u8 0, .int .u8 0, .int .u8 0, .int .u8 0, .int .u8 0, .int .u8 0, .int .u8 0, .int .u8 0, .int .u8 0, .int .u8 0, .int .u8 0, .int .u8 0, .int .u16 0] 32)).setRow w4.heap.size (enC v b n)) w4.heap.size 32 (enC v b n) from ⟨R4.out.1.newRow _ _ _, (new_row _ _ _ R4.out.1.2).1⟩)
              generalize (w4.alloc (.cells #[.bool false, .int .u8 0, .int .u8 0, .int .u8 0, .int .u8 0, .int .u8 0, .int .u8 0, .int .u8 0, .int .u8 0, .int .u8 0, .int .u8 0, .int .u8 0, .int .u8 0, .int .u8 0, .int .u8 0, .int .u8 0, .int .u8 0, .int .u16 0] 32)).setRow w4.heap.size (enC v b n) = w5 at *
              generalize w4.heap.size = g4 at *
              clear R4 d4
              have d5 := ld_ends bl R5.out.2
              by_cases hT : te v b n = s.data.toList
              · have N := Lib.hid (GT.out hT)
                have k5 : ((str (te v b n)).toList == s.toList) = true := by rw [hT, str_eq5]; simp
                generalize str (te v b n) = q5 at *
                clear hT BT GT
                go_upto_region 12 with (first
                  | (refine wl_load rfl _ _ rfl _ rfl _ d5 ?_)
                  | (go_at_call 14; refine (E.out _).mono ?_; rintro q w6 ⟨rfl, hb⟩; have R6 := Lib.hid (show Res w w6 ∧ Blk w6 g4 32 (enC v b n) from ⟨R5.out.1.on hb, R5.out.2.on hb⟩); clear hb))
                clear R5 d5 E
                have d6 := ld_ends bl R6.out.2
                have s2 := R6.out.1.store (v := v) (b := b) (p := n) bl
                go_wp2_with (first | (refine wl_load rfl _ _ rfl _ rfl _ d6 ?_) | (refine wl_store rfl _ _ _ rfl _ rfl (.agg (enC v b n)) rfl _ s2 ?_))
                exact bodyPost_ret (res_pair (p := 2) (q := 3) rfl _ _ w.heap.size 32 (enC v b n) (.bool true) _ rfl rfl (R6.out.1.put v b n).1 Tryz.underlying32 rfl (by rw [infE, enC_size, bl])) rfl ⟨by rw [rqV_some N.out], (R6.out.1.put v b n).2⟩
              · have X := Lib.hid (BT.out hT)
                have k5 : ((str (te v b n)).toList == s.toList) = false := by rw [ByteArray.toList_eq, ByteArray.toList_eq, str_list]; simpa using hT
                generalize str (te v b n) = q5 at *
                clear hT BT GT
                go_wp2_with (first
                  | (refine wl_load rfl _ _ rfl _ rfl _ d5 ?_)
                  | (go_at_call 14; refine (E.out _).mono ?_; rintro q w6 ⟨rfl, hb⟩; have R6 := Lib.hid (R5.out.1.on hb); clear hb))
                go_roundw
                case rel => exact ⟨k + 1, by omega, by go_num, X.out, R6.out⟩
                case measure => simp [intOf]; omega
            -- h2>
          · -- <h3
            obtain ⟨y, hy⟩ : ∃ y : ByteArray, st.extract 1 (st.size - 1) = y := ⟨_, rfl⟩
            have yz : y.size ≤ 2000 := by rw [← hy]; simp; omega
            have hS : strip2 (s.data.toList.take k) = y.data.toList := by rw [← stl, ← hy]; exact hS
            have q1 : (1 : Int) ≤ (st.size : Int) - 1 := by omega
            have HS := Lib.hid hS
            clear hS
            go_upto_region 9 with (go_at_call 37; refine (RN.out _).mono ?_; rintro q w2 ⟨rfl, rfl⟩)
            clear RN
            have RP := Lib.hid (fun w => r_parse y (by omega) w)
            cases hp : parseA y.data.toList with
            | none =>
              have X := Lib.hid (NX.out (bad_parse (by rw [HS.out]; exact hp)))
              rw [rpV_none hp] at RP
              clear NX hp
              go_upto_region 10 with (first
                | (go_at_call 16; refine (RP.out _).mono ?_; rintro q w3 ⟨rfl, hb⟩; have R3 := Lib.hid (RR.out.on hb); clear hb)
                | (refine wl_store rfl _ _ _ rfl _ rfl (.agg (adC false n16)) rfl _ (st_newA (v := false) (b := n16) rfl w3) ?_))
              have R4 := Lib.hid (show Res w ((w3.alloc (.cells #[.bool false, .int .u8 0, .int .u8 0, .int .u8 0, .int .u8 0, .int .u8 0, .int .u8 0, .int .u8 0, .int .u8 0, .int .u8 0, .int .u8 0, .int .u8 0, .int .u8 0, .int .u8 0, .int .u8 0, .int .u8 0, .int .u8 0] 24)).setRow w3.heap.size (adC false n16)) ∧ Blk ((w3.alloc (.cells #[.bool false, .int .u8 0, .int .u8 0, .int .u8 0, .int .u8 0, .int .u8 0, .int .u8 0, .int .u8 0, .int .u8 0, .int .u8 0, .int .u8 0, .int .u8 0, .int .u8 0, .int .u8 0, .int .u8 0, .int .u8 0, .int .u8 0] 24)).setRow w3.heap.size (adC false n16)) w3.heap.size 24 (adC false n16) from ⟨R3.out.newRow _ _ _, (new_row _ _ _ R3.out.2).1⟩)
              generalize (w3.alloc (.cells #[.bool false, .int .u8 0, .int .u8 0, .int .u8 0, .int .u8 0, .int .u8 0, .int .u8 0, .int .u8 0, .int .u8 0, .int .u8 0, .int .u8 0, .int .u8 0, .int .u8 0, .int .u8 0, .int .u8 0, .int .u8 0, .int .u8 0] 24)).setRow w3.heap.size (adC false n16) = w4 at *
              generalize w3.heap.size = g3 at *
              clear RR R3
              have d4 := ld_addr (v := false) (b := n16) rfl R4.out.2
              go_upto_region 11 with (first
                | (refine wl_load rfl _ _ rfl _ rfl _ d4 ?_)
                | (refine wl_build rfl _ _ rfl [(0, .agg (adC false n16)), (1, .int .u16 n)] rfl _ (built_ends (v := false) (p := n) rfl) ?_)
                | (refine wl_store rfl _ _ _ rfl _ rfl (.agg (enC false n16 n)) rfl _ (st_newE (v := false) (b := n16) (p := n) rfl w4) ?_))
              have R5 := Lib.hid (R4.out.1.newRow 32 #[.bool false, .int .u8 0, .int .u8 0, .int .u8 0, .int .u8 0, .int .u8 0, .int .u8 0, .int .u8 0, .int .u8 0, .int .u8 0, .int .u8 0, .int .u8 0, .int .u8 0, .int .u8 0, .int .u8 0, .int .u8 0, .int .u8 0, .int .u16 0] (enC false n16 n))
              generalize (w4.alloc (.cells #[.bool false, .int .u8 0, .int .u8 0, .int .u8 0, .int .u8 0, .int .u8 0, .int .u8 0, .int .u8 0, .int .u8 0, .int .u8 0, .int .u8 0, .int .u8 0, .int .u8 0, .int .u8 0, .int .u8 0, .int .u8 0, .int .u8 0, .int .u16 0] 32)).setRow w4.heap.size (enC false n16 n) = w5 at *
              clear R4 d4
              go_wp2
              go_roundw
              case rel => exact ⟨k + 1, by omega, by go_num, X.out, R5.out⟩
              case measure => simp [intOf]; omega
            | some vb =>
              obtain ⟨v, b⟩ := vb
              obtain ⟨hA, hM⟩ := parse_is hp
              have bl := hA.1
              have E := Lib.hid (fun w => r_ends v b n hA ⟨n0, n1⟩ w)
              rw [rpV_some hp] at RP
              have BT := Lib.hid (fun h => NX.out (bad_text HN.out (by rw [HS.out]; exact hp) h))
              have GT := Lib.hid (fun (h : te v b n = s.data.toList) => show endsA s.data.toList = some (v, b, n) by rw [← h]; exact ends_te hA hM ⟨n0, n1⟩)
              clear NX hp hA hM
              go_upto_region 10 with (first
                | (go_at_call 16; refine (RP.out _).mono ?_; rintro q w3 ⟨rfl, hb⟩; have R3 := Lib.hid (RR.out.on hb); clear hb)
                | (refine wl_store rfl _ _ _ rfl _ rfl (.agg (adC v b)) rfl _ (st_newA (v := v) (b := b) bl w3) ?_))
              have R4 := Lib.hid (show Res w ((w3.alloc (.cells #[.bool false, .int .u8 0, .int .u8 0, .int .u8 0, .int .u8 0, .int .u8 0, .int .u8 0, .int .u8 0, .int .u8 0, .int .u8 0, .int .u8 0, .int .u8 0, .int .u8 0, .int .u8 0, .int .u8 0, .int .u8 0, .int .u8 0] 24)).setRow w3.heap.size (adC v b)) ∧ Blk ((w3.alloc (.cells #[.bool false, .int .u8 0, .int .u8 0, .int .u8 0, .int .u8 0, .int .u8 0, .int .u8 0, .int .u8 0, .int .u8 0, .int .u8 0, .int .u8 0, .int .u8 0, .int .u8 0, .int .u8 0, .int .u8 0, .int .u8 0, .int .u8 0] 24)).setRow w3.heap.size (adC v b)) w3.heap.size 24 (adC v b) from ⟨R3.out.newRow _ _ _, (new_row _ _ _ R3.out.2).1⟩)
              generalize (w3.alloc (.cells #[.bool false, .int .u8 0, .int .u8 0, .int .u8 0, .int .u8 0, .int .u8 0, .int .u8 0, .int .u8 0, .int .u8 0, .int .u8 0, .int .u8 0, .int .u8 0, .int .u8 0, .int .u8 0, .int .u8 0, .int .u8 0, .int .u8 0] 24)).setRow w3.heap.size (adC v b) = w4 at *
              generalize w3.heap.size = g3 at *
              clear RR R3
              have d4 := ld_addr bl R4.out.2
              go_upto_region 11 with (first
                | (refine wl_load rfl _ _ rfl _ rfl _ d4 ?_)
                | (refine wl_build rfl _ _ rfl [(0, .agg (adC v b)), (1, .int .u16 n)] rfl _ (built_ends (v := v) (p := n) bl) ?_)
                | (refine wl_store rfl _ _ _ rfl _ rfl (.agg (enC v b n)) rfl _ (st_newE (v := v) (b := b) (p := n) bl w4) ?_))
              have R5 := Lib.hid (show Res w ((w4.alloc (.cells #[.bool false, .int .u8 0, .int .u8 0, .int .u8 0, .int .u8 0, .int .u8 0, .int .u8 0, .int .u8 0, .int .u8 0, .int .u8 0, .int .u8 0, .int .u8 0, .int .u8 0, .int .u8 0, .int .u8 0, .int .u8 0, .int .u8 0, .int .u16 0] 32)).setRow w4.heap.size (enC v b n)) ∧ Blk ((w4.alloc (.cells #[.bool false, .int .u8 0, .int .u8 0, .int .u8 0, .int .u8 0, .int .u8 0, .int .u8 0, .int .u8 0, .int .u8 0, .int .u8 0, .int .u8 0, .int .u8 0, .int .u8 0, .int .u8 0, .int .u8 0, .int .u8 0, .int .u8 0, .int .u16 0] 32)).setRow w4.heap.size (enC v b n)) w4.heap.size 32 (enC v b n) from ⟨R4.out.1.newRow _ _ _, (new_row _ _ _ R4.out.1.2).1⟩)
              generalize (w4.alloc (.cells #[.bool false, .int .u8 0, .int .u8 0, .int .u8 0, .int .u8 0, .int .u8 0, .int .u8 0, .int .u8 0, .int .u8 0, .int .u8 0, .int .u8 0, .int .u8 0, .int .u8 0, .int .u8 0, .int .u8 0, .int .u8 0, .int .u8 0, .int .u16 0] 32)).setRow w4.heap.size (enC v b n) = w5 at *
              generalize w4.heap.size = g4 at *
              clear R4 d4
              have d5 := ld_ends bl R5.out.2
              by_cases hT : te v b n = s.data.toList
              · have N := Lib.hid (GT.out hT)
                have k5 : ((str (te v b n)).toList == s.toList) = true := by rw [hT, str_eq5]; simp
                generalize str (te v b n) = q5 at *
                clear hT BT GT
                go_upto_region 12 with (first
                  | (refine wl_load rfl _ _ rfl _ rfl _ d5 ?_)
                  | (go_at_call 14; refine (E.out _).mono ?_; rintro q w6 ⟨rfl, hb⟩; have R6 := Lib.hid (show Res w w6 ∧ Blk w6 g4 32 (enC v b n) from ⟨R5.out.1.on hb, R5.out.2.on hb⟩); clear hb))
                clear R5 d5 E
                have d6 := ld_ends bl R6.out.2
                have s2 := R6.out.1.store (v := v) (b := b) (p := n) bl
                go_wp2_with (first | (refine wl_load rfl _ _ rfl _ rfl _ d6 ?_) | (refine wl_store rfl _ _ _ rfl _ rfl (.agg (enC v b n)) rfl _ s2 ?_))
                exact bodyPost_ret (res_pair (p := 2) (q := 3) rfl _ _ w.heap.size 32 (enC v b n) (.bool true) _ rfl rfl (R6.out.1.put v b n).1 Tryz.underlying32 rfl (by rw [infE, enC_size, bl])) rfl ⟨by rw [rqV_some N.out], (R6.out.1.put v b n).2⟩
              · have X := Lib.hid (BT.out hT)
                have k5 : ((str (te v b n)).toList == s.toList) = false := by rw [ByteArray.toList_eq, ByteArray.toList_eq, str_list]; simpa using hT
                generalize str (te v b n) = q5 at *
                clear hT BT GT
                go_wp2_with (first
                  | (refine wl_load rfl _ _ rfl _ rfl _ d5 ?_)
                  | (go_at_call 14; refine (E.out _).mono ?_; rintro q w6 ⟨rfl, hb⟩; have R6 := Lib.hid (R5.out.1.on hb); clear hb))
                go_roundw
                case rel => exact ⟨k + 1, by omega, by go_num, X.out, R6.out⟩
                case measure => simp [intOf]; omega
            -- h3>
      · have e1 : ((((s[k]'hlt).toNat : Nat) : Int) != 58) = true := by
          have : (s[k]'hlt).toNat ≠ 58 := fun q => hc (UInt8.toNat_inj.1 q)
          simp; omega
        have X := Lib.hid (NX.out (bad_colon ek hc))
        clear NX hc ek sdl R
        go_wp2_with (go_at_call 37; refine (RN.out _).mono ?_; rintro q w2 ⟨rfl, rfl⟩)
        go_roundw
        case rel => exact ⟨k + 1, by omega, by go_num, X.out, RR.out⟩
        case measure => simp [intOf]; omega
    · obtain rfl : k = s.size := by omega
      have N := Lib.hid (R.out.1.fin' ls)
      have R1 := Lib.hid R.out.2
      clear R
      have s2 : (Instr.storeAt 32 (.pointer (some ⟨w.heap.size, 0, none⟩)) (.agg #[.bool false, .int .u8 0, .int .u8 0, .int .u8 0, .int .u8 0, .int .u8 0, .int .u8 0, .int .u8 0, .int .u8 0, .int .u8 0, .int .u8 0, .int .u8 0, .int .u8 0, .int .u8 0, .int .u8 0, .int .u8 0, .int .u8 0, .int .u16 0])).run Tryz.prog wr = .ok () (wr.setRow w.heap.size (enC false n16 0)) := R1.out.store (v := false) (b := n16) (p := 0) rfl
      go_wp2_with (refine wl_store rfl _ _ _ rfl _ rfl (.agg #[.bool false, .int .u8 0, .int .u8 0, .int .u8 0, .int .u8 0, .int .u8 0, .int .u8 0, .int .u8 0, .int .u8 0, .int .u8 0, .int .u8 0, .int .u8 0, .int .u8 0, .int .u8 0, .int .u8 0, .int .u8 0, .int .u8 0, .int .u16 0]) rfl _ s2 ?_)
      exact bodyPost_ret (res_pair (p := 2) (q := 3) rfl _ _ w.heap.size 32 (enC false n16 0) (.bool false) _ rfl rfl (R1.out.put false n16 0).1 Tryz.underlying32 rfl I0.out) rfl ⟨by rw [rqV_none N.out], (R1.out.put false n16 0).2⟩
end Go.Proofs.YthghanidabmfgaaGreatDoor
namespace Go.Proofs.YthghanidabmfgaaGreatDoor
open Go.RowKit Go.Sort
set_option maxRecDepth 100000
theorem one_row {w W : World} (T : TypeId) (zs cs : Array Value) (h : Below w.heap.size w W) : Blk ((W.alloc (.cells zs T)).setRow W.heap.size cs) W.heap.size T cs ∧ Below w.heap.size w ((W.alloc (.cells zs T)).setRow W.heap.size cs) := new_row T zs cs h
def Two (w wr : World) (g h : Nat) (t u : TypeId) (x y : Array Value) : Prop := Blk wr g t x ∧ Blk wr h u y ∧ Below w.heap.size w wr
set_option maxHeartbeats 4000000 in
theorem addrParses_any (s : ByteArray) (w : World) (hw : Env5 w) :
    Calls Tryz.prog 4 #[.string s] w fun e w' => e = .returned (.bool true) ∧ Below w.heap.size w w' := by
  have G := Lib.hid hw
  have K := Lib.hid (fun w hw => known_any w hw)
  clear hw
  by_cases h2 : 200 < s.size
  · have h2' : (200 : Int) < s.size := by omega
    go_enter Tryz.func4, Tryz.ntmps4
    go_wp2_with (go_at_call 7; refine (K.out _ G.out).mono ?_; rintro e w2 ⟨rfl, hb⟩)
    go_ret
    exact ⟨rfl, hb⟩
  · have h2' : ¬ (200 : Int) < s.size := by omega
    have P := Lib.hid (fun w hw => t_parse s (by omega) w hw)
    have RP := Lib.hid (fun w => r_parse s (by omega) w)
    have E := Lib.hid (fun w hw => t_parseEnds s (by omega) w hw)
    have RE := Lib.hid (fun w => r_parseEnds s (by omega) w)
    obtain ⟨v, b, o, k, bl, hp, hr⟩ : ∃ (v : Bool) (b : List Int) (o : Bool) (k : Int), b.length = 16 ∧ paV s.data.toList = .tuple #[.agg (adC v b), .int .i64 k] ∧ rpV s.data.toList = .tuple #[.agg (adC v b), .bool o] ∧ ((o = true ∧ k = 0) ∨ (o = false ∧ k = 9 ∧ v = false ∧ b = n16)) := by
      cases h : parseA s.data.toList with
      | none => exact ⟨false, n16, false, 9, rfl, paV_none h, rpV_none h, Or.inr ⟨rfl, rfl, rfl, rfl⟩⟩
      | some vb =>
        obtain ⟨v, b⟩ := vb
        exact ⟨v, b, true, 0, (parse_is h).1.1, paV_some h, rpV_some h, Or.inl ⟨rfl, rfl⟩⟩
    obtain ⟨hr, ho⟩ := hr
    obtain ⟨v', b', p', o', k', bl', he, hq⟩ : ∃ (v : Bool) (b : List Int) (p : Int) (o : Bool) (k : Int), b.length = 16 ∧ peV s.data.toList = .tuple #[.agg (enC v b p), .int .i64 k] ∧ rqV s.data.toList = .tuple #[.agg (enC v b p), .bool o] ∧ ((o = true ∧ k = 0) ∨ (o = false ∧ k = 9)) := by
      cases h : endsA s.data.toList with
      | none => exact ⟨false, n16, 0, false, 9, rfl, peV_none h, rqV_none h, Or.inr ⟨rfl, rfl⟩⟩
      | some q =>
        obtain ⟨v, b, p⟩ := q
        exact ⟨v, b, p, true, 0, (endsA_some h).1.1, peV_some h, rqV_some h, Or.inl ⟨rfl, rfl⟩⟩
    obtain ⟨hq, ho'⟩ := hq
    rw [hp] at P
    rw [hr] at RP
    rw [he] at E
    rw [hq] at RE
    clear hp hr he hq
    go_enter Tryz.func4, Tryz.ntmps4
    go_upto_region 5 with (go_at_call 7; refine (K.out _ G.out).mono ?_; rintro e w2 ⟨rfl, hb⟩; have S2 := Lib.hid hb; clear hb)
    go_upto_region 6 with (first
      | (go_at_call 15; refine (P.out _ (G.out.below S2.out)).mono ?_; rintro q w3 ⟨rfl, hb⟩; have S3 := Lib.hid (S2.out.trans (hb.mono S2.out.size)); clear hb)
      | (refine wl_store rfl _ _ _ rfl _ rfl (.agg (adC v b)) rfl _ (st_newA (v := v) (b := b) bl w3) ?_))
    have A3 := Lib.hid (one_row 24 #[.bool false, .int .u8 0, .int .u8 0, .int .u8 0, .int .u8 0, .int .u8 0, .int .u8 0, .int .u8 0, .int .u8 0, .int .u8 0, .int .u8 0, .int .u8 0, .int .u8 0, .int .u8 0, .int .u8 0, .int .u8 0, .int .u8 0] (adC v b) S3.out)
    generalize (w3.alloc (.cells #[.bool false, .int .u8 0, .int .u8 0, .int .u8 0, .int .u8 0, .int .u8 0, .int .u8 0, .int .u8 0, .int .u8 0, .int .u8 0, .int .u8 0, .int .u8 0, .int .u8 0, .int .u8 0, .int .u8 0, .int .u8 0, .int .u8 0] 24)).setRow w3.heap.size (adC v b) = w4 at *
    generalize w3.heap.size = g3 at *
    clear S2 S3 P K
    go_upto_region 7 with (first
      | (go_at_call 16; refine (RP.out _).mono ?_; rintro q w5 ⟨rfl, hb⟩; have A5 := Lib.hid (show Blk w5 g3 24 (adC v b) ∧ Below w.heap.size w w5 from ⟨A3.out.1.on hb, A3.out.2.trans (hb.mono A3.out.2.size)⟩); clear hb)
      | (refine wl_store rfl _ _ _ rfl _ rfl (.agg (adC v b)) rfl _ (st_newA (v := v) (b := b) bl w5) ?_))
    have A6 := Lib.hid (show Two w ((w5.alloc (.cells #[.bool false, .int .u8 0, .int .u8 0, .int .u8 0, .int .u8 0, .int .u8 0, .int .u8 0, .int .u8 0, .int .u8 0, .int .u8 0, .int .u8 0, .int .u8 0, .int .u8 0, .int .u8 0, .int .u8 0, .int .u8 0, .int .u8 0] 24)).setRow w5.heap.size (adC v b)) g3 w5.heap.size 24 24 (adC v b) (adC v b) from ⟨new_old _ _ _ A5.out.1, one_row _ _ _ A5.out.2⟩)
    generalize (w5.alloc (.cells #[.bool false, .int .u8 0, .int .u8 0, .int .u8 0, .int .u8 0, .int .u8 0, .int .u8 0, .int .u8 0, .int .u8 0, .int .u8 0, .int .u8 0, .int .u8 0, .int .u8 0, .int .u8 0, .int .u8 0, .int .u8 0, .int .u8 0] 24)).setRow w5.heap.size (adC v b) = w6 at *
    generalize w5.heap.size = g5 at *
    clear A3 A5 RP
    have d0 := ld_addr bl A6.out.1
    have d1 := ld_addr bl A6.out.2.1
    have e0 := qA v v b b bl bl
    rw [show decide (v = v ∧ b = b) = true by simp] at e0
    go_cut [48] from 24 to 48 (fun x wz => x = .bool false ∧ wz = w6)
    case first =>
      clear A6 E RE
      rcases ho with ⟨rfl, rfl⟩ | ⟨rfl, rfl, rfl, rfl⟩
      · go_wp2_with (first | (refine wl_load rfl _ _ rfl _ rfl _ d0 ?_) | (refine wl_load rfl _ _ rfl _ rfl _ d1 ?_))
        go_meet
        exact ⟨rfl, rfl⟩
      · have e1 := qA0 false n16 rfl
        rw [show decide (false = false ∧ n16 = n16) = true by simp] at e1
        go_wp2_with (first | (refine wl_load rfl _ _ rfl _ rfl _ d0 ?_) | (refine wl_load rfl _ _ rfl _ rfl _ d1 ?_))
        go_meet
        exact ⟨rfl, rfl⟩
    case rest =>
    obtain ⟨rfl, hw⟩ := hcut
    rw [hw]
    clear hw d0 d1 e0 ho
    have S6 := Lib.hid A6.out.2.2
    clear A6
    go_upto_region 10 with (first
      | (go_at_call 17; refine (E.out _ (G.out.below S6.out)).mono ?_; rintro q w7 ⟨rfl, hb⟩; have S7 := Lib.hid (S6.out.trans (hb.mono S6.out.size)); clear hb)
      | (refine wl_store rfl _ _ _ rfl _ rfl (.agg (enC v' b' p')) rfl _ (st_newE (v := v') (b := b') (p := p') bl' w7) ?_))
    have A8 := Lib.hid (one_row 32 #[.bool false, .int .u8 0, .int .u8 0, .int .u8 0, .int .u8 0, .int .u8 0, .int .u8 0, .int .u8 0, .int .u8 0, .int .u8 0, .int .u8 0, .int .u8 0, .int .u8 0, .int .u8 0, .int .u8 0, .int .u8 0, .int .u8 0, .int .u16 0] (enC v' b' p') S7.out)
    generalize (w7.alloc (.cells #[.bool false, .int .u8 0, .int .u8 0, .int .u8 0, .int .u8 0, .int .u8 0, .int .u8 0, .int .u8 0, .int .u8 0, .int .u8 0, .int .u8 0, .int .u8 0, .int .u8 0, .int .u8 0, .int .u8 0, .int .u8 0, .int .u8 0, .int .u16 0] 32)).setRow w7.heap.size (enC v' b' p') = w8 at *
    generalize w7.heap.size = g7 at *
    clear S6 S7 E
    go_upto_region 11 with (first
      | (go_at_call 18; refine (RE.out _).mono ?_; rintro q w9 ⟨rfl, hb⟩; have A9 := Lib.hid (show Blk w9 g7 32 (enC v' b' p') ∧ Below w.heap.size w w9 from ⟨A8.out.1.on hb, A8.out.2.trans (hb.mono A8.out.2.size)⟩); clear hb)
      | (refine wl_store rfl _ _ _ rfl _ rfl (.agg (enC v' b' p')) rfl _ (st_newE (v := v') (b := b') (p := p') bl' w9) ?_))
    have A10 := Lib.hid (show Two w ((w9.alloc (.cells #[.bool false, .int .u8 0, .int .u8 0, .int .u8 0, .int .u8 0, .int .u8 0, .int .u8 0, .int .u8 0, .int .u8 0, .int .u8 0, .int .u8 0, .int .u8 0, .int .u8 0, .int .u8 0, .int .u8 0, .int .u8 0, .int .u8 0, .int .u16 0] 32)).setRow w9.heap.size (enC v' b' p')) g7 w9.heap.size 32 32 (enC v' b' p') (enC v' b' p') from ⟨new_old _ _ _ A9.out.1, one_row _ _ _ A9.out.2⟩)
    generalize (w9.alloc (.cells #[.bool false, .int .u8 0, .int .u8 0, .int .u8 0, .int .u8 0, .int .u8 0, .int .u8 0, .int .u8 0, .int .u8 0, .int .u8 0, .int .u8 0, .int .u8 0, .int .u8 0, .int .u8 0, .int .u8 0, .int .u8 0, .int .u8 0, .int .u16 0] 32)).setRow w9.heap.size (enC v' b' p') = w10 at *
    generalize w9.heap.size = g9 at *
    clear A8 A9 RE
    have d0 := ld_ends bl' A10.out.1
    have d1 := ld_ends bl' A10.out.2.1
    have e0 := qE v' v' b' b' p' p' bl' bl'
    rw [show decide ((v' = v' ∧ b' = b') ∧ p' = p') = true by simp] at e0
    rcases ho' with ⟨rfl, rfl⟩ | ⟨rfl, rfl⟩
    · go_wp2_with (first | (refine wl_load rfl _ _ rfl _ rfl _ d0 ?_) | (refine wl_load rfl _ _ rfl _ rfl _ d1 ?_))
      go_ret
      exact ⟨rfl, A10.out.2.2⟩
    · go_wp2_with (first | (refine wl_load rfl _ _ rfl _ rfl _ d0 ?_) | (refine wl_load rfl _ _ rfl _ rfl _ d1 ?_))
      go_ret
      exact ⟨rfl, A10.out.2.2⟩
end Go.Proofs.YthghanidabmfgaaGreatDoor
