/-
  Rows that a call owns, of whatever type: what is appended to them; the document's parts between bytes (horologeref05).
  The document's reading of an IPv4 address and of a group (horologeref05).
-/
import Derived.Test.YthghanidabmfgaaGreatDoorRNumb5
import Derived.OwnWalk
import Derived.Maps.AppendAt
import Derived.Test.YthghanidabmfgaaGreatDoorUnlist5
namespace Go.Proofs.YthghanidabmfgaaGreatDoor
open Go.RowKit Go.Sort
set_option maxRecDepth 8000
def Own (w wr : World) (e : TypeId) (vs : List Value) (v : Value) : Prop := wr.ownsRow w.heap.size e 1 v vs.length vs ∧ Below w.heap.size w wr
theorem Own.nil (w : World) (e : TypeId) : Own w w e [] (.slice none 0 0) := ⟨World.ownsRow_nil _ _ _ _, Below.refl _ _⟩
theorem Own.on {w w1 w2 : World} {e : TypeId} {vs : List Value} {v : Value} (h : Own w w1 e vs v) (hb : Below w1.heap.size w1 w2) : Own w w2 e vs v := by
  obtain ⟨⟨a, h⟩, hs⟩ := h
  refine ⟨⟨a, h.imp id ?_⟩, hs.trans (hb.mono hs.size)⟩
  rintro ⟨g, cap, cur, e1, e2, hg, r⟩
  exact ⟨g, cap, cur, e1, e2, (hb.block g (Array.getElem?_eq_some_iff.1 hg).1).trans hg, r⟩
/-- A slice that holds these values, one cell each. -/
def RowV (B : Nat) (w : World) (v : Value) (vs : List Value) : Prop := ∃ a c, v = .slice a vs.length c ∧ vs.length ≤ c ∧ (vs = [] ∨ ∃ g, a = some ⟨g, 0, none⟩ ∧ B ≤ g ∧ g < w.heap.size ∧ ∀ j u, vs[j]? = some u → w.cell? ⟨g, j, none⟩ = some u)
theorem RowV.on {B : Nat} {w w' : World} {v : Value} {vs : List Value} (h : RowV B w v vs) (hb : Below w.heap.size w w') : RowV B w' v vs := by
  obtain ⟨a, c, e, hc, h⟩ := h
  refine ⟨a, c, e, hc, h.imp id ?_⟩
  rintro ⟨g, ea, hB, hl, hx⟩
  exact ⟨g, ea, hB, Nat.lt_of_lt_of_le hl hb.size, fun j x hj => (hb.cell (by exact hl)).trans (hx j x hj)⟩
theorem Own.row {w wr : World} {e : TypeId} {vs : List Value} {v : Value} (h : Own w wr e vs v) : RowV w.heap.size wr v vs := by
  obtain ⟨⟨_, ⟨rfl, h0⟩ | ⟨g, cap, cur, rfl, hB, hg, hn, _, hs, ht⟩⟩, _⟩ := h
  · have : vs = [] := List.length_eq_zero_iff.1 h0
    subst this
    exact ⟨none, 0, rfl, Nat.le_refl _, Or.inl rfl⟩
  · refine ⟨some ⟨g, 0, none⟩, cap, rfl, hn, Or.inr ⟨g, rfl, hB, (Array.getElem?_eq_some_iff.1 hg).1, fun j u hj => ?_⟩⟩
    have hl : j < vs.length := (List.getElem?_eq_some_iff.1 hj).1
    have e : cur[j]? = vs[j]? := by
      rw [Nat.mul_one] at ht
      conv => rhs; rw [← ht]
      rw [List.getElem?_take_of_lt (by omega)]; simp
    rw [cell_of_row wr g j cur _ _ hg, e, hj]
theorem wp_append_any {ops : Array Oper} {rest : List Oper} {o : Oper} {a : Act} {Q : Exit → Act → World → Prop} (hgd : o.guard = none) (s x : Operand) (t e : TypeId) (z : Value) (by_ : Nat)
    (hu : Tryz.prog.underlying t = some (.slice e)) (hin : (Tryz.prog.info? e).map (fun i => (i.zero, i.size, i.bytes)) = some (some z, 1, by_)) (hz : z.cells.size = 1) (hby : by_ ≤ 24)
    (ho : o.op = .call { callee := .builtin .append, args := #[s, x], argTypes := #[t, t] }) (w W : World) (L : List Value) (v : Value) (hs : a.eval s = v) (R : Own w W e L v)
    (ad : Addr) (m c : Nat) (news : List Value) (hx : a.eval x = .slice (some ad) m c) (hl : news.length = m) (hn : ∀ j u, news[j]? = some u → W.cell? (ad.add j) = some u) (h1 : ∀ u ∈ news, u.oneCell' = true) (hb : L.length + m ≤ 8000)
    (h : ∀ v' w', Own w w' e (L ++ news) v' → W.grownBy w' v.ownBlock → (v'.ownBlock = v.ownBlock ∨ v'.ownBlock = some W.heap.size) → wpList Tryz.prog ops Q rest (a.put o.dst v') w') : wpList Tryz.prog ops Q (o :: rest) a W := by
  obtain ⟨i0, hi, hz0, hz1, hz2⟩ := info_parts hin
  have lo := R.1.lt
  have sz := R.2.size
  refine wpList_append_own_at _ hgd s x t ho w.heap.size e i0 z 1 by_ hu hi hz0 hz1 hz2 hz (by decide) v L.length _ hs R.1 ad m c news hx (by rw [hl, Nat.mul_one]) hn h1 (by simp only [maxLen]; omega) ?_ sz (fun v' w' hown hgrow _ hat => h v' w' ⟨?_, R.2.grown hgrow sz (fun k hk => (lo k hk).1)⟩ hgrow hat)
  · have : (L.length + m) * by_ ≤ 8000 * 24 := Nat.mul_le_mul hb hby
    omega
  · rw [List.length_append, hl]; exact hown
theorem info_string : (Tryz.prog.info? 9).map (fun i => (i.zero, i.size, i.bytes)) = some (some (.string ⟨#[]⟩), 1, 16) := by kernel_rfl
/-- How far the parts are told. -/
def SpI (l : List UInt8) (c : UInt8) (f k : Nat) (ps : List (List UInt8)) : Prop := ps ++ words c (l.drop f) = words c l ∧ c ∉ (l.take k).drop f
theorem SpI.start (l : List UInt8) (c : UInt8) : SpI l c 0 0 [] := ⟨by simp, by simp⟩
theorem SpI.hit {l : List UInt8} {c : UInt8} {f k : Nat} {ps : List (List UInt8)} (h : SpI l c f k ps) (hk : k < l.length) (hf : f ≤ k) (hc : l[k] = c) : SpI l c (k + 1) (k + 1) (ps ++ [(l.take k).drop f]) := by
  refine ⟨?_, by rw [List.drop_of_length_le (by rw [List.length_take]; omega)]; simp⟩
  have e : l.drop f = (l.take k).drop f ++ c :: l.drop (k + 1) := by
    conv => lhs; rw [← List.take_append_drop k l, List.drop_append_of_le_length (by rw [List.length_take]; omega), List.drop_eq_getElem_cons hk, hc]
  rw [← h.1, e, words_hit h.2]
  simp
theorem SpI.miss {l : List UInt8} {c : UInt8} {f k : Nat} {ps : List (List UInt8)} (h : SpI l c f k ps) (hk : k < l.length) (hf : f ≤ k) (hc : l[k] ≠ c) : SpI l c f (k + 1) ps := by
  refine ⟨h.1, ?_⟩
  rw [List.take_succ_eq_append_getElem hk, List.drop_append_of_le_length (by rw [List.length_take]; omega)]
  intro m
  rcases List.mem_append.1 m with m | m
  · exact h.2 m
  · exact hc (List.mem_singleton.1 m).symm
theorem SpI.fin {l : List UInt8} {c : UInt8} {f : Nat} {ps : List (List UInt8)} (h : SpI l c f l.length ps) : ps ++ [(l.take l.length).drop f] = words c l := by
  have := h.2
  rw [List.take_length] at this ⊢
  rw [← h.1, words_free this]
theorem ext_list (s : ByteArray) (a b : Nat) : (s.extract a b).data.toList = (s.data.toList.take b).drop a := by
  simp [List.drop_take]
/-- Where the call stands. -/
def SpS (w wr : World) (s : ByteArray) (c : UInt8) (f k : Nat) (xs : List ByteArray) (v : Value) : Prop :=
  ((k ≤ s.size ∧ f ≤ k ∧ SpI s.data.toList c f k (xs.map (·.data.toList))) ∨ (k = s.size + 1 ∧ f ≤ k ∧ xs.map (·.data.toList) = words c s.data.toList)) ∧ Own w wr 9 (xs.map .string) v
set_option maxHeartbeats 1000000 in
theorem r_split (s : ByteArray) (c : UInt8) (hs : s.size ≤ 4000) (w : World) :
    Calls Tryz.prog 31 #[.string s, .int .u8 (c.toNat : Int)] w fun e w' => (∃ v xs, e = .returned v ∧ Strs w' v xs ∧ xs.map (·.data.toList) = words c s.data.toList) ∧ Below w.heap.size w w' := by
  have ls : s.data.toList.length = s.size := by simp
  have hc8 : (c.toNat : Int) ≤ 255 := by have := c.toNat_lt; omega
  go_enter Tryz.func31, Tryz.ntmps31
  go_wp2
  go_loopw [5, 6, 7] (fun u f i wr => ∃ (fr k : Nat) (xs : List ByteArray), k ≤ s.size + 1 ∧ fr ≤ s.size + 1 ∧ f = .int .i64 fr ∧ i = .int .i64 k ∧ Hid (SpS w wr s c fr k xs u)) (fun _ _ i _ => s.size + 1 - (intOf i).toNat)
  case atStart => exact ⟨0, 0, [], by omega, by omega, rfl, rfl, Or.inl ⟨by omega, by omega, SpI.start _ _⟩, Own.nil _ _⟩
  case round =>
    obtain ⟨fr, k, xs, hk, hfr, rfl, rfl, S⟩ := hrel
    have XL := Lib.hid (show xs.length ≤ 4001 by
      have key : xs.length ≤ (words c s.data.toList).length := by
        rcases S.out.1 with ⟨_, _, h⟩ | ⟨_, _, h⟩
        · rw [← h.1, List.length_append, List.length_map]; omega
        · rw [← h, List.length_map]; omega
      rw [words_count] at key
      have := List.count_le_length (a := c) (l := s.data.toList)
      omega)
    by_cases hlt : k < s.size
    · obtain ⟨_, hf, I⟩ : k ≤ s.size ∧ fr ≤ k ∧ SpI s.data.toList c fr k (xs.map (·.data.toList)) := by
        rcases S.out.1 with h | h
        · exact h
        · omega
      have F := Lib.hid S.out.2
      have hki : ((k : Int) == (s.size : Int)) = false := by simp; omega
      have ek : s.data.toList[k]'(by omega) = s[k]'hlt := rfl
      by_cases hc : s[k]'hlt = c
      · have e1 : ((((s[k]'hlt).toNat : Nat) : Int) == (c.toNat : Int)) = true := by rw [hc]; simp
        have I1 := Lib.hid (I.hit (by omega) hf (ek.trans hc))
        obtain ⟨x, hx⟩ : ∃ x : ByteArray, s.extract fr k = x := ⟨_, rfl⟩
        have X := Lib.hid (show (xs ++ [x]).map (·.data.toList) = xs.map (·.data.toList) ++ [(s.data.toList.take k).drop fr] by rw [List.map_append, ← hx]; simp [List.drop_take])
        have F1 := Lib.hid (F.out.on (below_alloc wr (.cells #[.string x] 9)))
        clear S I F hc ek
        go_wp2_with (at_builtin; refine wp_append_any rfl _ _ 51 9 (.string ⟨#[]⟩) 16 Tryz.underlying51 info_string rfl (by decide) rfl w _ _ _ rfl F1.out ⟨wr.heap.size, 0, none⟩ 1 1 [.string x] rfl rfl (cell_one_new _ _ _) (fun u hu => by simp at hu; subst hu; rfl) (by rw [List.length_map]; have := XL.out; omega) ?_)
        intro v' w2 F2 _ _
        have F2 := Lib.hid F2
        clear F1
        go_wp2
        go_roundw
        case rel => exact ⟨k + 1, k + 1, xs ++ [x], by omega, by omega, by go_num, by go_num, Or.inl ⟨by omega, by omega, by rw [X.out]; exact I1.out⟩, by rw [List.map_append]; exact F2.out⟩
        case measure => simp [intOf]; omega
      · have e1 : ((((s[k]'hlt).toNat : Nat) : Int) == (c.toNat : Int)) = false := by
          have : (s[k]'hlt).toNat ≠ c.toNat := fun q => hc (UInt8.toNat_inj.1 q)
          simp; omega
        have I1 := Lib.hid (I.miss (by omega) hf (fun q => hc (ek.symm.trans q)))
        clear S I hc ek
        go_wp2
        go_roundw
        case rel => exact ⟨fr, k + 1, xs, by omega, by omega, rfl, by go_num, Or.inl ⟨by omega, by omega, I1.out⟩, F.out⟩
        case measure => simp [intOf]; omega
    · by_cases he : k = s.size
      · subst he
        obtain ⟨_, hf, I⟩ : s.size ≤ s.size ∧ fr ≤ s.size ∧ SpI s.data.toList c fr s.size (xs.map (·.data.toList)) := by
          rcases S.out.1 with h | h
          · exact h
          · omega
        have F := Lib.hid S.out.2
        have I1 := Lib.hid (SpI.fin (by rw [ls]; exact I))
        obtain ⟨x, hx⟩ : ∃ x : ByteArray, s.extract fr s.size = x := ⟨_, rfl⟩
        have X := Lib.hid (show (xs ++ [x]).map (·.data.toList) = words c s.data.toList by rw [← I1.out, List.map_append, ← hx, ls]; simp [List.drop_take])
        have F1 := Lib.hid (F.out.on (below_alloc wr (.cells #[.string x] 9)))
        clear S I F I1
        go_wp2_with (at_builtin; refine wp_append_any rfl _ _ 51 9 (.string ⟨#[]⟩) 16 Tryz.underlying51 info_string rfl (by decide) rfl w _ _ _ rfl F1.out ⟨wr.heap.size, 0, none⟩ 1 1 [.string x] rfl rfl (cell_one_new _ _ _) (fun u hu => by simp at hu; subst hu; rfl) (by rw [List.length_map]; have := XL.out; omega) ?_)
        intro v' w2 F2 _ _
        have F2 := Lib.hid F2
        clear F1
        go_wp2
        go_roundw
        case rel => exact ⟨s.size + 1, s.size + 1, xs ++ [x], by omega, by omega, by go_num, by go_num, Or.inr ⟨rfl, by omega, X.out⟩, by rw [List.map_append]; exact F2.out⟩
        case measure => simp [intOf]
      · obtain rfl : k = s.size + 1 := by omega
        obtain ⟨_, _, X⟩ : s.size + 1 = s.size + 1 ∧ fr ≤ s.size + 1 ∧ xs.map (·.data.toList) = words c s.data.toList := by
          rcases S.out.1 with h | h
          · omega
          · exact h
        have F := Lib.hid S.out.2
        have X := Lib.hid X
        clear S
        go_wp2
        go_ret
        refine ⟨⟨_, rfl, xs, ?_, X.out⟩, F.out.2⟩
        obtain ⟨a, cp, e, hcp, h⟩ := F.out.row
        rw [List.length_map] at e hcp
        rcases h with h0 | ⟨g, rfl, _, hg, hx⟩
        · have := X.out
          rw [List.map_eq_nil_iff.1 h0] at this
          exact absurd this.symm (words_ne _ _)
        · exact ⟨g, 0, cp, e, hcp, hg, fun j x hj => by rw [Nat.zero_add]; exact hx j _ (by rw [List.getElem?_map, hj]; rfl)⟩
end Go.Proofs.YthghanidabmfgaaGreatDoor
namespace Go.Proofs.YthghanidabmfgaaGreatDoor
open Go.RowKit Go.Sort
set_option maxRecDepth 8000
def hexR (l : List UInt8) : Int := match hexO l with | some n => n | none => -1
theorem hexR_none {l : List UInt8} (h : hexO l = none) : hexR l = -1 := by unfold hexR; rw [h]
theorem hexR_some {l : List UInt8} {n : Nat} (h : hexO l = some n) : hexR l = n := by unfold hexR; rw [h]
/-- The digits so far: their number, where it is not longer than four. -/
def Hxd (s : ByteArray) (k : Nat) (m : Int) : Prop := (k ≤ 4 → m = hexV (s.data.toList.take k)) ∧ (∀ c ∈ s.data.toList.take k, isHex c = true)
theorem hex_bad {l : List UInt8} {c : UInt8} (hc : c ∈ l) (h : isHex c = false) : hexO l = none := by
  unfold hexO
  rw [if_neg]
  rintro ⟨_, _, a⟩
  rw [List.all_eq_true.1 a c hc] at h
  cases h
theorem Hxd.next {s : ByteArray} {k : Nat} {m : Int} (h : Hxd s k m) (hk : k < s.size) {d : Nat} (hd : hvN (s[k]'hk).toNat = some d) {m' : Int} (hm : k < 4 → m' = 16 * m + d) : Hxd s (k + 1) m' := by
  have hh : isHex (s[k]'hk) = true := by unfold isHex; rw [hd]; rfl
  have hv : hval (s[k]'hk) = d := by unfold hval; rw [hd]; rfl
  refine ⟨fun h4 => ?_, ?_⟩
  · rw [hm (by omega), h.1 (by omega), take_next s k hk, hexV_append, hv]; push_cast; rfl
  · rw [take_next s k hk]
    intro c hc
    rcases List.mem_append.1 hc with hc | hc
    · exact h.2 c hc
    · rw [List.mem_singleton.1 hc]; exact hh
theorem Hxd.small {s : ByteArray} {k : Nat} {m : Int} (h : Hxd s k m) (hk : k < 4) : 0 ≤ m ∧ m ≤ 65535 := by
  rw [h.1 (by omega)]
  have := hexV_lt (s.data.toList.take k)
  have l : (s.data.toList.take k).length ≤ 4 := by rw [List.length_take]; omega
  have : (16 : Nat) ^ (s.data.toList.take k).length ≤ 16 ^ 4 := Nat.pow_le_pow_right (by decide) l
  omega
set_option maxHeartbeats 1000000 in
theorem r_hex (s : ByteArray) (hs : s.size ≤ 4000) (w : World) :
    Calls Tryz.prog 32 #[.string s] w fun e w' => e = .returned (.int .i64 (hexR s.data.toList)) ∧ w' = w := by
  have ls : s.data.toList.length = s.size := by simp
  go_enter Tryz.func32, Tryz.ntmps32
  go_wp2
  go_loopw [3, 4] (fun n i wr => wr = w ∧ ∃ (k : Nat) (m : Int), k ≤ s.size ∧ -9223372036854775808 ≤ m ∧ m ≤ 9223372036854775807 ∧ n = .int .i64 m ∧ i = .int .i64 k ∧ Hid (Hxd s k m)) (fun _ i _ => s.size - (intOf i).toNat)
  case atStart => exact ⟨rfl, 0, 0, by omega, by omega, by omega, rfl, rfl, Lib.hid ⟨fun _ => rfl, fun c hc => by cases hc⟩⟩
  case round =>
    obtain ⟨hw, k, m, hk, m0, m1, rfl, rfl, D⟩ := hrel
    rw [hw]
    clear hw
    by_cases hlt : k < s.size
    · have hmem : s[k]'hlt ∈ s.data.toList := by
        have := take_next s k hlt
        exact List.mem_of_mem_take (i := k + 1) (by rw [this]; simp)
      have NX := Lib.hid (fun d m' hd hm => D.out.next hlt (d := d) (m' := m') hd hm)
      have BAD := Lib.hid (fun h => hexR_none (hex_bad (l := s.data.toList) hmem h))
      have SM := Lib.hid (fun h => D.out.small (k := k) h)
      have hb : (s[k]'hlt).toNat < 256 := (s[k]'hlt).toNat_lt
      unfold isHex at BAD
      clear D hmem
      by_cases k1 : 48 ≤ (s[k]'hlt).toNat ∧ (s[k]'hlt).toNat ≤ 57
      · obtain ⟨b1, b2⟩ := k1
        by_cases h4 : k < 4
        · obtain ⟨q0, q1⟩ := SM.out h4
          have X := Lib.hid (NX.out ((s[k]'hlt).toNat - 48) (16 * m + (((s[k]'hlt).toNat : Int) - 48)) (by unfold hvN; rw [if_pos ⟨b1, b2⟩]) (fun _ => by omega))
          clear NX BAD SM
          go_wp2
          go_roundw
          case rel => exact ⟨trivial, k + 1, _, by omega, by omega, by omega, rfl, by go_num, X⟩
          case measure => simp [intOf]; omega
        · have X := Lib.hid (NX.out ((s[k]'hlt).toNat - 48) (wrap64 (wrap64 (16 * m) + (((s[k]'hlt).toNat : Int) - 48))) (by unfold hvN; rw [if_pos ⟨b1, b2⟩]) (fun h => absurd h h4))
          clear NX BAD SM
          go_wp2
          go_roundw
          case rel => exact ⟨trivial, k + 1, _, by omega, by unfold wrap64; omega, by unfold wrap64; omega, rfl, by go_num, X⟩
          case measure => simp [intOf]; omega
      by_cases k2 : 97 ≤ (s[k]'hlt).toNat ∧ (s[k]'hlt).toNat ≤ 102
      · obtain ⟨b1, b2⟩ := k2
        by_cases h4 : k < 4
        · obtain ⟨q0, q1⟩ := SM.out h4
          have X := Lib.hid (NX.out ((s[k]'hlt).toNat - 87) (16 * m + (((s[k]'hlt).toNat : Int) - 87)) (by unfold hvN; rw [if_neg (by omega), if_pos ⟨b1, b2⟩]) (fun _ => by omega))
          clear NX BAD SM
          go_wp2
          go_roundw
          case rel => exact ⟨trivial, k + 1, _, by omega, by omega, by omega, rfl, by go_num, X⟩
          case measure => simp [intOf]; omega
        · have X := Lib.hid (NX.out ((s[k]'hlt).toNat - 87) (wrap64 (wrap64 (16 * m) + (((s[k]'hlt).toNat : Int) - 87))) (by unfold hvN; rw [if_neg (by omega), if_pos ⟨b1, b2⟩]) (fun h => absurd h h4))
          clear NX BAD SM
          go_wp2
          go_roundw
          case rel => exact ⟨trivial, k + 1, _, by omega, by unfold wrap64; omega, by unfold wrap64; omega, rfl, by go_num, X⟩
          case measure => simp [intOf]; omega
      by_cases k3 : 65 ≤ (s[k]'hlt).toNat ∧ (s[k]'hlt).toNat ≤ 70
      · obtain ⟨b1, b2⟩ := k3
        by_cases h4 : k < 4
        · obtain ⟨q0, q1⟩ := SM.out h4
          have X := Lib.hid (NX.out ((s[k]'hlt).toNat - 55) (16 * m + (((s[k]'hlt).toNat : Int) - 55)) (by unfold hvN; rw [if_neg (by omega), if_neg (by omega), if_pos ⟨b1, b2⟩]) (fun _ => by omega))
          clear NX BAD SM
          go_wp2
          go_roundw
          case rel => exact ⟨trivial, k + 1, _, by omega, by omega, by omega, rfl, by go_num, X⟩
          case measure => simp [intOf]; omega
        · have X := Lib.hid (NX.out ((s[k]'hlt).toNat - 55) (wrap64 (wrap64 (16 * m) + (((s[k]'hlt).toNat : Int) - 55))) (by unfold hvN; rw [if_neg (by omega), if_neg (by omega), if_pos ⟨b1, b2⟩]) (fun h => absurd h h4))
          clear NX BAD SM
          go_wp2
          go_roundw
          case rel => exact ⟨trivial, k + 1, _, by omega, by unfold wrap64; omega, by unfold wrap64; omega, rfl, by go_num, X⟩
          case measure => simp [intOf]; omega
      have N := Lib.hid (BAD.out (by unfold hvN; rw [if_neg k1, if_neg k2, if_neg k3]; rfl))
      clear NX BAD SM
      rcases (show (s[k]'hlt).toNat < 48 ∨ (57 < (s[k]'hlt).toNat ∧ (s[k]'hlt).toNat < 65) ∨ (70 < (s[k]'hlt).toNat ∧ (s[k]'hlt).toNat < 97) ∨ 102 < (s[k]'hlt).toNat by omega) with b1 | ⟨b1, b2⟩ | ⟨b1, b2⟩ | b1
      · clear k1 k2 k3
        go_wp2
        go_ret
        exact ⟨by rw [N.out]; rfl, rfl⟩
      · clear k1 k2 k3
        go_wp2
        go_ret
        exact ⟨by rw [N.out]; rfl, rfl⟩
      · clear k1 k2 k3
        go_wp2
        go_ret
        exact ⟨by rw [N.out]; rfl, rfl⟩
      · clear k1 k2 k3
        go_wp2
        go_ret
        exact ⟨by rw [N.out]; rfl, rfl⟩
    · obtain rfl : k = s.size := by omega
      have D2 := D.out
      unfold Hxd at D2
      rw [List.take_of_length_le (by omega)] at D2
      by_cases hp : s.size = 0
      · have N := Lib.hid (hexR_none (l := s.data.toList) (by unfold hexO; rw [if_neg (by omega)]))
        clear D2 D
        go_wp2
        go_ret
        exact ⟨by rw [N.out]; rfl, rfl⟩
      · by_cases h4 : s.size ≤ 4
        · have N := Lib.hid (hexR_some (l := s.data.toList) (n := hexV s.data.toList) (by unfold hexO; rw [if_pos ⟨by omega, by omega, List.all_eq_true.2 D2.2⟩]))
          have M := Lib.hid (D2.1 h4)
          clear D2 D
          go_wp2
          go_ret
          exact ⟨by rw [N.out, M.out]; rfl, rfl⟩
        · have N := Lib.hid (hexR_none (l := s.data.toList) (by unfold hexO; rw [if_neg (by omega)]))
          clear D2 D
          go_wp2
          go_ret
          exact ⟨by rw [N.out]; rfl, rfl⟩
theorem info_u8 : (Tryz.prog.info? 5).map (fun i => (i.zero, i.size, i.bytes)) = some (some (.int .u8 0), 1, 1) := by kernel_rfl
/-- What the call answers: no slice, or one of four bytes. -/
def FourV (B : Nat) (w : World) (v : Value) (o : Option (List Int)) : Prop := match o with
  | none => v = .slice none 0 0
  | some b => ∃ g c, v = .slice (some ⟨g, 0, none⟩) 4 c ∧ 4 ≤ c ∧ B ≤ g ∧ g < w.heap.size ∧ ∀ j n, b[j]? = some n → w.cell? ⟨g, j, none⟩ = some (.int .u8 n)
theorem ints_append (k : IntKind) (a b : List Int) : ints k (a ++ b) = ints k a ++ ints k b := by simp [ints]
theorem numR_cases (x : List UInt8) : (∃ n, num? 0 255 x = some n ∧ numR 255 x = n ∧ 0 ≤ n ∧ n ≤ 255) ∨ (num? 0 255 x = none ∧ numR 255 x = -1) := by
  unfold numR
  cases h : num? 0 255 x with
  | none => right; exact ⟨rfl, rfl⟩
  | some n => left; exact ⟨n, rfl, rfl, (num?_some h).2.1, (num?_some h).2.2⟩
set_option maxHeartbeats 1000000 in
theorem r_four (s : ByteArray) (hs : s.size ≤ 4000) (w : World) :
    Calls Tryz.prog 30 #[.string s] w fun e w' => (∃ v, e = .returned v ∧ FourV w.heap.size w' v (p4 s.data.toList)) ∧ Below w.heap.size w w' := by
  have ls : s.data.toList.length = s.size := by simp
  have SP := Lib.hid (fun w => r_split s 46 hs w)
  rw [show (((46 : UInt8).toNat : Nat) : Int) = 46 from rfl] at SP
  have WC := Lib.hid (show (words 46 s.data.toList).length ≤ 4001 by rw [words_count]; have := List.count_le_length (a := (46 : UInt8)) (l := s.data.toList); omega)
  have SZ := Lib.hid (fun x (hx : x ∈ words 46 s.data.toList) => show x.length ≤ 4000 by
    have := word_size hx
    omega)
  go_enter Tryz.func30, Tryz.ntmps30
  go_upto_region 2 with fail
  go_wp2_with (go_at_call 31; refine (SP.out _).mono ?_; rintro q w2 ⟨⟨v, xs, rfl, hv, hx⟩, hb⟩; have S2 := Lib.hid hb; obtain ⟨b, o, c, rfl, hc, hbl, hxs⟩ := hv; clear hb SP)
  have XW := Lib.hid hx
  have XS := Lib.hid hxs
  have U0 : Hid (Own w2 w2 5 (ints .u8 []) (.slice none 0 0)) := Lib.hid (Own.nil _ _)
  have XL : xs.length ≤ 4001 := by have := congrArg List.length hx; rw [List.length_map] at this; have := WC.out; omega
  have X1 : 1 ≤ xs.length := by
    rcases Nat.eq_zero_or_pos xs.length with h | h
    · rw [List.length_eq_zero_iff.1 h] at hx
      exact absurd hx.symm (words_ne _ _)
    · exact h
  clear hx hxs WC
  generalize hL : xs.length = L at *
  have HL := Lib.hid hL
  clear hL
  go_loopw [4, 5] (fun u i wr => ∃ (k : Nat) (bs : List Int), k ≤ L ∧ (k = 0 ∨ L = 4) ∧ i = .int .i64 k ∧ Hid (optAll (num? 0 255) ((xs.map (·.data.toList)).take k) = some bs ∧ Own w2 wr 5 (ints .u8 bs) u)) (fun _ i _ => L - (intOf i).toNat)
  case atStart => exact ⟨0, [], by omega, Or.inl rfl, rfl, rfl, U0.out⟩
  case round =>
    clear U0
    obtain ⟨k, bs, hk, h04, rfl, U⟩ := hrel
    by_cases hlt : k < L
    · have hlt' : k < xs.length := by rw [HL.out]; exact hlt
      have e1 : xs[k]? = some (xs[k]'hlt') := List.getElem?_eq_getElem _
      have c1 := (U.out.2.2.cell (p := ⟨b, o + k, none⟩) (by exact hbl)).trans (XS.out k _ e1)
      have MM := Lib.hid (List.mem_map.2 ⟨_, List.mem_of_getElem? e1, rfl⟩ : (xs[k]'hlt').data.toList ∈ xs.map (·.data.toList))
      have NX := Lib.hid (fun n (hn : num? 0 255 (xs[k]'hlt').data.toList = some n) => (by
        have e2 : (xs.map (·.data.toList))[k]? = some (xs[k]'hlt').data.toList := by simp [e1]
        have lt := (List.getElem?_eq_some_iff.1 e2).1
        rw [List.take_succ_eq_append_getElem lt, (List.getElem?_eq_some_iff.1 e2).2, optAll_append, U.out.1]
        simp [optAll, hn] : optAll (num? 0 255) ((xs.map (·.data.toList)).take (k + 1)) = some (bs ++ [n])))
      have GL := Lib.hid (show bs.length ≤ 4001 by have := optAll_length U.out.1; rw [List.length_take, List.length_map, HL.out] at this; omega)
      generalize xs[k]'hlt' = x at *
      have xz : x.size ≤ 4000 := by rw [← len_list]; exact SZ.out _ (XW.out ▸ MM.out)
      have RN := Lib.hid (fun w => r_number x 255 (by omega) (by omega) w)
      clear e1
      rcases numR_cases x.data.toList with ⟨n, hn, en, n0, n1⟩ | ⟨hn, en⟩
      · rw [en] at RN
        by_cases h4 : L = 4
        · subst h4
          have NX := Lib.hid (NX.out n hn)
          clear hn MM en
          have F1 := Lib.hid (U.out.2.on (below_alloc wr (.cells #[.int .u8 n] 5)))
          have hn0 : ¬ n < 0 := by omega
          go_wp2_with (first
            | (go_at_call 37; refine (RN.out _).mono ?_; rintro q w3 ⟨rfl, rfl⟩)
            | (at_builtin; refine wp_append_any rfl _ _ 33 5 (.int .u8 0) 1 Tryz.underlying33 info_u8 rfl (by decide) rfl w2 _ _ _ rfl F1.out ⟨_, 0, none⟩ 1 1 [.int .u8 n] rfl rfl (cell_one_new _ _ _) (fun u hu => by simp at hu; subst hu; rfl) (by rw [ints_length]; have := GL.out; omega) ?_))
          intro v' w4 U4 _ _
          have U4 := Lib.hid U4
          clear U
          go_wp2
          go_roundw
          case rel => exact ⟨k + 1, bs ++ [n], by omega, Or.inr trivial, by go_num, NX.out, by rw [ints_append]; exact U4.out⟩
          case measure => simp [intOf]; omega
        · have N := Lib.hid (show p4 s.data.toList = none by unfold p4; rw [← XW.out, if_neg (by rw [List.length_map, HL.out]; exact h4)])
          have e4 : ((L : Int) != 4) = true := by simp; omega
          have hn0 : ¬ n < 0 := by omega
          have S3 := Lib.hid (S2.out.trans (U.out.2.2.mono S2.out.size))
          clear hn MM NX en U
          go_wp2_with (go_at_call 37; refine (RN.out _).mono ?_; rintro q w3 ⟨rfl, rfl⟩)
          go_ret
          exact ⟨⟨_, rfl, by rw [N.out]; rfl⟩, S3.out⟩
      · rw [en] at RN
        have N := Lib.hid (show p4 s.data.toList = none by
          unfold p4
          split
          · rw [← XW.out]; exact optAll_none MM.out hn
          · rfl)
        have S3 := Lib.hid (S2.out.trans (U.out.2.2.mono S2.out.size))
        clear hn MM NX en U
        go_wp2_with (go_at_call 37; refine (RN.out _).mono ?_; rintro q w3 ⟨rfl, rfl⟩)
        go_ret
        exact ⟨⟨_, rfl, by rw [N.out]; rfl⟩, S3.out⟩
    · obtain rfl : k = L := by omega
      have h4 : k = 4 := by omega
      have N := Lib.hid (show p4 s.data.toList = some bs by
        unfold p4
        rw [← XW.out, if_pos (by rw [List.length_map, HL.out]; exact h4), ← U.out.1, List.take_of_length_le (by rw [List.length_map, HL.out]; exact Nat.le_refl _)])
      have S3 := Lib.hid (S2.out.trans (U.out.2.2.mono S2.out.size))
      have bl : bs.length = 4 := by have := optAll_length U.out.1; rw [List.length_take, List.length_map, HL.out] at this; omega
      have R := Lib.hid U.out.2.row
      clear U
      go_wp2
      go_ret
      refine ⟨⟨_, rfl, ?_⟩, S3.out⟩
      rw [N.out]
      obtain ⟨a, cp, e, hcp, h⟩ := R.out
      rw [ints_length, bl] at e hcp
      rcases h with h0 | ⟨g, rfl, hB, hg, hx⟩
      · have := congrArg List.length h0
        rw [ints_length, bl] at this
        cases this
      · exact ⟨g, cp, e, hcp, Nat.le_trans S2.out.size hB, hg, fun j n hj => hx j _ (ints_get hj)⟩
end Go.Proofs.YthghanidabmfgaaGreatDoor
