/-
  FaultOthers' law, walked.
-/
import Derived.Test.YtcipgagpmglikaaDoorKnown6
import Derived.Test.YtcipgagpmglikaaDoorHeavy6
namespace Go.Proofs.YtcipgagpmglikaaDoor
open Go.RowKit Go.Sort
set_option maxRecDepth 8000
/-- Notes around the error of errors.New's make in block a. -/
def Er.ao (a : Nat) : Er → Prop
  | .own b => b = a
  | .note _ e => e.ao a
  | _ => False
theorem Er.ao_all {a : Nat} {e : Er} (h : e.ao a) : e.kind = none ∧ e.place = none ∧ e.core = .own a ∧ e.words.length = e.cnt ∧ e.size = e.cnt + 1 ∧ e.has (.own a) = true ∧ ∀ k, e.has (.sort k) = false := by
  induction e with
  | own b => cases h; exact ⟨rfl, rfl, rfl, rfl, rfl, by simp [Er.has, Er.is], fun k => rfl⟩
  | note s e ih =>
    obtain ⟨h1, h2, h3, h4, h5, h6, h7⟩ := ih h
    exact ⟨h1, h2, h3, by simp [Er.words, Er.cnt, h4], by simp [Er.size, Er.cnt, h5], h6, h7⟩
  | sort k => cases h
  | fault k o => cases h
theorem wrap_ao {a k : Nat} {e : Er} (h : e.ao a) (hc : e.cnt = min k 8) (s : ByteArray) : (wrapE s e).ao a ∧ (wrapE s e).cnt = min (k + 1) 8 := by
  unfold wrapE
  split
  · exact ⟨h, by omega⟩
  · exact ⟨h, by simp only [Er.cnt]; omega⟩
theorem total_at {xs : List ByteArray} {x : ByteArray} (h : x ∈ xs) : x.size ≤ total xs := by
  induction xs with
  | nil => cases h
  | cons y r ih =>
    simp only [total, List.map_cons, List.sum_cons] at *
    rcases List.mem_cons.1 h with rfl | h
    · omega
    · have := ih h; omega
theorem heavy_not {xs : List ByteArray} (h : heavyB xs = false) : xs.length ≤ 20 ∧ ∀ x ∈ xs, x.size ≤ 1000 := by
  unfold heavyB at h
  have h := of_decide_eq_false h
  exact ⟨by omega, fun x hx => by have := total_at hx; omega⟩
/-- What is carried on. -/
def Oth (w wr : World) (a : Nat) (xs : List ByteArray) (v : Value) (e : Er) (u : Value) (k : Nat) : Prop :=
  IsEr wr (.own a) (.iface 45 (.pointer (some ⟨a, 0, none⟩))) ∧ Strs wr v xs ∧ IsEr wr e u ∧ e.ao a ∧ e.cnt = min k 8 ∧ Ev wr ∧ Below w.heap.size w wr
theorem Oth.on {w wr w2 : World} {a : Nat} {xs : List ByteArray} {v : Value} {e : Er} {u : Value} {k : Nat} (h : Oth w wr a xs v e u k) (hb : Below wr.heap.size wr w2) : Oth w w2 a xs v e u k :=
  ⟨IsEr.on hb h.1, h.2.1.on hb, IsEr.on hb h.2.2.1, h.2.2.2.1, h.2.2.2.2.1, h.2.2.2.2.2.1.below hb, h.2.2.2.2.2.2.trans (hb.mono h.2.2.2.2.2.2.size)⟩
set_option maxHeartbeats 4000000 in
theorem faultOthers_any (s : ByteArray) (xs : List ByteArray) (v : Value) (k : Int) (w : World) (h : Strs w v xs) (hz : Sized xs) (hw : Ev w) :
    Calls Tryd.prog 3 #[.string s, v, .int .i64 k] w fun ex w' => ex = .returned (.bool true) ∧ Below w.heap.size w w' := by
  have N := Lib.hid (t_known w hw)
  have H := Lib.hid (fun w1 (hb : Below w.heap.size w w1) => t_heavy v xs w1 (h.on hb) hz)
  have G := Lib.hid (And.intro h hw)
  clear h hz hw
  cases hh : heavyB xs with
  | true =>
    rw [hh] at H
    clear hh
    go_enter Tryd.func3, Tryd.ntmps3
    go_wp2_with fail
    refine N.out.mono ?_
    rintro q w1 ⟨rfl, hb1⟩
    go_wp2_with fail
    refine (H.out _ hb1).mono ?_
    rintro q w2 ⟨rfl, hb2⟩
    go_wp2
    go_ret
    exact ⟨rfl, hb1.trans (hb2.mono hb1.size)⟩
  | false =>
    rw [hh] at H
    have Q := Lib.hid (heavy_not hh)
    clear hh
    by_cases hs : 1000 < s.size
    · have hs' : (1000 : Int) < s.size := by omega
      clear hs
      go_enter Tryd.func3, Tryd.ntmps3
      go_wp2_with fail
      refine N.out.mono ?_
      rintro q w1 ⟨rfl, hb1⟩
      go_wp2_with fail
      refine (H.out _ hb1).mono ?_
      rintro q w2 ⟨rfl, hb2⟩
      go_wp2
      go_ret
      exact ⟨rfl, hb1.trans (hb2.mono hb1.size)⟩
    · have hs' : ¬ (1000 : Int) < s.size := by omega
      clear hs
      go_enter Tryd.func3, Tryd.ntmps3
      go_wp2_with fail
      refine N.out.mono ?_
      rintro q w1 ⟨rfl, hb1⟩
      go_wp2_with fail
      refine (H.out _ hb1).mono ?_
      rintro q w2 ⟨rfl, hb2⟩
      have B2 := Lib.hid (hb1.trans (hb2.mono hb1.size))
      clear hb1 hb2 N H
      go_wp2_with fail
      refine (e_new s w2).mono ?_
      rintro q w3 ⟨rfl, hi, hb3⟩
      obtain ⟨a, ha⟩ : ∃ a, a = w2.heap.size := ⟨_, rfl⟩
      rw [← ha] at hi ⊢
      have B3 := Lib.hid (B2.out.trans (hb3.mono B2.out.size))
      have S := Lib.hid (show Oth w w3 a xs v (.own a) (.iface 45 (.pointer (some ⟨a, 0, none⟩))) 0 from ⟨hi, G.out.1.on B3.out, hi, rfl, rfl, G.out.2.below B3.out, B3.out⟩)
      clear hi hb3 B2 B3 ha G hs'
      obtain ⟨va, vc, hv, hc, hx⟩ := S.out.2.1.at
      subst hv
      clear hx
      have hl : (xs.length : Int) ≤ 20 := by have := Q.out.1; omega
      go_wp2
      go_loopg [8, 31] (xs.length) (fun g v8 v31 wr => ∃ (j : Nat) (e : Er), j ≤ xs.length ∧ g = xs.length - j ∧ v31 = .int .i64 j ∧ Hid (Oth w wr a xs (.slice va xs.length vc) e v8 j))
      case atStart => exact ⟨0, _, Nat.zero_le _, rfl, rfl, S⟩
      case round =>
        obtain ⟨j, e, hj, rfl, rfl, T⟩ := hrel
        clear S
        by_cases hlt : j < xs.length
        · obtain ⟨va', vc', hv, -, hx⟩ := T.out.2.1.at
          cases hv
          obtain ⟨b, o, x, hva, hx1, hcell⟩ := hx j hlt
          subst hva
          have W := Lib.hid (t_wrap x (by have := Q.out.2 x (List.mem_of_getElem? hx1); omega) e u8 wr T.out.2.2.1)
          have E := Lib.hid (wrap_ao T.out.2.2.2.1 T.out.2.2.2.2.1 x)
          have LT := Lib.hid hlt
          have hlt' : (j : Int) < xs.length := by omega
          clear hx hx1 hlt
          go_wp2_with fail
          refine W.out.mono ?_
          rintro q w4 hq
          have hb := hq.2
          obtain ⟨u, rfl, hu⟩ := hq.is T.out.2.2.1
          have T2 := Lib.hid (T.out.on hb)
          have U := Lib.hid (show Oth w w4 a xs _ (wrapE x e) u (j + 1) from ⟨T2.out.1, T2.out.2.1, hu, E.out.1, E.out.2, T2.out.2.2.2.2.2.1, T2.out.2.2.2.2.2.2⟩)
          clear hq hb hu T T2 W
          go_wp2
          go_roundg (xs.length - (j + 1))
          case rel => exact ⟨j + 1, wrapE x e, LT.out, rfl, by go_num, U⟩
          case measure => have := LT.out; omega
        · obtain rfl : j = xs.length := by omega
          clear hlt hj
          have A := Lib.hid (Er.ao_all T.out.2.2.2.1)
          have Z := Lib.hid (show e.size ≤ 4000 by rw [A.out.2.2.2.2.1, T.out.2.2.2.2.1]; omega)
          have K := Lib.hid (fun w1 (h : Oth w w1 a xs (.slice va xs.length vc) e u8 xs.length) => t_kind e u8 w1 h.2.2.1 h.2.2.2.2.2.1.2)
          have O := Lib.hid (fun w1 (h : Oth w w1 a xs (.slice va xs.length vc) e u8 xs.length) => t_off e u8 w1 h.2.2.1 h.2.2.2.2.2.1.place)
          have L := Lib.hid (fun w1 (h : Oth w w1 a xs (.slice va xs.length vc) e u8 xs.length) => line_no (some e) u8 w1 h.2.2.1 Z.out (by show bareO (some e.core) = true; rw [A.out.2.2.1]; rfl))
          have I1 := Lib.hid (fun w1 (h : Oth w w1 a xs (.slice va xs.length vc) e u8 xs.length) => t_is (.own a) e u8 _ rfl w1 h.2.2.1 h.1)
          have I2 := Lib.hid (fun w1 (h : Oth w w1 a xs (.slice va xs.length vc) e u8 xs.length) => t_faultIs e u8 k w1 h.2.2.1)
          have NN := Lib.hid (fun w1 (h : Oth w w1 a xs (.slice va xs.length vc) e u8 xs.length) => t_notes (some e) u8 w1 h.2.2.1 Z.out)
          have LN := Lib.hid (show (wordsO (some e)).length = min xs.length 8 from A.out.2.2.2.1.trans T.out.2.2.2.2.1)
          rw [A.out.1, kindV] at K
          rw [A.out.2.1, offV] at O
          rw [A.out.2.2.2.2.2.1] at I1
          rw [A.out.2.2.2.2.2.2 k] at I2
          go_wp2_with fail
          refine (K.out _ T.out).mono ?_
          rintro q w4 ⟨rfl, hb⟩
          replace T := Lib.hid (T.out.on hb)
          clear hb
          go_wp2_with fail
          refine (O.out _ T.out).mono ?_
          rintro q w5 ⟨rfl, hb⟩
          replace T := Lib.hid (T.out.on hb)
          clear hb
          go_wp2_with fail
          refine (L.out _ T.out).mono ?_
          rintro q w6 ⟨rfl, hb⟩
          replace T := Lib.hid (T.out.on hb)
          clear hb
          go_wp2_with fail
          refine (I1.out _ T.out).mono ?_
          rintro q w7 ⟨rfl, hb⟩
          replace T := Lib.hid (T.out.on hb)
          clear hb
          go_wp2_with fail
          refine (I2.out _ T.out).mono ?_
          rintro q w8 ⟨rfl, hb⟩
          replace T := Lib.hid (T.out.on hb)
          clear hb
          go_wp2_with fail
          refine (NN.out _ T.out).mono ?_
          rintro q w9 ⟨⟨l, rfl, hl2⟩, hb⟩
          obtain ⟨la, lc, hl3, -⟩ := hl2
          rw [LN.out] at hl3
          subst hl3
          replace T := Lib.hid (T.out.on hb)
          clear hb
          by_cases h8 : xs.length ≤ 8
          · have e8 : min xs.length 8 = xs.length := by omega
            have h8' : (xs.length : Int) ≤ 8 := by omega
            rw [e8]
            clear e8 h8
            have eq : ((xs.length : Int) == min (xs.length : Int) 8) = true := by simp; omega
            go_wp2
            go_ret
            exact ⟨by first | rfl | (show Ending.returned (Value.bool ((xs.length : Int) == min (xs.length : Int) 8)) = _; rw [eq]), T.out.2.2.2.2.2.2⟩
          · have e8 : min xs.length 8 = 8 := by omega
            have h8' : (8 : Int) < xs.length := by omega
            rw [e8]
            clear e8 h8
            have eq : ((8 : Int) == min (xs.length : Int) 8) = true := by simp; omega
            go_wp2
            go_ret
            exact ⟨by first | rfl | (show Ending.returned (Value.bool ((8 : Int) == min (xs.length : Int) 8)) = _; rw [eq]), T.out.2.2.2.2.2.2⟩
end Go.Proofs.YtcipgagpmglikaaDoor
