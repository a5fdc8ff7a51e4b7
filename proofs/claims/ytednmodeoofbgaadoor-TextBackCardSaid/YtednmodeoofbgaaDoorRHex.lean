/-
  The document's text of bytes: Hex (horologeref04).
-/
import Derived.Test.YtednmodeoofbgaaDoorHex
import Derived.OwnWalk
namespace Go.Proofs.YtednmodeoofbgaaDoor
open Go.RowKit Go.Sort
set_option maxRecDepth 8000
theorem info_byte : (Tryd.prog.info? 5).map (fun i => (i.zero, i.size, i.bytes)) = some (some (.int .u8 0), 1, 1) := by kernel_rfl
def cellsOf (l : List UInt8) : List Value := l.map fun c => .int .u8 (c.toNat : Int)
theorem cellsOf_append (a b : List UInt8) : cellsOf (a ++ b) = cellsOf a ++ cellsOf b := by simp [cellsOf]
theorem cellsOf_length (l : List UInt8) : (cellsOf l).length = l.length := by simp [cellsOf]
theorem Bytes.of_owns {w : World} {B : Nat} {v : Value} {l : List UInt8} (h : w.ownsRow B 5 1 v l.length (cellsOf l)) : Bytes w v l := by
  obtain ⟨_, ⟨rfl, h0⟩ | ⟨g, cap, cur, rfl, _, hg, hn, _, hs, ht⟩⟩ := h
  · have : l = [] := List.length_eq_zero_iff.1 h0
    subst this
    exact ⟨none, 0, rfl, Or.inl rfl⟩
  · refine ⟨some ⟨g, 0, none⟩, cap, rfl, Or.inr ⟨g, 0, rfl, (Array.getElem?_eq_some_iff.1 hg).1, fun j hj => ?_⟩⟩
    have e : cur[j]? = (cellsOf l)[j]? := by
      rw [← ht, List.getElem?_take_of_lt (by omega)]; simp
    rw [Nat.zero_add, cell_of_row w g j cur _ _ hg, e]
    simp [cellsOf, hj]
theorem conv_bytes {w : World} {v : Value} {l : List UInt8} (h : Bytes w v l) : (convert 51 9 v).run Tryd.prog w = .ok (.string ⟨l.toArray⟩) w := by
  obtain ⟨a, c, rfl, h⟩ := h
  rcases h with rfl | ⟨b, o, rfl, _, hc⟩
  · rw [run_convert_bytes_string w 51 9 5 a _ c Tryd.underlying51 Tryd.underlying5 Tryd.underlying9]
    cases a <;> simp [Conv.bytesToString] <;> rfl
  · exact run_convert_bytes_back (P := Tryd.prog) w 51 9 5 ⟨b, o, none⟩ c l Tryd.underlying51 Tryd.underlying5 Tryd.underlying9 (fun j hj => by
      rw [Lib.add_plain]; exact hc j hj)
theorem cellsOf_one (c : UInt8) : cellsOf [c] = [.int .u8 (c.toNat : Int)] := rfl
theorem hex_cell (d : Nat) (h : d < 16) (x : Nat) (hx : (9 < d ∧ x = 87 + d) ∨ (¬ 9 < d ∧ x = 48 + d)) : [Value.int .u8 (((hexD d).toNat : Nat) : Int)] = [.int .u8 (x : Int)] := by
  rw [hexD_nat d h]
  rcases hx with ⟨a, b⟩ | ⟨a, b⟩
  · rw [if_neg (by omega), b]
  · rw [if_pos (by omega), b]
/-- The first k letters of a byte's two. -/
def two (c : UInt8) (k : Nat) : List UInt8 := [hexD (c.toNat / 16), hexD (c.toNat % 16)].take k
def RHex (w wr : World) (l : List UInt8) (v : Value) : Prop := wr.ownsRow w.heap.size 5 1 v l.length (cellsOf l) ∧ Below w.heap.size w wr
theorem wp_append_byte {ops : Array Oper} {rest : List Oper} {o : Oper} {a : Act} {Q : Exit → Act → World → Prop} (hgd : o.guard = none) (s x : Operand)
    (ho : o.op = .call { callee := .builtin .append, args := #[s, x], argTypes := #[51, 51] }) (w wr : World) (L : List UInt8) (v : Value) (hs : a.eval s = v) (R : RHex w wr L v)
    (y : Value) (c : UInt8) (hy : y = .int .u8 (c.toNat : Int)) (hx : a.eval x = .slice (some ⟨wr.heap.size, 0, none⟩) 1 1) (hl : L.length ≤ 4000)
    (h : ∀ v' w', RHex w w' (L ++ [c]) v' → wpList Tryd.prog ops Q rest (a.put o.dst v') w') : wpList Tryd.prog ops Q (o :: rest) a (wr.alloc (.cells #[y] 5)) := by
  obtain ⟨i0, hi, hz0, hz1, hz2⟩ := info_parts info_byte
  subst hy
  have lo := R.1.lt
  have sz := R.2.size
  refine wpList_append_own _ hgd s x 51 ho w.heap.size 5 i0 (.int .u8 0) 1 1 Tryd.underlying51 hi hz0 hz1 hz2 rfl (by decide) v L.length _ hs (R.1.alloc _) ⟨wr.heap.size, 0, none⟩ 1 1 [.int .u8 (c.toNat : Int)] hx rfl (fun j u hj => ?_) (fun u hu => ?_) (by simp only [maxLen]; omega) (by omega) (by simp; omega) (fun v' w' hown hgrow _ => h v' w' ⟨?_, (R.2.alloc sz _).grown hgrow (by simp; omega) (fun k hk => (lo k hk).1)⟩)
  · match j, hj with
    | 0, hj => simp at hj; subst hj; rw [Lib.add_plain]; exact World.cell?_alloc_at _ _ _ _ rfl
    | j + 1, hj => simp at hj
  · simp at hu; subst hu; rfl
  · rw [cellsOf_append, List.length_append]; exact hown
set_option maxHeartbeats 1000000 in
theorem r_hex (l : List UInt8) (hl : l.length ≤ 1000) (v : Value) (w : World) (hB : Bytes w v l) :
    Calls Tryd.prog 23 #[v] w fun e w' => e = .returned (.string ⟨(hexL l).toArray⟩) ∧ Below w.heap.size w w' := by
  obtain ⟨a, c, rfl, hc⟩ := hB
  have HC := Lib.hid hc
  clear hc
  obtain ⟨i0, hi, hz0, hz1, hz2⟩ := info_parts info_byte
  go_enter Tryd.func23, Tryd.ntmps23
  go_wp2
  go_loopw [3, 4] (fun v i wr => ∃ k : Nat, k ≤ l.length ∧ i = .int .i64 k ∧ Hid (RHex w wr (hexL (l.take k)) v)) (fun _ i _ => l.length - (intOf i).toNat)
  case atStart => exact ⟨0, by omega, rfl, World.ownsRow_nil _ _ _ _, Below.refl _ _⟩
  case round =>
    obtain ⟨k, hk, rfl, R⟩ := hrel
    by_cases hlt : k < l.length
    · rcases HC.out with h0 | ⟨b, o, rfl, hb, hc⟩
      · rw [h0] at hlt; exact absurd hlt (by simp)
      have hn : (l[k]).toNat < 256 := (l[k]).toNat_lt
      have C := Lib.hid (hc k hlt)
      generalize hcc : (l[k]).toNat = n at *
      clear hc
      go_wp2
      go_loopw [3, 5] (fun v i wr => ∃ m : Nat, m ≤ 2 ∧ i = .int .i64 m ∧ Hid (RHex w wr (hexL (l.take k) ++ [hexD (n / 16), hexD (n % 16)].take m) v)) (fun _ i _ => 2 - (intOf i).toNat)
      case atStart => exact ⟨0, by omega, rfl, by rw [List.take_zero, List.append_nil]; exact R⟩
      case round =>
        --ROUND
        obtain ⟨m, hm, rfl, R⟩ := hrel
        have L1 := Lib.hid (show (hexL (l.take k) ++ [hexD (n / 16), hexD (n % 16)].take m).length ≤ 2002 by rw [List.length_append, hexL_length, List.length_take, List.length_take]; simp; omega)
        have c1 := (R.out.2.cell (p := ⟨b, o + k, none⟩) (by exact hb)).trans C.out
        rcases (show m = 0 ∨ m = 1 ∨ m = 2 by omega) with rfl | rfl | rfl
        · by_cases g : 9 < n / 16
          · have g' : ((9 : Int) < ((n / 16 : Nat) : Int)) := by omega
            have HY := Lib.hid (show Value.int .u8 (87 + (n : Int) / 16) = .int .u8 ((hexD (n / 16)).toNat) by rw [hexD_nat _ (by omega)]; split <;> first | omega | (congr 1 <;> omega))
            go_wp2_with (at_builtin; refine wp_append_byte rfl _ _ rfl w _ _ _ rfl R.out _ (hexD (n / 16)) HY.out rfl (by have := L1.out; omega) ?_)
            intro v' w2 R2
            have R2 := Lib.hid (show RHex w w2 (hexL (l.take k) ++ [hexD (n / 16), hexD (n % 16)].take 1) v' from R2)
            clear R
            go_wp2
            go_roundw
            case rel => exact ⟨1, by omega, rfl, R2⟩
            case measure => simp [intOf]
          · have g' : ¬ ((9 : Int) < ((n / 16 : Nat) : Int)) := by omega
            have HY := Lib.hid (show Value.int .u8 (48 + (n : Int) / 16) = .int .u8 ((hexD (n / 16)).toNat) by rw [hexD_nat _ (by omega)]; split <;> first | omega | (congr 1 <;> omega))
            go_wp2_with (at_builtin; refine wp_append_byte rfl _ _ rfl w _ _ _ rfl R.out _ (hexD (n / 16)) HY.out rfl (by have := L1.out; omega) ?_)
            intro v' w2 R2
            have R2 := Lib.hid (show RHex w w2 (hexL (l.take k) ++ [hexD (n / 16), hexD (n % 16)].take 1) v' from R2)
            clear R
            go_wp2
            go_roundw
            case rel => exact ⟨1, by omega, rfl, R2⟩
            case measure => simp [intOf]
        · by_cases g : 9 < n % 16
          · have g' : ((9 : Int) < ((n % 16 : Nat) : Int)) := by omega
            have HY := Lib.hid (show Value.int .u8 (87 + (n : Int) % 16) = .int .u8 ((hexD (n % 16)).toNat) by rw [hexD_nat _ (by omega)]; split <;> first | omega | (congr 1 <;> omega))
            go_wp2_with (at_builtin; refine wp_append_byte rfl _ _ rfl w _ _ _ rfl R.out _ (hexD (n % 16)) HY.out rfl (by have := L1.out; omega) ?_)
            intro v' w2 R2
            have R2 := Lib.hid (show RHex w w2 (hexL (l.take k) ++ [hexD (n / 16), hexD (n % 16)].take 2) v' from R2)
            clear R
            go_wp2
            go_roundw
            case rel => exact ⟨2, by omega, rfl, R2⟩
            case measure => simp [intOf]
          · have g' : ¬ ((9 : Int) < ((n % 16 : Nat) : Int)) := by omega
            have HY := Lib.hid (show Value.int .u8 (48 + (n : Int) % 16) = .int .u8 ((hexD (n % 16)).toNat) by rw [hexD_nat _ (by omega)]; split <;> first | omega | (congr 1 <;> omega))
            go_wp2_with (at_builtin; refine wp_append_byte rfl _ _ rfl w _ _ _ rfl R.out _ (hexD (n % 16)) HY.out rfl (by have := L1.out; omega) ?_)
            intro v' w2 R2
            have R2 := Lib.hid (show RHex w w2 (hexL (l.take k) ++ [hexD (n / 16), hexD (n % 16)].take 2) v' from R2)
            clear R
            go_wp2
            go_roundw
            case rel => exact ⟨2, by omega, rfl, R2⟩
            case measure => simp [intOf]
        · have E := Lib.hid (show hexL (l.take (k + 1)) = hexL (l.take k) ++ [hexD (n / 16), hexD (n % 16)].take 2 by rw [take_list l k hlt, hexL_append, hcc, List.append_assoc]; rfl)
          go_wp2
          go_roundw
          case rel => exact ⟨k + 1, by omega, by go_num, by rw [E.out]; exact R⟩
          case measure => simp [intOf]; omega
    · have E := Lib.hid (show hexL (l.take k) = hexL l by rw [List.take_of_length_le (by omega)])
      rw [E.out] at R
      have cv := conv_bytes (Bytes.of_owns R.out.1)
      go_wp2
      go_ret
      exact ⟨rfl, R.out.2⟩
end Go.Proofs.YtednmodeoofbgaaDoor
