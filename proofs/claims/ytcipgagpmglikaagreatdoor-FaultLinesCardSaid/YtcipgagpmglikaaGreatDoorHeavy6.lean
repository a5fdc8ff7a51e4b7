/-
  horologelaw06.heavy: whether there are more words than are gone through.
-/
import Derived.Test.YtcipgagpmglikaaGreatDoorFields
import Derived.Deep.LoopGhost
namespace Go.Proofs.YtcipgagpmglikaaGreatDoor
open Go.RowKit Go.Sort
set_option maxRecDepth 8000
def total (xs : List ByteArray) : Nat := (xs.map (·.size)).sum
theorem total_snoc (xs : List ByteArray) (k : Nat) (x : ByteArray) (h : xs[k]? = some x) : total (xs.take (k + 1)) = total (xs.take k) + x.size := by
  have lt := (List.getElem?_eq_some_iff.1 h).1
  have e := (List.getElem?_eq_some_iff.1 h).2
  unfold total
  rw [List.take_succ_eq_append_getElem lt, List.map_append, List.sum_append, e]
  simp
theorem total_le (xs : List ByteArray) (B : Nat) (h : ∀ x ∈ xs, x.size ≤ B) : total xs ≤ xs.length * B := by
  induction xs with
  | nil => simp [total]
  | cons x r ih =>
    have := ih fun y hy => h y (List.mem_cons_of_mem _ hy)
    have := h x List.mem_cons_self
    simp only [total, List.map_cons, List.sum_cons, List.length_cons] at *
    rw [Nat.succ_mul]
    omega
def heavyB (xs : List ByteArray) : Bool := decide (20 < xs.length ∨ 1000 < total xs)
/-- Strings of no more bytes than a string may have. -/
def Sized (xs : List ByteArray) : Prop := xs.length ≤ 140737488355328 ∧ ∀ x ∈ xs, x.size ≤ 140737488355328
theorem Strs.at {w : World} {v : Value} {xs : List ByteArray} (h : Strs w v xs) : ∃ a c, v = .slice a xs.length c ∧ xs.length ≤ c ∧ (∀ j, j < xs.length → ∃ b o x, a = some ⟨b, o, none⟩ ∧ xs[j]? = some x ∧ w.cell? ⟨b, o + j, none⟩ = some (.string x)) := by
  obtain ⟨a, c, e, hc, h⟩ := h
  refine ⟨a, c, e, hc, fun j hj => ?_⟩
  rcases h with rfl | ⟨b, o, ea, _, hx⟩
  · exact absurd hj (Nat.not_lt_zero _)
  · have e := List.getElem?_eq_getElem hj
    exact ⟨b, o, xs[j], ea, e, hx j _ e⟩
set_option maxHeartbeats 1000000 in
theorem t_heavy (v : Value) (xs : List ByteArray) (w : World) (h : Strs w v xs) (hz : Sized xs) : Calls Tryz.prog 7 #[v] w fun ex w' => ex = .returned (.bool (heavyB xs)) ∧ Below w.heap.size w w' := by
  obtain ⟨a, c, rfl, hc, hx⟩ := h.at
  obtain ⟨r, hr⟩ : ∃ r, r = heavyB xs := ⟨_, rfl⟩
  rw [← hr]
  have HX := Lib.hid hx
  have HZ := Lib.hid hz
  have hl : (xs.length : Int) ≤ 140737488355328 := by have := hz.1; omega
  clear h hx hz
  by_cases hL : xs.length ≤ 20
  · have R := Lib.hid (show r = decide (1000 < total xs) by rw [hr, heavyB]; congr 1; simp; omega)
    have HL := Lib.hid hL
    have hL' : ¬ (20 : Int) < xs.length := by omega
    clear hr hL
    go_enter Tryz.func7, Tryz.ntmps7
    go_wp2
    go_loopg [3, 8] (xs.length) (fun g v3 v8 wr => wr = w ∧ ∃ k : Nat, k ≤ xs.length ∧ g = xs.length - k ∧ v8 = .int .i64 k ∧ v3 = .int .i64 (total (xs.take k) : Nat))
    case atStart => exact ⟨rfl, 0, Nat.zero_le _, rfl, rfl, rfl⟩
    case round =>
      obtain ⟨rfl, k, hk, rfl, rfl, rfl⟩ := hrel
      by_cases hlt : k < xs.length
      · obtain ⟨b, o, x, rfl, hx, hcell⟩ := HX.out k hlt
        have X := Lib.hid hx
        have hlt' : (k : Int) < xs.length := by omega
        have hb : (total (xs.take k) : Int) ≤ 20 * 140737488355328 := by
          have := total_le (xs.take k) 140737488355328 fun y hy => HZ.out.2 y (List.mem_of_mem_take hy)
          have h2 : (xs.take k).length ≤ 20 := by rw [List.length_take]; have := HL.out; omega
          have : (xs.take k).length * 140737488355328 ≤ 20 * 140737488355328 := Nat.mul_le_mul_right _ h2
          omega
        have hs : (x.size : Int) ≤ 140737488355328 := by have := HZ.out.2 x (List.mem_of_getElem? hx); omega
        have LT := Lib.hid hlt
        have T := Lib.hid (total_snoc xs k x hx)
        clear hx hlt
        generalize total (xs.take k) = z at *
        go_wp2
        go_roundg (xs.length - (k + 1))
        case rel => exact ⟨rfl, k + 1, LT.out, rfl, by go_num, by rw [T.out]; go_num⟩
        case measure => have := LT.out; omega
      · obtain rfl : k = xs.length := by omega
        have K := Lib.hid (show r = (decide ((20 : Int) < (xs.length : Nat)) || decide ((1000 : Int) < (total (xs.take xs.length) : Nat))) by
          rw [R.out, List.take_of_length_le (Nat.le_refl _), decide_eq_false (show ¬ (20 : Int) < (xs.length : Nat) by have := HL.out; omega), Bool.false_or, decide_eq_decide]; omega)
        generalize total (xs.take xs.length) = z at *
        clear hlt hk
        go_wp2
        go_ret
        exact ⟨by rw [K.out]; rfl, Below.refl _ _⟩
  · have R := Lib.hid (show r = true by rw [hr, heavyB, decide_eq_true_eq]; exact Or.inl (by omega))
    have hL' : (20 : Int) < xs.length := by omega
    clear hr hL
    go_enter Tryz.func7, Tryz.ntmps7
    go_wp2
    go_loopg [3, 8] (xs.length) (fun g v3 v8 wr => wr = w ∧ ∃ (k : Nat) (z : Int), k ≤ xs.length ∧ g = xs.length - k ∧ v8 = .int .i64 k ∧ v3 = .int .i64 z)
    case atStart => exact ⟨rfl, 0, 0, Nat.zero_le _, rfl, rfl, rfl⟩
    case round =>
      obtain ⟨rfl, k, z, hk, rfl, rfl, rfl⟩ := hrel
      by_cases hlt : k < xs.length
      · obtain ⟨b, o, x, rfl, hx, hcell⟩ := HX.out k hlt
        have hlt' : (k : Int) < xs.length := by omega
        have LT := Lib.hid hlt
        clear hx hlt
        go_wp2
        go_roundg (xs.length - (k + 1))
        case rel => exact ⟨rfl, k + 1, _, LT.out, rfl, by go_num, rfl⟩
        case measure => have := LT.out; omega
      · obtain rfl : k = xs.length := by omega
        clear hlt hk
        go_wp2
        go_ret
        exact ⟨by rw [R.out]; rfl, Below.refl _ _⟩
end Go.Proofs.YtcipgagpmglikaaGreatDoor
