/-
  The document's answers of layer 7: Get, Put, Sum (horologeref07).
-/
import Derived.Test.YtjdnekkbmanmdaaDoorOctB
import Derived.Test.YtjdnekkbmanmdaaDoorOctE
import Derived.OwnWalk
import Derived.Laws.OwnMore
namespace Go.Proofs.YtjdnekkbmanmdaaDoor
open Go.RowKit Go.Sort
set_option maxRecDepth 8000
theorem pow8 {i : Nat} (h : i ≤ 7) : 256 ^ i ≤ 72057594037927936 := Nat.pow_le_pow_right (by omega) h
theorem ref_sum (N P x : Nat) (hP : P ≤ 72057594037927936) (hN : N < P) (hx : x < 256) : IntKind.u64.wrap ((N : Int) + IntKind.u64.wrap ((x : Int) * (P : Int))) = ((N + P * x : Nat) : Int) := by
  have h : P * x ≤ 72057594037927936 * 255 := Nat.mul_le_mul hP (by omega)
  have h2 : P * x + P ≤ 72057594037927936 * 256 := by
    have : P * (x + 1) ≤ 72057594037927936 * 256 := Nat.mul_le_mul hP (by omega)
    rw [Nat.mul_add] at this; omega
  rw [show (x : Int) * (P : Int) = ((P * x : Nat) : Int) by rw [Int.natCast_mul, Int.mul_comm], wrap_small _ (by omega), show (N : Int) + ((P * x : Nat) : Int) = ((N + P * x : Nat) : Int) by omega, wrap_small _ (by omega)]
theorem ref_worth (i : Nat) : IntKind.u64.wrap (256 * ((256 ^ i : Nat) : Int)) = ((256 ^ (i + 1) % 18446744073709551616 : Nat) : Int) := by
  rw [IntKind.wrap_u64, Nat.pow_succ]; omega
theorem ord_get_l (l : List UInt8) (at_ many i : Nat) (h : at_ + many ≤ l.length) (hi : i < many) : (ord true ((l.drop at_).take many))[i]'(by rw [ord_length, piece_length _ _ _ h]; exact hi) = l[at_ + i] := by
  simp [ord]
theorem ord_get_b (l : List UInt8) (at_ many i : Nat) (h : at_ + many ≤ l.length) (hi : i < many) : (ord false ((l.drop at_).take many))[i]'(by rw [ord_length, piece_length _ _ _ h]; exact hi) = l[at_ + many - 1 - i] := by
  have e : (l.drop at_).length - many = (l.drop at_).length - many := rfl
  simp only [ord, Bool.false_eq_true, if_false, List.getElem_reverse, piece_length _ _ _ h, List.getElem_take, List.getElem_drop]
  congr 1; omega
/-! ### Put -/
theorem run_make_all (w : World) (n : Nat) (hc : n ≤ 140737488355328) :
    (Instr.makeSlice 23 (.int .i64 (n : Int)) (.int .i64 (n : Int))).run Tryd.prog w = .ok (.slice (some ⟨w.heap.size, 0, none⟩) n n) (w.alloc (.cells (cellsOf (List.replicate n 0)).toArray 5)) := by
  obtain ⟨i0, hi, hz0, hz1, hz2⟩ := info_parts info_byte
  have hr := run_make (P := Tryd.prog) w 23 5 i0 (.int .u8 0) Tryd.underlying23 hi hz0 .i64 .i64 n n (by omega) (by omega) (by rw [hz2]; omega) (by omega)
  simp only [Int.toNat_natCast, hz1, Nat.mul_one] at hr
  rw [hr, show cellsOf (List.replicate n 0) = List.replicate n (.int .u8 0) by simp [cellsOf], ← toList_madeCells_one]
  rfl
def fill (n many k : Nat) : List UInt8 := lowB n k ++ List.replicate (many - k) 0
theorem fill_length (n many k : Nat) (h : k ≤ many) : (fill n many k).length = many := by simp [fill, low_length]; omega
theorem fill_succ (n many k : Nat) (h : k < many) : (fill n many k).set k (UInt8.ofNat (n / 256 ^ k)) = fill n many (k + 1) := by
  unfold fill
  rw [List.set_append_right _ _ (by rw [low_length]; exact Nat.le_refl _), low_length, Nat.sub_self, lowB_succ, show many - k = (many - (k + 1)) + 1 by omega, List.replicate_succ, List.set_cons_zero, List.append_assoc]
  rfl
theorem fill_rev (n many k : Nat) (h : k < many) : (fill n many k).reverse.set (many - 1 - k) (UInt8.ofNat (n / 256 ^ k)) = (fill n many (k + 1)).reverse := by
  rw [← fill_succ n many k h]
  apply List.ext_getElem
  · simp
  · intro j h1 h2
    simp only [List.length_set, List.length_reverse, fill_length n many k (by omega)] at h1
    rw [List.getElem_set, List.getElem_reverse, List.getElem_reverse, List.getElem_set]
    simp only [List.length_set, fill_length n many k (by omega)]
    by_cases e : many - 1 - k = j
    · rw [if_pos e, if_pos (by omega)]
    · rw [if_neg e, if_neg (by omega)]
theorem fill_end (n many : Nat) : fill n many many = lowB n many := by simp [fill]
def RPutOut (w : World) (l : List UInt8) (e : Ending) (w' : World) : Prop := ∃ v, e = .returned v ∧ Byt w' v l ∧ Below w.heap.size w w'
/-- .. and where it lies. -/
def RPutG (w : World) (l : List UInt8) (k : Nat) (e : Ending) (w' : World) : Prop := ∃ g, e = .returned (.slice (some ⟨g, 0, none⟩) k k) ∧ RowB w' g l ∧ w.heap.size ≤ g ∧ Below w.heap.size w w'
/-! ### Sum -/
theorem ws_mod_step (s n : Nat) : (s % 65535 + n) % 65535 = (s + n) % 65535 := by omega
theorem par_even (l : List UInt8) : par true l = decide (l.length % 2 = 0) := by
  unfold par
  rcases Nat.mod_two_eq_zero_or_one l.length with e | e
  · rw [if_pos e]; simp [e]
  · rw [if_neg (by omega)]; simp [e]
end Go.Proofs.YtjdnekkbmanmdaaDoor
