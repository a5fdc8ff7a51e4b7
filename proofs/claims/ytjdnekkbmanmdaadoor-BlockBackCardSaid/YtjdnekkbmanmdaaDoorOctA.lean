/-
  Integers in bytes: bits.ReverseBytes64, and package octet's turn, Cut.
-/
import Derived.Test.YtjdnekkbmanmdaaDoorOct
import Derived.Test.YtjdnekkbmanmdaaDoorLow
import Derived.Test.YtjdnekkbmanmdaaDoorBytes
import Derived.Laws.BitsAllLaws
import Derived.OwnWalk
namespace Go.Proofs.YtjdnekkbmanmdaaDoor
open Go.RowKit Go.Sort
set_option maxRecDepth 8000
theorem wrap_small (x : Nat) (h : x < 18446744073709551616) : IntKind.u64.wrap (x : Int) = (x : Int) := by rw [IntKind.wrap_u64]; omega
theorem step1 (n : Nat) (hn : n < 18446744073709551616) : bits .or .u64 (bits .and .u64 ((n : Int) / 256) 71777214294589695) (IntKind.u64.wrap (bits .and .u64 (n : Int) 71777214294589695 * 256)) = ((turn1 n : Nat) : Int) := by
  have a : bits .and .u64 (n : Int) 71777214294589695 = ((n &&& 71777214294589695 : Nat) : Int) := u64_and_nat n 71777214294589695 hn (by omega)
  have b : bits .and .u64 ((n : Int) / 256) 71777214294589695 = ((n / 256 &&& 71777214294589695 : Nat) : Int) := u64_and_nat (n / 256) 71777214294589695 (by omega) (by omega)
  have l1 : n &&& 71777214294589695 ≤ 71777214294589695 := Nat.and_le_right
  have l2 : n / 256 &&& 71777214294589695 ≤ 71777214294589695 := Nat.and_le_right
  rw [a, b, show ((n &&& 71777214294589695 : Nat) : Int) * 256 = (((n &&& 71777214294589695) * 256 : Nat) : Int) by omega, wrap_small _ (by omega), u64_or_nat _ _ (by omega) (by omega)]
  rfl
theorem step2 (n : Nat) (hn : n < 18446744073709551616) : bits .or .u64 (bits .and .u64 ((n : Int) / 65536) 281470681808895) (IntKind.u64.wrap (bits .and .u64 (n : Int) 281470681808895 * 65536)) = ((turn2 n : Nat) : Int) := by
  have a : bits .and .u64 (n : Int) 281470681808895 = ((n &&& 281470681808895 : Nat) : Int) := u64_and_nat n 281470681808895 hn (by omega)
  have b : bits .and .u64 ((n : Int) / 65536) 281470681808895 = ((n / 65536 &&& 281470681808895 : Nat) : Int) := u64_and_nat (n / 65536) 281470681808895 (by omega) (by omega)
  have l1 : n &&& 281470681808895 ≤ 281470681808895 := Nat.and_le_right
  have l2 : n / 65536 &&& 281470681808895 ≤ 281470681808895 := Nat.and_le_right
  rw [a, b, show ((n &&& 281470681808895 : Nat) : Int) * 65536 = (((n &&& 281470681808895) * 65536 : Nat) : Int) by omega, wrap_small _ (by omega), u64_or_nat _ _ (by omega) (by omega)]
  rfl
theorem step3 (n : Nat) (hn : n < 18446744073709551616) : bits .or .u64 ((n : Int) / 4294967296) (IntKind.u64.wrap ((n : Int) * 4294967296)) = ((turn3 n : Nat) : Int) := by
  rw [IntKind.wrap_u64, show (n : Int) / 4294967296 = ((n / 4294967296 : Nat) : Int) by omega, show (n : Int) * 4294967296 % 18446744073709551616 = ((n * 4294967296 % 18446744073709551616 : Nat) : Int) by omega, u64_or_nat _ _ (by omega) (by omega)]
  rfl
set_option maxHeartbeats 1000000 in
theorem t_rev64 (n : Nat) (hn : n < 18446744073709551616) (w : World) : Calls Tryd.prog 29 #[.int .u64 n] w fun e w' => e = .returned (.int .u64 (rev8 n)) ∧ w = w' := by
  have b1 := turn1_lt n hn
  have b2 := turn2_lt _ b1
  have R := Lib.hid (turns_rev8 n hn)
  have e1 := step1 n hn
  have e2 := step2 _ b1
  have e3 := step3 _ b2
  generalize turn1 n = x at *
  generalize turn2 x = y at *
  have E1 := Lib.hid e1
  have E2 := Lib.hid e2
  have E3 := Lib.hid e3
  clear e1 e2 e3
  go_enter Tryd.func29, Tryd.ntmps29
  go_upto_region 2 with fail
  rw [E1.out]
  go_upto_region 3 with fail
  rw [E2.out]
  go_wp2
  go_ret
  rw [E3.out, R.out]
  exact ⟨rfl, rfl⟩
/-- Between a row's order and the one with the highest first. -/
def turnN (little : Bool) (n many : Nat) : Nat := if little then le (lowB n many).reverse else n
theorem turnN_shift (n many : Nat) (h : many ≤ 8) : ((rev8 n : Nat) : Int) / 2 ^ (8 * (8 - many)) = ((turnN true n many : Nat) : Int) := by
  unfold turnN
  rw [if_pos rfl, ← rev8_shift n many h, Int.natCast_ediv]
  congr 1
  have : (256 : Nat) ^ (8 - many) = 2 ^ (8 * (8 - many)) := by rw [Nat.pow_mul]
  rw [this, Int.natCast_pow]
  rfl
theorem turnN_lt (b : Bool) (n many : Nat) (hn : n < 256 ^ many) : turnN b n many < 256 ^ many := by
  unfold turnN; split
  · have := le_lt (lowB n many).reverse
    rwa [List.length_reverse, low_length] at this
  · exact hn
set_option maxHeartbeats 1000000 in
theorem t_turn (b : Bool) (a : Option Addr) (k c : Nat) (n many : Nat) (hn : n < 18446744073709551616) (hm : many ≤ 8) (w : World) :
    Calls Tryd.prog 21 #[.agg #[.slice a k c, .bool b], .int .u64 n, .int .i64 many] w fun e w' => e = .returned (.int .u64 (turnN b n many)) ∧ Below w.heap.size w w' := by
  cases b
  · go_enter Tryd.func21, Tryd.ntmps21
    go_wp2
    go_ret
    exact ⟨rfl, below_alloc _ _⟩
  · have E := Lib.hid (turnN_shift n many hm)
    go_enter Tryd.func21, Tryd.ntmps21
    go_wp2_with (go_at_call 29; refine (t_rev64 _ hn _).mono ?_; rintro e w1 ⟨rfl, rfl⟩)
    go_ret
    rw [E.out]
    exact ⟨rfl, below_alloc _ _⟩
/-! ### Pieces of rows -/
/-- A slice that holds these bytes, in a capacity that is not less. -/
def Byt (w : World) (v : Value) (l : List UInt8) : Prop :=
  ∃ a c, v = .slice a l.length c ∧ l.length ≤ c ∧ (l = [] ∨ ∃ b o, a = some ⟨b, o, none⟩ ∧ b < w.heap.size ∧ ∀ j (h : j < l.length), w.cell? ⟨b, o + j, none⟩ = some (.int .u8 (l[j]).toNat))
theorem Byt.bytes {w : World} {v : Value} {l : List UInt8} (h : Byt w v l) : Bytes w v l := let ⟨a, c, e, _, r⟩ := h; ⟨a, c, e, r⟩
/-- The same bytes, from a place on. -/
def BytA (w : World) (a : Option Addr) (l : List UInt8) : Prop := l = [] ∨ ∃ b o, a = some ⟨b, o, none⟩ ∧ b < w.heap.size ∧ ∀ j (h : j < l.length), w.cell? ⟨b, o + j, none⟩ = some (.int .u8 (l[j]).toNat)
theorem BytA.byt {w : World} {a : Option Addr} {l : List UInt8} (h : BytA w a l) {n c : Nat} (hn : n = l.length) (hc : n ≤ c) : Byt w (.slice a n c) l := by subst hn; exact ⟨a, c, rfl, hc, h⟩
theorem Byt.open {w : World} {v : Value} {l : List UInt8} (h : Byt w v l) : ∃ a c, v = .slice a l.length c ∧ l.length ≤ c ∧ BytA w a l := h
theorem BytA.on {w w' : World} {a : Option Addr} {l : List UInt8} (h : BytA w a l) (hb : Below w.heap.size w w') : BytA w' a l := by
  refine h.imp id ?_
  rintro ⟨b, o, ea, hl, hc⟩
  exact ⟨b, o, ea, Nat.lt_of_lt_of_le hl hb.size, fun j hj => (hb.cell (by exact hl)).trans (hc j hj)⟩
theorem Byt.on {w w' : World} {v : Value} {l : List UInt8} (h : Byt w v l) (hb : Below w.heap.size w w') : Byt w' v l := by
  obtain ⟨a, c, e, k, h⟩ := h.open
  exact ⟨a, c, e, k, h.on hb⟩
/-- Where a piece begins. -/
def cutA (a : Option Addr) (at_ many : Nat) : Option Addr := if many = 0 then a else a.map (·.add at_)
theorem BytA.cut {w : World} {a : Option Addr} {l : List UInt8} (h : BytA w a l) (at_ many : Nat) (hl : at_ + many ≤ l.length) : BytA w (cutA a at_ many) ((l.drop at_).take many) := by
  unfold cutA
  by_cases h0 : many = 0
  · subst h0; left; simp
  · rw [if_neg h0]
    rcases h with rfl | ⟨b, o, rfl, hb, hc⟩
    · simp at hl; omega
    · right
      refine ⟨b, o + at_, ?_, hb, fun j hj => ?_⟩
      · simp only [Option.map_some]; rw [addr_add]
      · rw [List.length_take, List.length_drop] at hj
        rw [Nat.add_assoc, hc (at_ + j) (by omega)]
        congr 3
        rw [List.getElem_take, List.getElem_drop]
theorem BytA.sub {w : World} {a : Option Addr} {l : List UInt8} (h : BytA w a l) (at_ many c : Nat) (hl : at_ + many ≤ l.length) (hc : l.length ≤ c) : BytA w (if c = at_ then a else a.map (·.add at_)) ((l.drop at_).take many) := by
  by_cases h0 : many = 0
  · subst h0; left; simp
  · have := h.cut at_ many hl
    unfold cutA at this
    rw [if_neg h0] at this
    rw [if_neg (by omega)]
    exact this
theorem piece_length (l : List UInt8) (at_ many : Nat) (h : at_ + many ≤ l.length) : ((l.drop at_).take many).length = many := by rw [List.length_take, List.length_drop]; omega
/-- A block that holds just these bytes. -/
def RowB (w : World) (g : Nat) (L : List UInt8) : Prop := w.heap[g]? = some (.cells (cellsOf L).toArray 5 (0, 0))
theorem RowB.cell {w : World} {g : Nat} {L : List UInt8} (h : RowB w g L) {j : Nat} (hj : j < L.length) : w.cell? ⟨g, j, none⟩ = some (.int .u8 (L[j]).toNat) := by
  rw [cell_of_row _ _ _ _ _ _ h]; simp [cellsOf, hj]
theorem RowB.free {w : World} {g : Nat} {L : List UInt8} (h : RowB w g L) (j : Nat) : w.frozen? ⟨g, j, none⟩ = false := frozen_of_row _ _ _ _ _ h
theorem RowB.put {w : World} {g : Nat} {L : List UInt8} (h : RowB w g L) (i : Nat) (c : UInt8) : RowB (w.setCell ⟨g, i, none⟩ (.int .u8 (c.toNat : Int))) g (L.set i c) := by
  unfold RowB at *
  rw [heap_setCell_same w g i _ _ _ h]
  congr 2
  simp [cellsOf]
theorem RowB.byt {w : World} {g : Nat} {L : List UInt8} (h : RowB w g L) {n c : Nat} (hn : n = L.length) (hc : n ≤ c) : Byt w (.slice (some ⟨g, 0, none⟩) n c) L :=
  BytA.byt (Or.inr ⟨g, 0, rfl, (Array.getElem?_eq_some_iff.1 h).1, fun j hj => by rw [Nat.zero_add]; exact h.cell hj⟩) hn hc
theorem RowB.bytA {w : World} {g : Nat} {L : List UInt8} (h : RowB w g L) : BytA w (some ⟨g, 0, none⟩) L :=
  Or.inr ⟨g, 0, rfl, (Array.getElem?_eq_some_iff.1 h).1, fun j hj => by rw [Nat.zero_add]; exact h.cell hj⟩
theorem RowB.new (w : World) (L : List UInt8) {cs : Array Value} (h : cs = (cellsOf L).toArray) : RowB (w.alloc (.cells cs 5)) w.heap.size L := by subst h; exact row_new _ _ rfl
set_option maxHeartbeats 1000000 in
theorem t_cut_yes (a : Option Addr) (n c : Nat) (b : Bool) (at_ many : Nat) (hc : n ≤ c) (h : at_ + many ≤ n) (hz : n ≤ 140737488355328) (w : World) :
    Calls Tryd.prog 14 #[.agg #[.slice a n c, .bool b], .int .i64 at_, .int .i64 many] w fun e w' =>
      e = .returned (.tuple #[.slice (cutA a at_ many) many many, .bool true]) ∧ Below w.heap.size w w' := by
  have g1 : decide ((at_ : Int) < 0) = false := by simp
  have g2 : decide (n < at_) = false := by simp; omega
  have g3 : decide ((many : Int) < 0) = false := by simp
  have g4 : decide ((n : Int) - at_ < many) = false := by simp; omega
  by_cases h0 : many = 0
  · obtain rfl := h0
    go_enter Tryd.func14, Tryd.ntmps14
    go_wp2
    go_ret2
    exact ⟨rfl, below_alloc _ _⟩
  · have h1 : ¬ at_ + many = at_ := by omega
    have E := Lib.hid (show cutA a at_ many = a.map (·.add at_) from if_neg h0)
    clear h0
    rw [E.out]
    go_enter Tryd.func14, Tryd.ntmps14
    go_wp2
    go_ret2
    simp only [Nat.add_sub_cancel_left]
    exact ⟨rfl, below_alloc _ _⟩
set_option maxHeartbeats 1000000 in
theorem t_cut_no (a : Option Addr) (n c : Nat) (b : Bool) (at_ many : Int) (h : ¬ (0 ≤ at_ ∧ 0 ≤ many ∧ at_ + many ≤ n)) (ha : -9223372036854775808 ≤ at_ ∧ at_ ≤ 9223372036854775807) (hm : -9223372036854775808 ≤ many ∧ many ≤ 9223372036854775807) (w : World) :
    Calls Tryd.prog 14 #[.agg #[.slice a n c, .bool b], .int .i64 at_, .int .i64 many] w fun e w' =>
      e = .returned (.tuple #[.slice none 0 0, .bool false]) ∧ Below w.heap.size w w' := by
  rcases (show at_ < 0 ∨ (0 ≤ at_ ∧ (n : Int) < at_) ∨ (0 ≤ at_ ∧ at_ ≤ n ∧ many < 0) ∨ (0 ≤ at_ ∧ at_ ≤ n ∧ 0 ≤ many ∧ (n : Int) - at_ < many) by omega) with g | ⟨g1, g2⟩ | ⟨g1, g2, g3⟩ | ⟨g1, g2, g3, g4⟩
  all_goals
    clear h
    go_enter Tryd.func14, Tryd.ntmps14
    go_wp2
    go_ret2
    exact ⟨rfl, below_alloc _ _⟩
end Go.Proofs.YtjdnekkbmanmdaaDoor
