/-
  Integers in bytes: plain lemmas. le: the number of bytes, the first the lowest; lowB: the lowest bytes of a number; rev8: eight bytes turned.
-/
import Derived.Lib.Hide
namespace Go.Proofs.YtjdnekkbmanmdaaDoor
/-- The number of these bytes, the first the lowest. -/
def le : List UInt8 → Nat
  | [] => 0
  | b :: r => b.toNat + 256 * le r
/-- The k lowest bytes of a number, the lowest first. -/
def lowB : Nat → Nat → List UInt8
  | _, 0 => []
  | n, k + 1 => UInt8.ofNat n :: lowB (n / 256) k
/-- From the order of a row to the lowest first, and back. -/
def ord (little : Bool) (l : List UInt8) : List UInt8 := if little then l else l.reverse
theorem ord_length (b : Bool) (l : List UInt8) : (ord b l).length = l.length := by cases b <;> simp [ord]
theorem ord_ord (b : Bool) (l : List UInt8) : ord b (ord b l) = l := by cases b <;> simp [ord]
theorem low_length (n k : Nat) : (lowB n k).length = k := by induction k generalizing n with
  | zero => rfl
  | succ k ih => simp [lowB, ih]
theorem le_lt (l : List UInt8) : le l < 256 ^ l.length := by induction l with
  | nil => simp [le]
  | cons b r ih => have := b.toNat_lt; rw [le, List.length_cons, Nat.pow_succ]; omega
theorem le_append (a b : List UInt8) : le (a ++ b) = le a + 256 ^ a.length * le b := by induction a with
  | nil => simp [le]
  | cons c r ih => rw [List.cons_append, le, le, ih, List.length_cons, Nat.pow_succ, Nat.mul_add, Nat.mul_comm (256 ^ r.length) 256, Nat.mul_assoc, Nat.add_assoc]
theorem le_low (n k : Nat) : le (lowB n k) = n % 256 ^ k := by induction k generalizing n with
  | zero => simp [lowB, le, Nat.mod_one]
  | succ k ih =>
    rw [lowB, le, ih, Nat.pow_succ, Nat.mul_comm (256 ^ k) 256, Nat.mod_mul]
    simp
theorem low_le (l : List UInt8) : lowB (le l) l.length = l := by induction l with
  | nil => rfl
  | cons b r ih =>
    have hb := b.toNat_lt
    rw [List.length_cons, lowB, le, show (b.toNat + 256 * le r) / 256 = le r by omega, ih]
    congr 1
    apply UInt8.toNat_inj.1
    rw [UInt8.toNat_ofNat']; omega
theorem low_take (n k m : Nat) (h : m ≤ k) : (lowB n k).take m = lowB n m := by induction k generalizing n m with
  | zero => obtain rfl : m = 0 := by omega
            rfl
  | succ k ih =>
    cases m with
    | zero => rfl
    | succ m => rw [lowB, lowB, List.take_succ_cons, ih _ _ (by omega)]
theorem low_get (n k j : Nat) (h : j < k) : (lowB n k)[j]'(by rw [low_length]; exact h) = UInt8.ofNat (n / 256 ^ j) := by
  induction k generalizing n j with
  | zero => omega
  | succ k ih =>
    cases j with
    | zero => simp [lowB]
    | succ j =>
      simp only [lowB, List.getElem_cons_succ]
      rw [ih _ _ (by omega), Nat.pow_succ, Nat.mul_comm (256 ^ j) 256, Nat.div_div_eq_div_mul]
theorem lowB_succ (n k : Nat) : lowB n (k + 1) = lowB n k ++ [UInt8.ofNat (n / 256 ^ k)] := by
  induction k generalizing n with
  | zero => simp [lowB]
  | succ k ih =>
    rw [lowB, ih, lowB, List.cons_append, Nat.pow_succ, Nat.mul_comm (256 ^ k) 256, Nat.div_div_eq_div_mul]
theorem low_mod (n k : Nat) : lowB (n % 256 ^ k) k = lowB n k := by
  rw [← le_low]; conv => lhs; rw [← low_length n k]
  rw [low_length]; conv => lhs; rhs; rw [← low_length n k]
  exact low_le _
/-- What lies above the lowest bytes. -/
theorem le_drop (l : List UInt8) (k : Nat) : le (l.drop k) = le l / 256 ^ k := by
  induction k generalizing l with
  | zero => simp
  | succ k ih =>
    cases l with
    | nil => simp [le]
    | cons b r =>
      have hb := b.toNat_lt
      rw [List.drop_succ_cons, ih, le, Nat.pow_succ, Nat.mul_comm (256 ^ k) 256, ← Nat.div_div_eq_div_mul]
      congr 1; omega
/-- A number's eight bytes turned. -/
def rev8 (n : Nat) : Nat := le (lowB n 8).reverse
theorem rev8_shift (n m : Nat) (h : m ≤ 8) : rev8 n / 256 ^ (8 - m) = le (lowB n m).reverse := by
  unfold rev8
  rw [← le_drop, ← low_take n 8 m h]
  rw [List.drop_reverse, low_length, show 8 - (8 - m) = m by omega]
theorem rev8_lt (n : Nat) : rev8 n < 18446744073709551616 := by
  have := le_lt (lowB n 8).reverse
  rw [List.length_reverse, low_length] at this
  exact this
/-! ### Sums of eight digits -/
def N8 (a0 a1 a2 a3 a4 a5 a6 a7 : Nat) : Nat := a0 + 256 * (a1 + 256 * (a2 + 256 * (a3 + 256 * (a4 + 256 * (a5 + 256 * (a6 + 256 * a7))))))
theorem and_split (a b c d : Nat) (ha : a < 256) (hc : c < 256) : (a + 256 * b) &&& (c + 256 * d) = (a &&& c) + 256 * (b &&& d) := by
  have h1 := Nat.and_mod_two_pow (a := a + 256 * b) (b := c + 256 * d) (n := 8)
  have h2 := Nat.and_div_two_pow (a := a + 256 * b) (b := c + 256 * d) (n := 8)
  simp only [show (2 : Nat) ^ 8 = 256 from rfl] at h1 h2
  rw [show (a + 256 * b) % 256 = a by omega, show (c + 256 * d) % 256 = c by omega] at h1
  rw [show (a + 256 * b) / 256 = b by omega, show (c + 256 * d) / 256 = d by omega] at h2
  omega
theorem or_split (a b c d : Nat) (ha : a < 256) (hc : c < 256) : (a + 256 * b) ||| (c + 256 * d) = (a ||| c) + 256 * (b ||| d) := by
  have h1 := Nat.or_mod_two_pow (a := a + 256 * b) (b := c + 256 * d) (n := 8)
  have h2 := Nat.or_div_two_pow (a := a + 256 * b) (b := c + 256 * d) (n := 8)
  simp only [show (2 : Nat) ^ 8 = 256 from rfl] at h1 h2
  rw [show (a + 256 * b) % 256 = a by omega, show (c + 256 * d) % 256 = c by omega] at h1
  rw [show (a + 256 * b) / 256 = b by omega, show (c + 256 * d) / 256 = d by omega] at h2
  omega
theorem xor_split (a b c d : Nat) (ha : a < 256) (hc : c < 256) : (a + 256 * b) ^^^ (c + 256 * d) = (a ^^^ c) + 256 * (b ^^^ d) := by
  have h1 := Nat.xor_mod_two_pow (a := a + 256 * b) (b := c + 256 * d) (n := 8)
  have h2 := Nat.xor_div_two_pow (a := a + 256 * b) (b := c + 256 * d) (n := 8)
  simp only [show (2 : Nat) ^ 8 = 256 from rfl] at h1 h2
  rw [show (a + 256 * b) % 256 = a by omega, show (c + 256 * d) % 256 = c by omega] at h1
  rw [show (a + 256 * b) / 256 = b by omega, show (c + 256 * d) / 256 = d by omega] at h2
  omega
theorem xor255_fin : ∀ a : Fin 256, 255 ^^^ a.val = 255 - a.val := by decide +kernel
theorem xor16 (y : Nat) (h : y ≤ 65535) : 65535 ^^^ y = 65535 - y := by
  have e := xor_split 255 255 (y % 256) (y / 256) (by omega) (by omega)
  rw [show y % 256 + 256 * (y / 256) = y by omega] at e
  have a := xor255_fin ⟨y % 256, by omega⟩
  have b := xor255_fin ⟨y / 256, by omega⟩
  simp only at a b
  rw [a, b] at e
  rw [show (65535 : Nat) = 255 + 256 * 255 from rfl, e]; omega
theorem and255 (a : Nat) (h : a < 256) : a &&& 255 = a := by
  have := Nat.and_two_pow_sub_one_eq_mod a 8
  simp only [show (2 : Nat) ^ 8 - 1 = 255 from rfl, show (2 : Nat) ^ 8 = 256 from rfl] at this
  omega
theorem and_N8 (a0 a1 a2 a3 a4 a5 a6 a7 c0 c1 c2 c3 c4 c5 c6 c7 : Nat) (h0 : a0 < 256) (h1 : a1 < 256) (h2 : a2 < 256) (h3 : a3 < 256) (h4 : a4 < 256) (h5 : a5 < 256) (h6 : a6 < 256) (_ : a7 < 256)
    (k0 : c0 < 256) (k1 : c1 < 256) (k2 : c2 < 256) (k3 : c3 < 256) (k4 : c4 < 256) (k5 : c5 < 256) (k6 : c6 < 256) (_ : c7 < 256) :
    N8 a0 a1 a2 a3 a4 a5 a6 a7 &&& N8 c0 c1 c2 c3 c4 c5 c6 c7 = N8 (a0 &&& c0) (a1 &&& c1) (a2 &&& c2) (a3 &&& c3) (a4 &&& c4) (a5 &&& c5) (a6 &&& c6) (a7 &&& c7) := by
  unfold N8
  rw [and_split _ _ _ _ h0 k0, and_split _ _ _ _ h1 k1, and_split _ _ _ _ h2 k2, and_split _ _ _ _ h3 k3, and_split _ _ _ _ h4 k4, and_split _ _ _ _ h5 k5, and_split _ _ _ _ h6 k6]
theorem or_N8 (a0 a1 a2 a3 a4 a5 a6 a7 c0 c1 c2 c3 c4 c5 c6 c7 : Nat) (h0 : a0 < 256) (h1 : a1 < 256) (h2 : a2 < 256) (h3 : a3 < 256) (h4 : a4 < 256) (h5 : a5 < 256) (h6 : a6 < 256) (_ : a7 < 256)
    (k0 : c0 < 256) (k1 : c1 < 256) (k2 : c2 < 256) (k3 : c3 < 256) (k4 : c4 < 256) (k5 : c5 < 256) (k6 : c6 < 256) (_ : c7 < 256) :
    N8 a0 a1 a2 a3 a4 a5 a6 a7 ||| N8 c0 c1 c2 c3 c4 c5 c6 c7 = N8 (a0 ||| c0) (a1 ||| c1) (a2 ||| c2) (a3 ||| c3) (a4 ||| c4) (a5 ||| c5) (a6 ||| c6) (a7 ||| c7) := by
  unfold N8
  rw [or_split _ _ _ _ h0 k0, or_split _ _ _ _ h1 k1, or_split _ _ _ _ h2 k2, or_split _ _ _ _ h3 k3, or_split _ _ _ _ h4 k4, or_split _ _ _ _ h5 k5, or_split _ _ _ _ h6 k6]
theorem N8_low (n : Nat) (h : n < 18446744073709551616) : ∃ a0 a1 a2 a3 a4 a5 a6 a7 : Nat, a0 < 256 ∧ a1 < 256 ∧ a2 < 256 ∧ a3 < 256 ∧ a4 < 256 ∧ a5 < 256 ∧ a6 < 256 ∧ a7 < 256 ∧
    n = N8 a0 a1 a2 a3 a4 a5 a6 a7 ∧ rev8 n = N8 a7 a6 a5 a4 a3 a2 a1 a0 := by
  refine ⟨n % 256, n / 256 % 256, n / 256 / 256 % 256, n / 256 / 256 / 256 % 256, n / 256 / 256 / 256 / 256 % 256, n / 256 / 256 / 256 / 256 / 256 % 256, n / 256 / 256 / 256 / 256 / 256 / 256 % 256, n / 256 / 256 / 256 / 256 / 256 / 256 / 256 % 256,
    Nat.mod_lt _ (by omega), Nat.mod_lt _ (by omega), Nat.mod_lt _ (by omega), Nat.mod_lt _ (by omega), Nat.mod_lt _ (by omega), Nat.mod_lt _ (by omega), Nat.mod_lt _ (by omega), Nat.mod_lt _ (by omega), ?_, ?_⟩
  · unfold N8; omega
  · simp [rev8, lowB, le, N8]
/-- The first turn: bytes in pairs. -/
def turn1 (n : Nat) : Nat := ((n / 256) &&& 71777214294589695) ||| ((n &&& 71777214294589695) * 256)
def turn2 (n : Nat) : Nat := ((n / 65536) &&& 281470681808895) ||| ((n &&& 281470681808895) * 65536)
def turn3 (n : Nat) : Nat := (n / 4294967296) ||| (n * 4294967296 % 18446744073709551616)
theorem turn1_eq (a0 a1 a2 a3 a4 a5 a6 a7 : Nat) (h0 : a0 < 256) (h1 : a1 < 256) (h2 : a2 < 256) (h3 : a3 < 256) (h4 : a4 < 256) (h5 : a5 < 256) (h6 : a6 < 256) (h7 : a7 < 256) :
    turn1 (N8 a0 a1 a2 a3 a4 a5 a6 a7) = N8 a1 a0 a3 a2 a5 a4 a7 a6 := by
  have m : (71777214294589695 : Nat) = N8 255 0 255 0 255 0 255 0 := by decide
  unfold turn1
  rw [m, show N8 a0 a1 a2 a3 a4 a5 a6 a7 / 256 = N8 a1 a2 a3 a4 a5 a6 a7 0 by unfold N8; omega]
  rw [and_N8 _ _ _ _ _ _ _ _ _ _ _ _ _ _ _ _ h1 h2 h3 h4 h5 h6 h7 (by omega) (by omega) (by omega) (by omega) (by omega) (by omega) (by omega) (by omega) (by omega)]
  rw [and_N8 _ _ _ _ _ _ _ _ _ _ _ _ _ _ _ _ h0 h1 h2 h3 h4 h5 h6 h7 (by omega) (by omega) (by omega) (by omega) (by omega) (by omega) (by omega) (by omega)]
  simp only [and255 _ h0, and255 _ h1, and255 _ h2, and255 _ h3, and255 _ h4, and255 _ h5, and255 _ h6, and255 _ h7, Nat.and_zero]
  rw [show N8 a0 0 a2 0 a4 0 a6 0 * 256 = N8 0 a0 0 a2 0 a4 0 a6 by unfold N8; omega]
  rw [or_N8 _ _ _ _ _ _ _ _ _ _ _ _ _ _ _ _ h1 (by omega) h3 (by omega) h5 (by omega) h7 (by omega) (by omega) h0 (by omega) h2 (by omega) h4 (by omega) h6]
  simp only [Nat.or_zero, Nat.zero_or]
theorem turn2_eq (a0 a1 a2 a3 a4 a5 a6 a7 : Nat) (h0 : a0 < 256) (h1 : a1 < 256) (h2 : a2 < 256) (h3 : a3 < 256) (h4 : a4 < 256) (h5 : a5 < 256) (h6 : a6 < 256) (h7 : a7 < 256) :
    turn2 (N8 a0 a1 a2 a3 a4 a5 a6 a7) = N8 a2 a3 a0 a1 a6 a7 a4 a5 := by
  have m : (281470681808895 : Nat) = N8 255 255 0 0 255 255 0 0 := by decide
  unfold turn2
  rw [m, show N8 a0 a1 a2 a3 a4 a5 a6 a7 / 65536 = N8 a2 a3 a4 a5 a6 a7 0 0 by unfold N8; omega]
  rw [and_N8 _ _ _ _ _ _ _ _ _ _ _ _ _ _ _ _ h2 h3 h4 h5 h6 h7 (by omega) (by omega) (by omega) (by omega) (by omega) (by omega) (by omega) (by omega) (by omega) (by omega)]
  rw [and_N8 _ _ _ _ _ _ _ _ _ _ _ _ _ _ _ _ h0 h1 h2 h3 h4 h5 h6 h7 (by omega) (by omega) (by omega) (by omega) (by omega) (by omega) (by omega) (by omega)]
  simp only [and255 _ h0, and255 _ h1, and255 _ h2, and255 _ h3, and255 _ h4, and255 _ h5, and255 _ h6, and255 _ h7, Nat.and_zero]
  rw [show N8 a0 a1 0 0 a4 a5 0 0 * 65536 = N8 0 0 a0 a1 0 0 a4 a5 by unfold N8; omega]
  rw [or_N8 _ _ _ _ _ _ _ _ _ _ _ _ _ _ _ _ h2 h3 (by omega) (by omega) h6 h7 (by omega) (by omega) (by omega) (by omega) h0 h1 (by omega) (by omega) h4 h5]
  simp only [Nat.or_zero, Nat.zero_or]
theorem turn3_eq (a0 a1 a2 a3 a4 a5 a6 a7 : Nat) (h0 : a0 < 256) (h1 : a1 < 256) (h2 : a2 < 256) (h3 : a3 < 256) (h4 : a4 < 256) (h5 : a5 < 256) (h6 : a6 < 256) (h7 : a7 < 256) :
    turn3 (N8 a0 a1 a2 a3 a4 a5 a6 a7) = N8 a4 a5 a6 a7 a0 a1 a2 a3 := by
  unfold turn3
  rw [show N8 a0 a1 a2 a3 a4 a5 a6 a7 / 4294967296 = N8 a4 a5 a6 a7 0 0 0 0 by unfold N8; omega]
  rw [show N8 a0 a1 a2 a3 a4 a5 a6 a7 * 4294967296 % 18446744073709551616 = N8 0 0 0 0 a0 a1 a2 a3 by unfold N8; omega]
  rw [or_N8 _ _ _ _ _ _ _ _ _ _ _ _ _ _ _ _ h4 h5 h6 h7 (by omega) (by omega) (by omega) (by omega) (by omega) (by omega) (by omega) (by omega) h0 h1 h2 h3]
  simp only [Nat.or_zero, Nat.zero_or]
theorem turns_rev8 (n : Nat) (h : n < 18446744073709551616) : turn3 (turn2 (turn1 n)) = rev8 n := by
  obtain ⟨a0, a1, a2, a3, a4, a5, a6, a7, h0, h1, h2, h3, h4, h5, h6, h7, e, r⟩ := N8_low n h
  rw [r, e, turn1_eq _ _ _ _ _ _ _ _ h0 h1 h2 h3 h4 h5 h6 h7, turn2_eq _ _ _ _ _ _ _ _ h1 h0 h3 h2 h5 h4 h7 h6, turn3_eq _ _ _ _ _ _ _ _ h3 h2 h1 h0 h7 h6 h5 h4]
theorem N8_lt (a0 a1 a2 a3 a4 a5 a6 a7 : Nat) (h0 : a0 < 256) (h1 : a1 < 256) (h2 : a2 < 256) (h3 : a3 < 256) (h4 : a4 < 256) (h5 : a5 < 256) (h6 : a6 < 256) (h7 : a7 < 256) : N8 a0 a1 a2 a3 a4 a5 a6 a7 < 18446744073709551616 := by unfold N8; omega
theorem turn1_lt (n : Nat) (h : n < 18446744073709551616) : turn1 n < 18446744073709551616 := by
  obtain ⟨a0, a1, a2, a3, a4, a5, a6, a7, h0, h1, h2, h3, h4, h5, h6, h7, e, r⟩ := N8_low n h
  rw [e, turn1_eq _ _ _ _ _ _ _ _ h0 h1 h2 h3 h4 h5 h6 h7]; exact N8_lt _ _ _ _ _ _ _ _ h1 h0 h3 h2 h5 h4 h7 h6
theorem turn2_lt (n : Nat) (h : n < 18446744073709551616) : turn2 n < 18446744073709551616 := by
  obtain ⟨a0, a1, a2, a3, a4, a5, a6, a7, h0, h1, h2, h3, h4, h5, h6, h7, e, r⟩ := N8_low n h
  rw [e, turn2_eq _ _ _ _ _ _ _ _ h0 h1 h2 h3 h4 h5 h6 h7]; exact N8_lt _ _ _ _ _ _ _ _ h2 h3 h0 h1 h6 h7 h4 h5
/-! ### What Get answers -/
def gok (n : Nat) (at_ many : Int) : Bool := decide (0 ≤ many ∧ many ≤ 8 ∧ 0 ≤ at_ ∧ at_ + many ≤ n)
def gv (l : List UInt8) (b : Bool) (at_ many : Int) : Nat := if gok l.length at_ many then le (ord b ((l.drop at_.toNat).take many.toNat)) else 0
theorem gv_lt (l : List UInt8) (b : Bool) (at_ many : Int) : gv l b at_ many < 256 ^ many.toNat := by
  unfold gv; split
  · rename_i h
    have h := of_decide_eq_true h
    have := le_lt (ord b ((l.drop at_.toNat).take many.toNat))
    rwa [ord_length, List.length_take, List.length_drop, Nat.min_eq_left (by omega)] at this
  · exact Nat.pow_pos (by omega)
theorem le_rev_snoc (l : List UInt8) (c : UInt8) : le (l ++ [c]).reverse = 256 * le l.reverse + c.toNat := by
  rw [List.reverse_append]; simp [le]; omega
theorem or_shiftB (x c : Nat) (hc : c < 256) : x * 256 ||| c = 256 * x + c := by
  have := or_split 0 x c 0 (by omega) hc
  simp only [Nat.zero_or, Nat.or_zero, Nat.zero_add, Nat.mul_zero, Nat.add_zero] at this
  rw [Nat.mul_comm, this]; omega
theorem turn_get (b : Bool) (l : List UInt8) : (if b then le (lowB (le l.reverse) l.length).reverse else le l.reverse) = le (ord b l) := by
  cases b
  · simp [ord]
  · simp only [if_true, ord]
    have := low_le l.reverse
    rw [List.length_reverse] at this
    rw [this, List.reverse_reverse]
theorem low_turn (b : Bool) (n many : Nat) : (lowB (if b then le (lowB n many).reverse else n) many).reverse = ord b (lowB n many) := by
  cases b
  · rfl
  · simp only [if_true, ord]
    have := low_le (lowB n many).reverse
    rw [List.length_reverse, low_length] at this
    rw [this, List.reverse_reverse]
/-! ### The checksum's sum -/
/-- The sum of the pairs of bytes; true: the next one is the first of a pair. -/
def ws : Bool → List UInt8 → Nat
  | _, [] => 0
  | h, b :: r => (if h then 256 * b.toNat else b.toNat) + ws (!h) r
/-- Which of a pair comes behind so many. -/
def par (h : Bool) (l : List UInt8) : Bool := if l.length % 2 = 0 then h else !h
theorem par_cons (h : Bool) (b : UInt8) (r : List UInt8) : par h (b :: r) = par (!h) r := by
  unfold par; rw [List.length_cons]
  rcases Nat.mod_two_eq_zero_or_one r.length with e | e
  · rw [if_neg (by omega), if_pos e]
  · rw [if_pos (by omega), if_neg (by omega)]; simp
theorem ws_append (h : Bool) (a b : List UInt8) : ws h (a ++ b) = ws h a + ws (par h a) b := by
  induction a generalizing h with
  | nil => simp [ws, par]
  | cons c r ih => rw [List.cons_append, ws, ws, ih, par_cons]; omega
theorem par_append (h : Bool) (a b : List UInt8) : par h (a ++ b) = par (par h a) b := by
  induction a generalizing h with
  | nil => simp [par]
  | cons c r ih => rw [List.cons_append, par_cons, ih, par_cons]
theorem ws_le (h : Bool) (l : List UInt8) : ws h l ≤ 65280 * l.length := by
  induction l generalizing h with
  | nil => simp [ws]
  | cons c r ih => have := ih (!h); have := c.toNat_lt; rw [ws, List.length_cons]; split <;> omega
/-- Whatever exceeds 16 bits is added again. -/
def fold16 (s : Nat) : Nat := if s = 0 then 0 else (s - 1) % 65535 + 1
theorem fold16_le (s : Nat) : fold16 s ≤ 65535 := by unfold fold16; split <;> omega
theorem fold16_small (s : Nat) (h : s ≤ 65535) : fold16 s = s := by unfold fold16; split <;> omega
theorem fold16_step (s : Nat) : fold16 (s / 65536 + s % 65536) = fold16 s := by
  unfold fold16; split <;> split <;> omega
theorem fold16_mod (s : Nat) : fold16 s = if 0 < s ∧ s % 65535 = 0 then 65535 else s % 65535 := by
  unfold fold16; split <;> split <;> omega
/-- The Internet checksum. -/
def csum (l : List UInt8) : Nat := 65535 - fold16 (ws true l)
theorem csum_le (l : List UInt8) : csum l ≤ 65535 := by unfold csum; omega
theorem csum_whole (l : List UInt8) (h : l.length % 2 = 0) (a b : UInt8) (ha : a.toNat = csum l / 256) (hb : b.toNat = csum l % 256) : csum (l ++ [a, b]) = 0 := by
  have e : ws true (l ++ [a, b]) = ws true l + csum l := by
    rw [ws_append, show par true l = true by unfold par; rw [if_pos h]]
    simp only [ws, if_true, Bool.not_true, Bool.false_eq_true, if_false, ha, hb]; omega
  have h1 := csum_le l
  unfold csum at *
  rw [e]
  have f := fold16_le (ws true l)
  unfold fold16 at *
  split at f <;> split <;> simp_all <;> omega
theorem csum_swap (l : List UInt8) (k : Nat) (h : k % 2 = 0) (hl : l.length % 2 = 0) (hk : k ≤ l.length) : csum (l.drop k ++ l.take k) = csum l := by
  unfold csum
  congr 2
  have a : par true (l.take k) = true := by unfold par; rw [List.length_take, if_pos (by omega)]
  have b : par true (l.drop k) = true := by unfold par; rw [List.length_drop, if_pos (by omega)]
  rw [ws_append, b]
  conv => rhs; rw [← List.take_append_drop k l, ws_append, a]
  omega
theorem ws_snoc (h : Bool) (l : List UInt8) (c : UInt8) : ws h (l ++ [c]) = ws h l + (if par h l then 256 * c.toNat else c.toNat) := by rw [ws_append]; simp [ws]
theorem par_snoc (h : Bool) (l : List UInt8) (c : UInt8) : par h (l ++ [c]) = !par h l := by rw [par_append]; simp [par]
theorem and_low16 (s : Nat) : s &&& 65535 = s % 65536 := Nat.and_two_pow_sub_one_eq_mod s 16
def padV (n : Int) : Int := if n < 0 then 0 else (4 - n % 4) % 4
theorem le_take_succ (l : List UInt8) (i : Nat) (h : i < l.length) : le (l.take (i + 1)) = le (l.take i) + 256 ^ i * (l[i]).toNat := by
  rw [List.take_succ_eq_append_getElem h, le_append, List.length_take, Nat.min_eq_left (by omega)]; simp [le]
theorem gv_put (l : List UInt8) (b : Bool) (n m : Nat) (h : m ≤ 8) : gv (l ++ ord b (lowB n m)) b l.length m = n % 256 ^ m := by
  unfold gv gok
  rw [if_pos (by simp [ord_length, low_length]; omega)]
  simp only [Int.toNat_natCast, List.drop_left]
  rw [List.take_of_length_le (by rw [ord_length, low_length]; exact Nat.le_refl _), ord_ord, le_low]
theorem gok_put (l : List UInt8) (b : Bool) (n m : Nat) (h : m ≤ 8) : gok (l ++ ord b (lowB n m)).length l.length m = true := by
  unfold gok; simp [ord_length, low_length]; omega
theorem gv_turned (b : Bool) (n m : Nat) (h : m ≤ 8) : gv (ord b (lowB n m)).reverse (!b) 0 m = n % 256 ^ m := by
  unfold gv gok
  rw [if_pos (by simp [ord_length, low_length]; omega)]
  simp only [Int.toNat_natCast, Int.toNat_zero, List.drop_zero]
  rw [List.take_of_length_le (by rw [List.length_reverse, ord_length, low_length]; exact Nat.le_refl _), ← le_low]
  cases b <;> simp [ord]
theorem gok_turned (b : Bool) (n m : Nat) (h : m ≤ 8) : gok (ord b (lowB n m)).reverse.length 0 m = true := by
  unfold gok; simp [ord_length, low_length]; omega
theorem piece_put (l q : List UInt8) : ((l ++ q).drop l.length).take q.length = q := by simp
theorem padV_bd (n : Int) : 0 ≤ padV n ∧ padV n ≤ 3 := by unfold padV; split <;> omega
/-- A number in the middle of bytes. -/
theorem gv_mid (pre post : List UInt8) (b : Bool) (n m : Nat) (h : m ≤ 8) (at_ : Int) (ha : at_ = pre.length) (many : Int) (hm : many = m) : gv (pre ++ ord b (lowB n m) ++ post) b at_ many = n % 256 ^ m := by
  subst ha hm
  unfold gv gok
  rw [if_pos (by simp [ord_length, low_length]; omega)]
  simp only [Int.toNat_natCast, List.append_assoc, List.drop_left]
  rw [List.take_append_of_le_length (by rw [ord_length, low_length]; exact Nat.le_refl _), List.take_of_length_le (by rw [ord_length, low_length]; exact Nat.le_refl _), ord_ord, le_low]
end Go.Proofs.YtjdnekkbmanmdaaDoor
