/-
  math/bits.Len64 and LeadingZeros64, by the length of a number in bits.
  math/bits.Div64: the quotient of two words by one, and what is left.
-/
import Derived.Test.YthmkfkmcamjnoaaDoorMul
import Derived.Lib.Walk
import Derived.Lib.Small
import Derived.Lib.BitFns
import Derived.Lib.ItoaNum
import Derived.Test.YthmkfkmcamjnoaaDoorKnuth
import Derived.LoopTactic
import Derived.Deep.CutRange
import Derived.Deep.CutBlock
namespace Go.Proofs.YthmkfkmcamjnoaaDoor
open Go.RowKit
def blen (x : Int) : Int := (Lib.bitLen x.toNat : Int)
theorem ret_i64' {k : IntKind} {a b : Int} (h : a = b) : Ending.returned (.int k a) = .returned (.int k b) := by rw [h]
theorem blen_bd {x : Int} (h : Word x) : 0 ≤ blen x ∧ blen x ≤ 64 := by
  have := Lib.bitLen_le x.toNat 64 (by omega) (by unfold Word at h; omega)
  unfold blen; omega
theorem blen_small (x : Int) (h0 : 0 ≤ x) (h1 : x < 256) : Lib.len8 x = blen x ∧ 0 ≤ blen x ∧ blen x ≤ 8 := by
  have := Lib.len8_of x h0 (by omega)
  have := Lib.bitLen_le8' x h0 (by omega)
  unfold blen; omega
theorem blen_step (x : Int) (k p : Nat) (hp : (2 : Nat) ^ k = p) (h : (p : Int) ≤ x) (hx : Word x) : blen x = k + blen (x / p) := by
  have h1 := Lib.bitLen_shift k x.toNat (by rw [hp]; omega) (by unfold Word at hx; omega)
  unfold blen
  rw [h1, hp]
  have : (x / (p : Int)).toNat = x.toNat / p := by
    obtain ⟨X, rfl⟩ := Int.eq_ofNat_of_zero_le hx.1
    rw [← Int.natCast_ediv]; rfl
  rw [this]
  omega
theorem tab_val {q : Int} {pf : q.toNat < Lib.len8tab.size} (h0 : 0 ≤ q) (h1 : q < 256) : ((Lib.len8tab[q.toNat]'pf).toNat : Int) = blen q := by
  rw [← (blen_small q h0 h1).1]
  unfold Lib.len8
  rw [ByteArray.getElem?_lt' _ _ pf, Option.getD_some]
theorem tab_close {q c r : Int} {pf : q.toNat < Lib.len8tab.size} (h0 : 0 ≤ q) (h1 : q < 256) (hc : 0 ≤ c ∧ c ≤ 56) (h : r = c + blen q) : wrap64 (c + wrap64 ((Lib.len8tab[q.toNat]'pf).toNat : Int)) = r := by
  rw [tab_val h0 h1, h]
  have := (blen_small q h0 h1).2
  unfold wrap64; omega
theorem tab_close0 {q r : Int} {pf : q.toNat < Lib.len8tab.size} (h0 : 0 ≤ q) (h1 : q < 256) (h : r = blen q) : wrap64 (wrap64 ((Lib.len8tab[q.toNat]'pf).toNat : Int)) = r := by
  rw [tab_val h0 h1, h]
  have := (blen_small q h0 h1).2
  unfold wrap64; omega
theorem st32 {x : Int} (hx : Word x) (h : 4294967296 ≤ x) : blen x = 32 + blen (x / 4294967296) := blen_step x 32 4294967296 (by decide) h hx
theorem st16 {x : Int} (hx : Word x) (h : 65536 ≤ x) : blen x = 16 + blen (x / 65536) := blen_step x 16 65536 (by decide) h hx
theorem st8 {x : Int} (hx : Word x) (h : 256 ≤ x) : blen x = 8 + blen (x / 256) := blen_step x 8 256 (by decide) h hx
set_option maxHeartbeats 4000000 in
set_option maxRecDepth 100000 in
theorem len64_any (x : Int) (hx : Word x) (w : World) :
    Calls Tryd.prog 77 #[.int .u64 x] w fun e w' => e = .returned (.int .i64 (blen x)) ∧ w' = w := by
  have Hx := Lib.hid hx
  obtain ⟨h0, h1⟩ := hx
  have hs := Lib.len8tab_size
  go_enter Tryd.func77, Tryd.ntmps77
  go_wp2
  all_goals (go_ret; refine ⟨?_, rfl⟩)
  all_goals first
    | exact ret_i64' (tab_close (by omega) (by omega) (by decide) (by rw [st32 Hx.out (by omega), st16 ⟨by omega, by omega⟩ (by omega), st8 ⟨by omega, by omega⟩ (by omega)]; omega))
    | exact ret_i64' (tab_close (by omega) (by omega) (by decide) (by rw [st32 Hx.out (by omega), st16 ⟨by omega, by omega⟩ (by omega)]; omega))
    | exact ret_i64' (tab_close (by omega) (by omega) (by decide) (by rw [st32 Hx.out (by omega), st8 ⟨by omega, by omega⟩ (by omega)]; omega))
    | exact ret_i64' (tab_close (by omega) (by omega) (by decide) (by rw [st32 Hx.out (by omega)]))
    | exact ret_i64' (tab_close (by omega) (by omega) (by decide) (by rw [st16 Hx.out (by omega), st8 ⟨by omega, by omega⟩ (by omega)]; omega))
    | exact ret_i64' (tab_close (by omega) (by omega) (by decide) (by rw [st16 Hx.out (by omega)]))
    | exact ret_i64' (tab_close (by omega) (by omega) (by decide) (by rw [st8 Hx.out (by omega)]))
    | exact ret_i64' (tab_close0 (by omega) (by omega) rfl)
/-- A number that is not 0, moved up by what is free, has its highest bit set. -/
theorem top_bit {x : Int} (h0 : 0 < x) (hx : Word x) : 9223372036854775808 ≤ x * 2 ^ (64 - blen x).toNat ∧ x * 2 ^ (64 - blen x).toNat ≤ 18446744073709551615 ∧ 1 ≤ blen x := by
  obtain ⟨X, rfl⟩ := Int.eq_ofNat_of_zero_le hx.1
  have hb := Lib.bitLen_le X 64 (by omega) (by have := hx.2; omega)
  obtain ⟨a, b, c⟩ := Lib.bitLenAux_bounds 64 X (by have := hx.2; omega) (by omega)
  have e : blen (X : Int) = (Lib.bitLen X : Int) := rfl
  have e2 : Lib.bitLen X = Lib.bitLenAux 64 X := rfl
  rw [e]
  rw [← e2] at a b c
  generalize Lib.bitLen X = n at *
  have hs : (64 - (n : Int)).toNat = 64 - n := by omega
  rw [hs]
  obtain ⟨k, rfl⟩ : ∃ k, n = k + 1 := ⟨n - 1, by omega⟩
  have p1 : (2 : Nat) ^ k * 2 ^ (64 - (k + 1)) = 9223372036854775808 := by rw [← Nat.pow_add]; rw [show k + (64 - (k + 1)) = 63 by omega]
  have p2 : (2 : Nat) ^ (k + 1) * 2 ^ (64 - (k + 1)) = 18446744073709551616 := by rw [← Nat.pow_add]; rw [show k + 1 + (64 - (k + 1)) = 64 by omega]
  have q1 : 2 ^ k * 2 ^ (64 - (k + 1)) ≤ X * 2 ^ (64 - (k + 1)) := Nat.mul_le_mul_right _ (by simpa using b)
  have q2 : X * 2 ^ (64 - (k + 1)) < 2 ^ (k + 1) * 2 ^ (64 - (k + 1)) := Nat.mul_lt_mul_of_pos_right c (Nat.two_pow_pos _)
  rw [p1] at q1
  rw [p2] at q2
  have e3 : (X : Int) * 2 ^ (64 - (k + 1)) = ((X * 2 ^ (64 - (k + 1)) : Nat) : Int) := by rw [Int.natCast_mul, Int.natCast_pow]; rfl
  rw [e3]
  omega
set_option maxHeartbeats 400000 in
theorem lead64_any (x : Int) (hx : Word x) (w : World) :
    Calls Tryd.prog 76 #[.int .u64 x] w fun e w' => e = .returned (.int .i64 (64 - blen x)) ∧ w' = w := by
  have Hx := Lib.hid hx
  have hb := blen_bd hx
  obtain ⟨b0, b1⟩ := hb
  clear hx
  go_enter Tryd.func76, Tryd.ntmps76
  go_wp2_with (go_at_call 77; refine (len64_any x Hx.out _).mono ?_; rintro e w' ⟨rfl, rfl⟩)
  go_ret
  exact ⟨rfl, rfl⟩
end Go.Proofs.YthmkfkmcamjnoaaDoor
namespace Go.Proofs.YthmkfkmcamjnoaaDoor
open Go.RowKit
set_option maxHeartbeats 1000000 in
theorem div64_lo (lo y : Int) (hl : Word lo) (hy : Word y) (h : 0 < y) (w : World) :
    Calls Tryd.prog 73 #[.int .u64 0, .int .u64 lo, .int .u64 y] w fun e w' => e = .returned (.tuple #[.int .u64 (lo / y), .int .u64 (lo % y)]) ∧ ∃ m, w' = w.drewN m := by
  obtain ⟨l0, l1⟩ := hl
  obtain ⟨y0, y1⟩ := hy
  go_enter Tryd.func73, Tryd.ntmps73
  go_wp2
  go_quiet (fail)
  go_wp2
  go_ret2
  exact ⟨rfl, _, rfl⟩
set_option maxHeartbeats 2000000 in
theorem div64_core (hi lo y Y A B U V C D Q1 Z Q0 R : Int) (hh : 0 < hi) (hl : Word lo) (hy : Word y) (h : hi < y) (w : World)
   (e1 : IntKind.u64.wrap (y * 2 ^ (64 - blen y).toNat) = Y) (e2 : bits .and .u64 Y 4294967295 = B) (e3 : Y / 4294967296 = A)
   (e4 : bits .or .u64 (IntKind.u64.wrap (hi * 2 ^ (64 - blen y).toNat)) (lo / 2 ^ (64 - (64 - blen y)).toNat) = U)
   (e5 : IntKind.u64.wrap (lo * 2 ^ (64 - blen y).toNat) = V) (e6 : V / 4294967296 = C) (e7 : bits .and .u64 V 4294967295 = D)
   (k1 : Hid (KB A B U C)) (k2 : Hid (KB A B Z D)) (q1 : Hid (kq A B U C = Q1)) (q2 : Hid (kq A B Z D = Q0))
   (f1 : IntKind.u64.wrap (IntKind.u64.wrap (IntKind.u64.wrap (U * 4294967296) + C) - IntKind.u64.wrap (Q1 * Y)) = Z)
   (f2 : IntKind.u64.wrap (IntKind.u64.wrap (IntKind.u64.wrap (Z * 4294967296) + D) - IntKind.u64.wrap (Q0 * Y)) = R)
   (hA : 2147483648 ≤ A) (hA2 : A ≤ 4294967295) (hU : 0 ≤ U) (hU2 : U ≤ 18446744073709551615) (hZ : 0 ≤ Z) (hZ2 : Z ≤ 18446744073709551615)
   (hC : 0 ≤ C) (hC2 : C ≤ 4294967295) (hD : 0 ≤ D) (hD2 : D ≤ 4294967295) (hQ : 0 ≤ Q1) (hQ2 : Q1 ≤ 4294967295) (hQ3 : 0 ≤ Q0) (hQ4 : Q0 ≤ 4294967295)
   (t1 : 0 ≤ U / A * A) (t2 : U / A * A ≤ U) (t3 : 0 ≤ Z / A * A) (t4 : Z / A * A ≤ Z) :
    Calls Tryd.prog 73 #[.int .u64 hi, .int .u64 lo, .int .u64 y] w fun e w' => e = .returned (.tuple #[.int .u64 (Q1 * 4294967296 + Q0), .int .u64 (R / 2 ^ (64 - blen y).toNat)]) ∧ w' = w := by
  obtain ⟨l0, l1⟩ := hl
  have Hy := Lib.hid hy
  obtain ⟨y0, y1⟩ := hy
  obtain ⟨b0, b1⟩ := blen_bd Hy.out
  have b2 := (top_bit (x := y) (by omega) Hy.out).2.2
  go_enter Tryd.func73, Tryd.ntmps73
  go_upto_block 0 with (go_at_call 76; refine (lead64_any y Hy.out _).mono ?_; rintro e w' ⟨rfl, rfl⟩)
  go_cut [15, 16] from 67 to 85 (fun q r wr => q = .int .u64 Q1 ∧ (∃ r', r = .int .u64 r') ∧ wr = w')
  case first =>
    go_wp2
    go_loop [15, 16] (fun q r => ∃ q' r', q = .int .u64 q' ∧ r = .int .u64 r' ∧ Hid (KInv A B U C q' r')) (fun q _ => (intOf q).toNat)
    case atStart => exact ⟨_, _, rfl, rfl, Lib.hid (k_start k1.out)⟩
    case round =>
      obtain ⟨q, r, rfl, rfl, hi⟩ := hrel
      have p0 := (k_prod_bd k1.out hi.out).1
      have p1 := (k_prod_bd k1.out hi.out).2
      obtain ⟨_, _, i3, i4, i5, i6⟩ := hi.out
      by_cases c1 : 4294967296 ≤ q
      · have Lt := Lib.hid (k_big (q := q) k1.out c1)
        by_cases c2 : 4294967296 ≤ r + A
        · go_wp2
          go_meet
          exact ⟨by rw [k_break k1.out hi.out Lt.out c2, q1.out], ⟨_, rfl⟩, rfl⟩
        · go_wp2
          go_round
          case rel => exact ⟨_, _, rfl, rfl, Lib.hid (k_next k1.out hi.out Lt.out (by omega))⟩
          case measure => simp [intOf]; omega
      · by_cases c3 : 4294967296 * r + C < q * B
        · have Lt := Lib.hid (k_more k1.out hi.out c3)
          have lt0 : 1 ≤ q := by have := Lt.out; have := (kq_bd k1.out).1; omega
          by_cases c2 : 4294967296 ≤ r + A
          · go_wp2
            go_meet
            exact ⟨by rw [k_break k1.out hi.out Lt.out c2, q1.out], ⟨_, rfl⟩, rfl⟩
          · go_wp2
            go_round
            case rel => exact ⟨_, _, rfl, rfl, Lib.hid (k_next k1.out hi.out Lt.out (by omega))⟩
            case measure => simp [intOf]; omega
        · go_wp2
          go_meet
          exact ⟨by rw [k_done k1.out hi.out (by omega), q1.out], ⟨_, rfl⟩, rfl⟩
  case rest =>
  obtain ⟨rfl, ⟨r1, rfl⟩, rfl⟩ := hcut
  go_upto_block 2 with fail
  go_cut [18, 16] from 102 to 120 (fun q r wr => q = .int .u64 Q0 ∧ (∃ r', r = .int .u64 r') ∧ wr = wc)
  case first =>
    go_wp2
    go_loop [18, 16] (fun q r => ∃ q' r', q = .int .u64 q' ∧ r = .int .u64 r' ∧ Hid (KInv A B Z D q' r')) (fun q _ => (intOf q).toNat)
    case atStart => exact ⟨_, _, rfl, rfl, Lib.hid (k_start k2.out)⟩
    case round =>
      obtain ⟨q, r, rfl, rfl, hi⟩ := hrel
      have p0 := (k_prod_bd k2.out hi.out).1
      have p1 := (k_prod_bd k2.out hi.out).2
      obtain ⟨_, _, i3, i4, i5, i6⟩ := hi.out
      by_cases c1 : 4294967296 ≤ q
      · have Lt := Lib.hid (k_big (q := q) k2.out c1)
        by_cases c2 : 4294967296 ≤ r + A
        · go_wp2
          go_meet
          exact ⟨by rw [k_break k2.out hi.out Lt.out c2, q2.out], ⟨_, rfl⟩, rfl⟩
        · go_wp2
          go_round
          case rel => exact ⟨_, _, rfl, rfl, Lib.hid (k_next k2.out hi.out Lt.out (by omega))⟩
          case measure => simp [intOf]; omega
      · by_cases c3 : 4294967296 * r + D < q * B
        · have Lt := Lib.hid (k_more k2.out hi.out c3)
          have lt0 : 1 ≤ q := by have := Lt.out; have := (kq_bd k2.out).1; omega
          by_cases c2 : 4294967296 ≤ r + A
          · go_wp2
            go_meet
            exact ⟨by rw [k_break k2.out hi.out Lt.out c2, q2.out], ⟨_, rfl⟩, rfl⟩
          · go_wp2
            go_round
            case rel => exact ⟨_, _, rfl, rfl, Lib.hid (k_next k2.out hi.out Lt.out (by omega))⟩
            case measure => simp [intOf]; omega
        · go_wp2
          go_meet
          exact ⟨by rw [k_done k2.out hi.out (by omega), q2.out], ⟨_, rfl⟩, rfl⟩
  case rest =>
  obtain ⟨rfl, ⟨r2, rfl⟩, rfl⟩ := hcut
  go_wp2
  go_ret2
  exact ⟨rfl, rfl⟩
theorem or_shift (a b s : Nat) (hb : b < 2 ^ s) : (a * 2 ^ s) ||| b = a * 2 ^ s + b := by
  have h := Nat.shiftLeft_add_eq_or_of_lt (b := b) (i := s) hb a
  rw [Nat.shiftLeft_eq] at h
  exact h.symm
theorem or_words {a b : Int} {s : Nat} (ha : 0 ≤ a) (hb : 0 ≤ b) (hb2 : b < 2 ^ s) (h : a * 2 ^ s + b ≤ 18446744073709551615) : bits .or .u64 (a * 2 ^ s) b = a * 2 ^ s + b := by
  obtain ⟨X, rfl⟩ := Int.eq_ofNat_of_zero_le ha
  obtain ⟨Y, rfl⟩ := Int.eq_ofNat_of_zero_le hb
  have e : (X : Int) * 2 ^ s = ((X * 2 ^ s : Nat) : Int) := by rw [Int.natCast_mul, Int.natCast_pow]; rfl
  have hY : Y < 2 ^ s := by
    have e2 : ((2 : Int)) ^ s = ((2 ^ s : Nat) : Int) := by rw [Int.natCast_pow]; rfl
    rw [e2] at hb2; omega
  rw [e] at h ⊢
  have h1 := bits_or_u64_nat (X * 2 ^ s) Y (by omega) (by omega)
  rw [or_shift X Y s hY] at h1
  rw [h1]; omega
theorem wrap_dif (X P : Int) (h0 : 0 ≤ X - P) (h1 : X - P ≤ 18446744073709551615) (c x : Int) (hx : x + c = X) : IntKind.u64.wrap (IntKind.u64.wrap (IntKind.u64.wrap x + c) - IntKind.u64.wrap P) = X - P := by
  rw [IntKind.wrap_u64, IntKind.wrap_u64, IntKind.wrap_u64, IntKind.wrap_u64]; omega
theorem div64_any (hi lo y : Int) (hh : Word hi) (hl : Word lo) (hy : Word y) (h : hi < y) (w : World) :
    Calls Tryd.prog 73 #[.int .u64 hi, .int .u64 lo, .int .u64 y] w fun e w' =>
      e = .returned (.tuple #[.int .u64 ((hi * 18446744073709551616 + lo) / y), .int .u64 ((hi * 18446744073709551616 + lo) % y)]) ∧ ∃ m, w' = w.drewN m := by
  by_cases h0 : hi = 0
  · subst h0
    rw [Int.zero_mul, Int.zero_add]
    exact div64_lo lo y hl hy h w
  have hpos : 0 < hi := by have := hh.1; omega
  have hy0 : 0 < y := by omega
  obtain ⟨t1, t2, t3⟩ := top_bit hy0 hy
  have bb := blen_bd hy
  obtain ⟨s, hs⟩ : ∃ s : Nat, (64 - blen y).toNat = s := ⟨_, rfl⟩
  have hs2 : (64 - (64 - blen y)).toNat = 64 - s := by omega
  have hs3 : s ≤ 63 := by omega
  have hPT : (2 : Int) ^ s * 2 ^ (64 - s) = 18446744073709551616 := by rw [← Int.pow_add, show s + (64 - s) = 64 by omega]; decide
  have hP0 : (0 : Int) < 2 ^ s := Int.pow_pos (by decide)
  have hT0 : (0 : Int) < 2 ^ (64 - s) := Int.pow_pos (by decide)
  rw [hs] at t1 t2
  have core := div64_core hi lo y
  rw [hs, hs2] at core
  generalize hP : (2 : Int) ^ s = P at *
  generalize hT : (2 : Int) ^ (64 - s) = T at *
  -- the parts
  have hlT : lo / T * T + lo % T = lo := by have := Int.ediv_mul_add_emod lo T; omega
  have hm0 := Int.emod_nonneg lo (show T ≠ 0 by omega)
  have hm1 := Int.emod_lt_of_pos lo hT0
  have hd0 : 0 ≤ lo / T := Int.ediv_nonneg hl.1 (by omega)
  have hd1 : lo / T < P := Int.ediv_lt_of_lt_mul hT0 (by rw [hPT]; have := hl.2; omega)
  have g1 : (hi + 1) * P ≤ y * P := Int.mul_le_mul_of_nonneg_right (by omega) (by omega)
  rw [Int.add_mul, Int.one_mul] at g1
  have g0 : 0 ≤ hi * P := Int.mul_nonneg hh.1 (by omega)
  have v0 : 0 ≤ lo % T * P := Int.mul_nonneg hm0 (by omega)
  have v1 : lo % T * P ≤ (T - 1) * P := Int.mul_le_mul_of_nonneg_right (by omega) (by omega)
  rw [Int.sub_mul, Int.one_mul, Int.mul_comm T P, hPT] at v1
  have eV : lo * P = lo / T * 18446744073709551616 + lo % T * P := by
    have : (lo / T * T + lo % T) * P = lo / T * 18446744073709551616 + lo % T * P := by rw [Int.add_mul, Int.mul_assoc, Int.mul_comm T P, hPT]
    rw [hlT] at this; exact this
  generalize hV : lo % T * P = V at *
  generalize hd : lo / T = d at *
  have eY : IntKind.u64.wrap (y * P) = y * P := w64 ⟨by omega, by omega⟩
  have eN : (hi * 18446744073709551616 + lo) * P = (hi * P + d) * 18446744073709551616 + V := by
    rw [Int.add_mul, eV, Int.mul_assoc, Int.mul_comm 18446744073709551616 P, ← Int.mul_assoc]; omega
  have kb : KB (y * P / 4294967296) (y * P % 4294967296) (hi * P + d) (V / 4294967296) :=
    ⟨by omega, by omega, by omega, by omega, by omega, by omega, by omega, by omega⟩
  have r1 := kr_bd kb
  have q1 := kq_bd kb
  have kb2 : KB (y * P / 4294967296) (y * P % 4294967296) (kr (y * P / 4294967296) (y * P % 4294967296) (hi * P + d) (V / 4294967296)) (V % 4294967296) :=
    ⟨kb.a0, kb.a1, kb.b0, kb.b1, by omega, by omega, r1.1, r1.2⟩
  have r2 := kr_bd kb2
  have q2 := kq_bd kb2
  have two := k_two kb (D := V % 4294967296) (by omega)
  have em : (hi * 18446744073709551616 + lo) * P % (y * P) = (hi * 18446744073709551616 + lo) % y * P := by
    rw [Int.mul_comm _ P, Int.mul_comm y P, Int.mul_emod_mul_of_pos _ _ hP0, Int.mul_comm]
  have eYs : y * P / 4294967296 * 4294967296 + y * P % 4294967296 = y * P := by omega
  have eU : (hi * P + d) * 18446744073709551616 + V / 4294967296 * 4294967296 + V % 4294967296 = (hi * P + d) * 18446744073709551616 + V := by omega
  rw [eYs, eU, ← eN, Int.mul_ediv_mul_of_pos_left _ _ hP0, em] at two
  obtain ⟨two1, two2⟩ := two
  have eR : kr (y * P / 4294967296) (y * P % 4294967296) (kr (y * P / 4294967296) (y * P % 4294967296) (hi * P + d) (V / 4294967296)) (V % 4294967296) / P = (hi * 18446744073709551616 + lo) % y := by
    rw [← two2, Int.mul_ediv_cancel _ (by omega)]
  have zk : ∀ U C, kr (y * P / 4294967296) (y * P % 4294967296) U C = U * 4294967296 + C - kq (y * P / 4294967296) (y * P % 4294967296) U C * (y * P) := by
    intro U C; unfold kr; rw [eYs]
  have z0 := zk (hi * P + d) (V / 4294967296)
  have z1 := zk (kr (y * P / 4294967296) (y * P % 4294967296) (hi * P + d) (V / 4294967296)) (V % 4294967296)
  have sA := Int.ediv_mul_le (hi * P + d) (show y * P / 4294967296 ≠ 0 by have := kb.a0; omega)
  have sA0 : 0 ≤ (hi * P + d) / (y * P / 4294967296) * (y * P / 4294967296) := Int.mul_nonneg (Int.ediv_nonneg (by omega) (by have := kb.a0; omega)) (by have := kb.a0; omega)
  have sB := Int.ediv_mul_le (kr (y * P / 4294967296) (y * P % 4294967296) (hi * P + d) (V / 4294967296)) (show y * P / 4294967296 ≠ 0 by have := kb.a0; omega)
  have sB0 : 0 ≤ kr (y * P / 4294967296) (y * P % 4294967296) (hi * P + d) (V / 4294967296) / (y * P / 4294967296) * (y * P / 4294967296) := Int.mul_nonneg (Int.ediv_nonneg r1.1 (by have := kb.a0; omega)) (by have := kb.a0; omega)
  have a0 := kb.a0
  have a1 := kb.a1
  have fin := core (y * P) (y * P / 4294967296) (y * P % 4294967296) (hi * P + d) V (V / 4294967296) (V % 4294967296) _ _ _ _ hpos hl hy h w
    eY (mask32 _ ⟨by omega, by omega⟩) rfl
    (by rw [w64 ⟨by omega, by omega⟩, ← hP]; exact or_words hh.1 (by omega) (by rw [hP]; exact hd1) (by rw [hP]; omega))
    (by rw [eV, IntKind.wrap_u64]; omega) rfl (mask32 _ ⟨by omega, by omega⟩)
    (Lib.hid kb) (Lib.hid kb2) (Lib.hid rfl) (Lib.hid rfl)
    ((wrap_dif ((hi * P + d) * 4294967296 + V / 4294967296) _ (by omega) (by omega) _ _ rfl).trans z0.symm)
    ((wrap_dif _ _ (by rw [← z1]; omega) (by rw [← z1]; omega) _ _ rfl).trans z1.symm)
    a0 a1 (by omega) (by omega) r1.1 (by omega) (by omega) (by omega) (by omega) (by omega) q1.1 q1.2 q2.1 q2.2 sA0 sA sB0 sB
  refine fin.mono fun e w' ⟨he, hw⟩ => ⟨?_, 0, by rw [hw]; rfl⟩
  rw [he, eR, two1]
end Go.Proofs.YthmkfkmcamjnoaaDoor
