/-
  math/bits.Len64 and LeadingZeros64, by the length of a number in bits.
-/
import Derived.Test.YtcipgagpmglikaaGreatDoorMul
import Derived.Lib.Walk
import Derived.Lib.Small
import Derived.Lib.BitFns
import Derived.Lib.ItoaNum
namespace Go.Proofs.YtcipgagpmglikaaGreatDoor
open Go.RowKit
def blen (x : Int) : Int := (Lib.bitLen x.toNat : Int)
theorem ret_i64' {k : IntKind} {a b : Int} (h : a = b) : Ending.returned (.int k a) = .returned (.int k b) := by rw [h]
theorem blen_bd {x : Int} (h : Word x) : 0 ≤ blen x ∧ blen x ≤ 64 := by
  have := Lib.bitLen_le x.toNat 64 (by omega) (by unfold Word at h; omega)
  unfold blen; omega
theorem blen_small (x : Int) (h0 : 0 ≤ x) (h1 : x < 256) : Lib.len8 x = blen x ∧ 0 ≤ blen x ∧ blen x ≤ 8 := by
  have := Lib.len8_of x h0 (by omega)
  have := Lib.bitLen_le8' x h0 (by omega)
  unfold blen; omega
theorem blen_step (x : Int) (k p : Nat) (hp : (2 : Nat) ^ k = p) (h : (p : Int) ≤ x) (hx : Word x) : blen x = k + blen (x / p) := by
  have h1 := Lib.bitLen_shift k x.toNat (by rw [hp]; omega) (by unfold Word at hx; omega)
  unfold blen
  rw [h1, hp]
  have : (x / (p : Int)).toNat = x.toNat / p := by
    obtain ⟨X, rfl⟩ := Int.eq_ofNat_of_zero_le hx.1
    rw [← Int.natCast_ediv]; rfl
  rw [this]
  omega
theorem tab_val {q : Int} {pf : q.toNat < Lib.len8tab.size} (h0 : 0 ≤ q) (h1 : q < 256) : ((Lib.len8tab[q.toNat]'pf).toNat : Int) = blen q := by
  rw [← (blen_small q h0 h1).1]
  unfold Lib.len8
  rw [ByteArray.getElem?_lt' _ _ pf, Option.getD_some]
theorem tab_close {q c r : Int} {pf : q.toNat < Lib.len8tab.size} (h0 : 0 ≤ q) (h1 : q < 256) (hc : 0 ≤ c ∧ c ≤ 56) (h : r = c + blen q) : wrap64 (c + wrap64 ((Lib.len8tab[q.toNat]'pf).toNat : Int)) = r := by
  rw [tab_val h0 h1, h]
  have := (blen_small q h0 h1).2
  unfold wrap64; omega
theorem tab_close0 {q r : Int} {pf : q.toNat < Lib.len8tab.size} (h0 : 0 ≤ q) (h1 : q < 256) (h : r = blen q) : wrap64 (wrap64 ((Lib.len8tab[q.toNat]'pf).toNat : Int)) = r := by
  rw [tab_val h0 h1, h]
  have := (blen_small q h0 h1).2
  unfold wrap64; omega
theorem st32 {x : Int} (hx : Word x) (h : 4294967296 ≤ x) : blen x = 32 + blen (x / 4294967296) := blen_step x 32 4294967296 (by decide) h hx
theorem st16 {x : Int} (hx : Word x) (h : 65536 ≤ x) : blen x = 16 + blen (x / 65536) := blen_step x 16 65536 (by decide) h hx
theorem st8 {x : Int} (hx : Word x) (h : 256 ≤ x) : blen x = 8 + blen (x / 256) := blen_step x 8 256 (by decide) h hx
set_option maxHeartbeats 4000000 in
set_option maxRecDepth 100000 in
theorem len64_any (x : Int) (hx : Word x) (w : World) :
    Calls Tryz.prog 77 #[.int .u64 x] w fun e w' => e = .returned (.int .i64 (blen x)) ∧ w' = w := by
  have Hx := Lib.hid hx
  obtain ⟨h0, h1⟩ := hx
  have hs := Lib.len8tab_size
  go_enter Tryz.func77, Tryz.ntmps77
  go_wp2
  all_goals (go_ret; refine ⟨?_, rfl⟩)
  all_goals first
    | exact ret_i64' (tab_close (by omega) (by omega) (by decide) (by rw [st32 Hx.out (by omega), st16 ⟨by omega, by omega⟩ (by omega), st8 ⟨by omega, by omega⟩ (by omega)]; omega))
    | exact ret_i64' (tab_close (by omega) (by omega) (by decide) (by rw [st32 Hx.out (by omega), st16 ⟨by omega, by omega⟩ (by omega)]; omega))
    | exact ret_i64' (tab_close (by omega) (by omega) (by decide) (by rw [st32 Hx.out (by omega), st8 ⟨by omega, by omega⟩ (by omega)]; omega))
    | exact ret_i64' (tab_close (by omega) (by omega) (by decide) (by rw [st32 Hx.out (by omega)]))
    | exact ret_i64' (tab_close (by omega) (by omega) (by decide) (by rw [st16 Hx.out (by omega), st8 ⟨by omega, by omega⟩ (by omega)]; omega))
    | exact ret_i64' (tab_close (by omega) (by omega) (by decide) (by rw [st16 Hx.out (by omega)]))
    | exact ret_i64' (tab_close (by omega) (by omega) (by decide) (by rw [st8 Hx.out (by omega)]))
    | exact ret_i64' (tab_close0 (by omega) (by omega) rfl)
/-- A number that is not 0, moved up by what is free, has its highest bit set. -/
theorem top_bit {x : Int} (h0 : 0 < x) (hx : Word x) : 9223372036854775808 ≤ x * 2 ^ (64 - blen x).toNat ∧ x * 2 ^ (64 - blen x).toNat ≤ 18446744073709551615 ∧ 1 ≤ blen x := by
  obtain ⟨X, rfl⟩ := Int.eq_ofNat_of_zero_le hx.1
  have hb := Lib.bitLen_le X 64 (by omega) (by have := hx.2; omega)
  obtain ⟨a, b, c⟩ := Lib.bitLenAux_bounds 64 X (by have := hx.2; omega) (by omega)
  have e : blen (X : Int) = (Lib.bitLen X : Int) := rfl
  have e2 : Lib.bitLen X = Lib.bitLenAux 64 X := rfl
  rw [e]
  rw [← e2] at a b c
  generalize Lib.bitLen X = n at *
  have hs : (64 - (n : Int)).toNat = 64 - n := by omega
  rw [hs]
  obtain ⟨k, rfl⟩ : ∃ k, n = k + 1 := ⟨n - 1, by omega⟩
  have p1 : (2 : Nat) ^ k * 2 ^ (64 - (k + 1)) = 9223372036854775808 := by rw [← Nat.pow_add]; rw [show k + (64 - (k + 1)) = 63 by omega]
  have p2 : (2 : Nat) ^ (k + 1) * 2 ^ (64 - (k + 1)) = 18446744073709551616 := by rw [← Nat.pow_add]; rw [show k + 1 + (64 - (k + 1)) = 64 by omega]
  have q1 : 2 ^ k * 2 ^ (64 - (k + 1)) ≤ X * 2 ^ (64 - (k + 1)) := Nat.mul_le_mul_right _ (by simpa using b)
  have q2 : X * 2 ^ (64 - (k + 1)) < 2 ^ (k + 1) * 2 ^ (64 - (k + 1)) := Nat.mul_lt_mul_of_pos_right c (Nat.two_pow_pos _)
  rw [p1] at q1
  rw [p2] at q2
  have e3 : (X : Int) * 2 ^ (64 - (k + 1)) = ((X * 2 ^ (64 - (k + 1)) : Nat) : Int) := by rw [Int.natCast_mul, Int.natCast_pow]; rfl
  rw [e3]
  omega
set_option maxHeartbeats 400000 in
theorem lead64_any (x : Int) (hx : Word x) (w : World) :
    Calls Tryz.prog 90 #[.int .u64 x] w fun e w' => e = .returned (.int .i64 (64 - blen x)) ∧ w' = w := by
  have Hx := Lib.hid hx
  have hb := blen_bd hx
  obtain ⟨b0, b1⟩ := hb
  clear hx
  go_enter Tryz.func90, Tryz.ntmps90
  go_wp2_with (go_at_call 77; refine (len64_any x Hx.out _).mono ?_; rintro e w' ⟨rfl, rfl⟩)
  go_ret
  exact ⟨rfl, rfl⟩
end Go.Proofs.YtcipgagpmglikaaGreatDoor
