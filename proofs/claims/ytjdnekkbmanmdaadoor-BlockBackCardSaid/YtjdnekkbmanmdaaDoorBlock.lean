/-
  Frames of blocks and heads of sections: plain lemmas (no model).
-/
import Derived.Test.YtjdnekkbmanmdaaDoorOct
namespace Go.Proofs.YtjdnekkbmanmdaaDoor
/-- How long a frame is, and an error's number. -/
def sizeB (l : List UInt8) (b : Bool) (most : Int) : Nat × Nat :=
  if l.length < 8 then (0, 121) else if gv l b 4 4 < 12 ∨ gv l b 4 4 % 4 ≠ 0 then (0, 123) else if most < gv l b 4 4 then (0, 122) else (gv l b 4 4, 0)
/-- What bytes begin with: a block (its kind, its body, how long its frame is), an error's number, and its place. -/
def openB (l : List UInt8) (b : Bool) (most : Int) (off : Int) : (Nat × List UInt8 × Nat) × Nat × Int :=
  if off < 0 ∨ 4611686018427387904 < off then ((0, [], 0), 2, 0)
  else if (sizeB l b most).2 = 121 ∨ ((sizeB l b most).2 = 0 ∧ l.length < (sizeB l b most).1) then ((0, [], 0), 121, off + l.length)
  else if (sizeB l b most).2 ≠ 0 then ((0, [], 0), (sizeB l b most).2, off + 4)
  else if gv l b (((sizeB l b most).1 : Int) - 4) 4 ≠ (sizeB l b most).1 then ((0, [], 0), 123, off + (sizeB l b most).1 - 4)
  else ((gv l b 0 4, (l.drop 8).take ((sizeB l b most).1 - 12), (sizeB l b most).1), 0, 0)
/-- A block's frame. -/
def frameB (kind : Nat) (body : List UInt8) (b : Bool) : List UInt8 := ord b (lowB kind 4) ++ ord b (lowB (12 + body.length) 4) ++ body ++ ord b (lowB (12 + body.length) 4)
theorem four_length (n : Nat) (b : Bool) : (ord b (lowB n 4)).length = 4 := by rw [ord_length, low_length]
theorem frame_length (kind : Nat) (body : List UInt8) (b : Bool) : (frameB kind body b).length = 12 + body.length := by unfold frameB; simp [four_length]; omega
/-- A number of four bytes in the middle. -/
theorem gv_four (pre post : List UInt8) (b : Bool) (n : Nat) (h : n < 4294967296) (at_ : Int) (ha : at_ = pre.length) : gv (pre ++ ord b (lowB n 4) ++ post) b at_ 4 = n := by
  subst ha
  unfold gv gok
  rw [if_pos (by simp [four_length]; omega)]
  simp only [Int.toNat_natCast, List.append_assoc, List.drop_left]
  rw [show (4 : Int).toNat = 4 from rfl, List.take_append_of_le_length (by rw [four_length]; exact Nat.le_refl _), List.take_of_length_le (by rw [four_length]; exact Nat.le_refl _), ord_ord, le_low]
  omega
/-- Whatever four bytes. -/
theorem gv_any (pre q post : List UInt8) (b : Bool) (hq : q.length = 4) (at_ : Int) (ha : at_ = pre.length) : gv (pre ++ q ++ post) b at_ 4 = le (ord b q) := by
  subst ha
  unfold gv gok
  rw [if_pos (by simp [hq]; omega)]
  simp only [Int.toNat_natCast, List.append_assoc, List.drop_left]
  rw [show (4 : Int).toNat = 4 from rfl, List.take_append_of_le_length (by omega), List.take_of_length_le (by omega)]
/-- Numbers at the beginning do not hang on what is cut off behind. -/
theorem gv_take (l : List UInt8) (b : Bool) (at_ k : Nat) (h : at_ + 4 ≤ k) (hk : k ≤ l.length) : gv (l.take k) b at_ 4 = gv l b at_ 4 := by
  unfold gv gok
  rw [if_pos (by simp; omega), if_pos (by simp; omega)]
  simp only [Int.toNat_natCast, show (4 : Int).toNat = 4 from rfl]
  rw [List.drop_take, List.take_take, Nat.min_eq_left (by omega)]
section
variable (kind : Nat) (body : List UInt8) (b : Bool) (hk : kind < 4294967296) (hb : body.length ≤ 1048576) (more : List UInt8)
include hb
theorem frame_long : gv (frameB kind body b ++ more) b 4 4 = 12 + body.length := by
  have e : frameB kind body b ++ more = ord b (lowB kind 4) ++ ord b (lowB (12 + body.length) 4) ++ (body ++ ord b (lowB (12 + body.length) 4) ++ more) := by unfold frameB; simp only [List.append_assoc]
  rw [e, gv_four _ _ b _ (by omega) 4 (by rw [four_length]; rfl)]
theorem frame_last : gv (frameB kind body b ++ more) b ((12 + body.length : Nat) - 4 : Int) 4 = 12 + body.length := by
  have e : frameB kind body b ++ more = (ord b (lowB kind 4) ++ ord b (lowB (12 + body.length) 4) ++ body) ++ ord b (lowB (12 + body.length) 4) ++ more := by unfold frameB; simp only [List.append_assoc]
  rw [e, gv_four _ _ b _ (by omega) _ (by simp [four_length]; omega)]
include hk in
omit hb in
theorem frame_kind : gv (frameB kind body b ++ more) b 0 4 = kind := by
  have e : frameB kind body b ++ more = [] ++ ord b (lowB kind 4) ++ (ord b (lowB (12 + body.length) 4) ++ body ++ ord b (lowB (12 + body.length) 4) ++ more) := by unfold frameB; simp only [List.append_assoc, List.nil_append]
  rw [e, gv_four _ _ b _ hk 0 rfl]
omit hb in
theorem frame_body : ((frameB kind body b ++ more).drop 8).take body.length = body := by
  have e : frameB kind body b ++ more = (ord b (lowB kind 4) ++ ord b (lowB (12 + body.length) 4)) ++ (body ++ (ord b (lowB (12 + body.length) 4) ++ more)) := by unfold frameB; simp only [List.append_assoc]
  rw [e, show 8 = (ord b (lowB kind 4) ++ ord b (lowB (12 + body.length) 4)).length by simp [four_length], List.drop_left, List.take_left]
theorem size_frame (h4 : body.length % 4 = 0) (most : Int) : sizeB (frameB kind body b ++ more) b most = if most < (12 + body.length : Nat) then (0, 122) else (12 + body.length, 0) := by
  unfold sizeB
  rw [frame_long kind body b hb more, if_neg (by rw [List.length_append, frame_length]; omega), if_neg (by omega)]
include hk
/-- What is framed is opened as it was. -/
theorem open_frame (h4 : body.length % 4 = 0) (most : Int) (hm : (12 + body.length : Nat) ≤ most) (off : Int) (ho : 0 ≤ off ∧ off ≤ 4611686018427387904) : openB (frameB kind body b ++ more) b most off = ((kind, body, 12 + body.length), 0, 0) := by
  unfold openB
  rw [size_frame kind body b hb more h4 most, if_neg (by omega : ¬ most < ((12 + body.length : Nat) : Int)), if_neg (by omega)]
  simp only
  rw [if_neg (by rw [List.length_append, frame_length]; omega), if_neg (by simp), frame_last kind body b hb more, if_neg (by simp), frame_kind kind body b hk more]
  rw [show 12 + body.length - 12 = body.length by omega, frame_body kind body b more]
omit hk in
/-- A cap below its length. -/
theorem open_snap (h4 : body.length % 4 = 0) (most : Int) (hm : most < (12 + body.length : Nat)) (off : Int) (ho : 0 ≤ off ∧ off ≤ 4611686018427387904) : openB (frameB kind body b ++ more) b most off = ((0, [], 0), 122, off + 4) := by
  unfold openB
  rw [size_frame kind body b hb more h4 most, if_pos hm, if_neg (by omega)]
  simp only
  rw [if_neg (by omega), if_pos (by omega)]
omit hk in
/-- Cut off. -/
theorem openB_cut (h4 : body.length % 4 = 0) (k : Nat) (hlt : k < 12 + body.length) (most : Int) (hm : (12 + body.length : Nat) ≤ most) (off : Int) (ho : 0 ≤ off ∧ off ≤ 4611686018427387904) : openB ((frameB kind body b).take k) b most off = ((0, [], 0), 121, off + k) := by
  have L : ((frameB kind body b).take k).length = k := by rw [List.length_take, frame_length]; omega
  unfold openB
  rw [if_neg (by omega)]
  by_cases h8 : k < 8
  · have e : sizeB ((frameB kind body b).take k) b most = (0, 121) := by unfold sizeB; rw [if_pos (by rw [L]; exact h8)]
    rw [e, if_pos (by simp), L]
  · have e : sizeB ((frameB kind body b).take k) b most = (12 + body.length, 0) := by
      have g := frame_long kind body b hb []
      rw [List.append_nil] at g
      have t : gv ((frameB kind body b).take k) b 4 4 = gv (frameB kind body b) b 4 4 := gv_take (frameB kind body b) b 4 k (by omega) (by rw [frame_length]; omega)
      unfold sizeB
      rw [t, g, if_neg (by rw [L]; omega), if_neg (by omega), if_neg (by omega)]
    rw [e, if_pos (Or.inr ⟨rfl, by simp only; omega⟩), L]
end
theorem le_inj4 {p q : List UInt8} (h : p.length = q.length) (e : le p = le q) : p = q := by rw [← low_le p, ← low_le q, h, e]
/-- Another length at its end. -/
theorem open_harm (kind : Nat) (body : List UInt8) (b : Bool) (hb : body.length ≤ 1048576) (more q : List UInt8) (h4 : body.length % 4 = 0) (hq : q.length = 4) (hne : q ≠ ord b (lowB (12 + body.length) 4)) (most : Int) (hm : (12 + body.length : Nat) ≤ most) (off : Int) (ho : 0 ≤ off ∧ off ≤ 4611686018427387904) :
    openB (ord b (lowB kind 4) ++ ord b (lowB (12 + body.length) 4) ++ body ++ q ++ more) b most off = ((0, [], 0), 123, off + (12 + body.length : Nat) - 4) := by
  have g : gv (ord b (lowB kind 4) ++ ord b (lowB (12 + body.length) 4) ++ body ++ q ++ more) b 4 4 = 12 + body.length := by
    have e : ord b (lowB kind 4) ++ ord b (lowB (12 + body.length) 4) ++ body ++ q ++ more = ord b (lowB kind 4) ++ ord b (lowB (12 + body.length) 4) ++ (body ++ q ++ more) := by simp only [List.append_assoc]
    rw [e, gv_four _ _ b _ (by omega) 4 (by rw [four_length]; rfl)]
  have L : (ord b (lowB kind 4) ++ ord b (lowB (12 + body.length) 4) ++ body ++ q ++ more).length = 12 + body.length + more.length := by simp [four_length, hq]; omega
  have s : sizeB (ord b (lowB kind 4) ++ ord b (lowB (12 + body.length) 4) ++ body ++ q ++ more) b most = (12 + body.length, 0) := by
    unfold sizeB
    rw [g, if_neg (by rw [L]; omega), if_neg (by omega), if_neg (by omega)]
  have d : gv (ord b (lowB kind 4) ++ ord b (lowB (12 + body.length) 4) ++ body ++ q ++ more) b ((12 + body.length : Nat) - 4 : Int) 4 ≠ 12 + body.length := by
    rw [gv_any _ q more b hq _ (by simp [four_length]; omega)]
    intro e
    apply hne
    have : ord b q = lowB (12 + body.length) 4 := le_inj4 (by rw [ord_length, low_length, hq]) (by rw [e, le_low]; omega)
    rw [← this, ord_ord]
  unfold openB
  rw [s, if_neg (by omega)]
  simp only
  rw [if_neg (by rw [L]; omega), if_neg (by simp), if_pos d]
end Go.Proofs.YtjdnekkbmanmdaaDoor
