/-
  Headers of capture files: plain lemmas (no model). What the magic numbers are, what is opened, what headers' bytes are.
-/
import Derived.Test.YthmkfkmcamjnoaaDoorOct
namespace Go.Proofs.YthmkfkmcamjnoaaDoor
def magN (nano : Bool) : Nat := if nano then 2712812621 else 2712847316
/-- The four bytes of a magic number. -/
def magicL (little nano : Bool) : List UInt8 := ord little (lowB (magN nano) 4)
theorem magicL_length (a b : Bool) : (magicL a b).length = 4 := by unfold magicL; rw [ord_length, low_length]
theorem magicL_val : magicL false false = [0xa1, 0xb2, 0xc3, 0xd4] ∧ magicL true false = [0xd4, 0xc3, 0xb2, 0xa1] ∧ magicL false true = [0xa1, 0xb2, 0x3c, 0x4d] ∧ magicL true true = [0x4d, 0x3c, 0xb2, 0xa1] := by decide
theorem magicL_inj : ∀ a b c d : Bool, magicL a b = magicL c d ↔ a = c ∧ b = d := by decide
/-- Do the bytes begin as this magic number (as far as there are four)? -/
def begins (l : List UInt8) (a b : Bool) : Bool := decide ((magicL a b).take (min l.length 4) = l.take (min l.length 4))
/-- Which magic number the bytes begin with: the first one of the four. -/
def which (l : List UInt8) : Option (Bool × Bool) :=
  if begins l false false then some (false, false) else if begins l true false then some (true, false) else if begins l false true then some (false, true) else if begins l true true then some (true, true) else none
theorem begins_whole (l : List UInt8) (h : 4 ≤ l.length) (a b : Bool) : begins l a b = decide (magicL a b = l.take 4) := by
  unfold begins
  rw [Nat.min_eq_right h, List.take_of_length_le (by rw [magicL_length]; exact Nat.le_refl _)]
theorem which_some {l : List UInt8} {a b : Bool} (h : begins l a b = true) : ∃ c d, which l = some (c, d) ∧ begins l c d = true := by
  unfold which
  cases h1 : begins l false false
  · cases h2 : begins l true false
    · cases h3 : begins l false true
      · cases h4 : begins l true true
        · cases a <;> cases b <;> simp_all
        · exact ⟨true, true, by simp, h4⟩
      · exact ⟨false, true, by simp, h3⟩
    · exact ⟨true, false, by simp, h2⟩
  · exact ⟨false, false, by simp, h1⟩
theorem which_begins {l : List UInt8} {a b : Bool} (h : which l = some (a, b)) : begins l a b = true := by
  unfold which at h
  split at h
  · cases h; assumption
  · split at h
    · cases h; assumption
    · split at h
      · cases h; assumption
      · split at h
        · cases h; assumption
        · cases h
theorem which_none {l : List UInt8} (h : which l = none) (a b : Bool) : begins l a b = false := by
  cases e : begins l a b with
  | false => rfl
  | true => obtain ⟨c, d, e, _⟩ := which_some e; rw [e] at h; cases h
theorem which_magic (l : List UInt8) (h : 4 ≤ l.length) (a b : Bool) (e : l.take 4 = magicL a b) : which l = some (a, b) := by
  have k : ∀ c d, begins l c d = decide (c = a ∧ d = b) := fun c d => by
    rw [begins_whole l h, e]; congr 1; exact propext (magicL_inj c d a b)
  unfold which
  rw [k, k, k, k]
  cases a <;> cases b <;> simp
theorem which_take (l : List UInt8) (h : 4 ≤ l.length) (a b : Bool) (e : which l = some (a, b)) : magicL a b = l.take 4 := by
  have := which_begins e
  rw [begins_whole l h] at this
  exact of_decide_eq_true this
/-- Only the first four bytes count. -/
theorem which_first (l r : List UInt8) (h : 4 ≤ l.length) : which (l.take 4 ++ r) = which l := by
  have e : ∀ a b, begins (l.take 4 ++ r) a b = begins l a b := fun a b => by
    rw [begins_whole l h, begins_whole _ (by rw [List.length_append, List.length_take]; omega)]
    congr 2
    rw [List.take_append_of_le_length (by rw [List.length_take]; omega), List.take_take]
    simp
  unfold which
  simp only [e]
/-- A number in the middle of bytes. -/
theorem gv_mid (pre post : List UInt8) (b : Bool) (n m : Nat) (h : m ≤ 8) (at_ : Int) (ha : at_ = pre.length) (many : Int) (hm : many = m) : gv (pre ++ ord b (lowB n m) ++ post) b at_ many = n % 256 ^ m := by
  subst ha hm
  unfold gv gok
  rw [if_pos (by simp [ord_length, low_length]; omega)]
  simp only [Int.toNat_natCast, List.append_assoc, List.drop_left]
  rw [List.take_append_of_le_length (by rw [ord_length, low_length]; exact Nat.le_refl _), List.take_of_length_le (by rw [ord_length, low_length]; exact Nat.le_refl _), ord_ord, le_low]
def den (nano : Bool) : Nat := if nano then 1000000000 else 1000000
/-- What is opened: the file (its order, its unit, its link, its snap), and an error's number. -/
def openS (l : List UInt8) : (Bool × Bool × Nat × Nat) × Nat :=
  match which l with
  | none => ((false, false, 0, 0), 120)
  | some (a, b) => if l.length < 24 then ((false, false, 0, 0), 121) else if gv l a 4 2 = 2 then ((a, b, gv l a 20 4 % 65536, gv l a 16 4), 0) else ((false, false, 0, 0), 125)
/-- A file's header. -/
def bytesS (a b : Bool) (link snap : Nat) : List UInt8 := magicL a b ++ ord a (lowB 2 2) ++ ord a (lowB 4 2) ++ List.replicate 8 0 ++ ord a (lowB snap 4) ++ ord a (lowB link 4)
theorem bytesS_length (a b : Bool) (link snap : Nat) : (bytesS a b link snap).length = 24 := by
  unfold bytesS
  simp [magicL_length, ord_length, low_length]
theorem bytesS_take4 (a b : Bool) (link snap : Nat) (k : Nat) (h : k ≤ 4) (more : List UInt8) : (bytesS a b link snap ++ more).take k = (magicL a b).take k := by
  unfold bytesS
  simp only [List.append_assoc]
  rw [List.take_append_of_le_length (by rw [magicL_length]; exact h)]
theorem open_bytes (a b : Bool) (link snap : Nat) (hl : link < 65536) (hs : snap < 4294967296) (more : List UInt8) : openS (bytesS a b link snap ++ more) = ((a, b, link, snap), 0) := by
  have L := bytesS_length a b link snap
  have W := which_magic (bytesS a b link snap ++ more) (by rw [List.length_append, L]; omega) a b (by rw [bytesS_take4 _ _ _ _ 4 (Nat.le_refl _), List.take_of_length_le (by rw [magicL_length]; exact Nat.le_refl _)])
  have g1 : gv (bytesS a b link snap ++ more) a 4 2 = 2 := by
    have e : bytesS a b link snap ++ more = magicL a b ++ ord a (lowB 2 2) ++ (ord a (lowB 4 2) ++ List.replicate 8 0 ++ ord a (lowB snap 4) ++ ord a (lowB link 4) ++ more) := by unfold bytesS; simp only [List.append_assoc]
    rw [e, gv_mid _ _ a 2 2 (by omega) 4 (by rw [magicL_length]; rfl) 2 rfl]
  have g2 : gv (bytesS a b link snap ++ more) a 16 4 = snap := by
    have e : bytesS a b link snap ++ more = (magicL a b ++ ord a (lowB 2 2) ++ ord a (lowB 4 2) ++ List.replicate 8 0) ++ ord a (lowB snap 4) ++ (ord a (lowB link 4) ++ more) := by unfold bytesS; simp only [List.append_assoc]
    rw [e, gv_mid _ _ a snap 4 (by omega) 16 (by simp [magicL_length, ord_length, low_length]) 4 rfl]
    omega
  have g3 : gv (bytesS a b link snap ++ more) a 20 4 = link := by
    have e : bytesS a b link snap ++ more = (magicL a b ++ ord a (lowB 2 2) ++ ord a (lowB 4 2) ++ List.replicate 8 0 ++ ord a (lowB snap 4)) ++ ord a (lowB link 4) ++ more := by unfold bytesS; simp only [List.append_assoc]
    rw [e, gv_mid _ _ a link 4 (by omega) 20 (by simp [magicL_length, ord_length, low_length]) 4 rfl]
    omega
  unfold openS
  rw [W]
  simp only [g1, g2, g3]
  rw [if_neg (by rw [List.length_append, L]; omega), if_true, Nat.mod_eq_of_lt hl]
theorem open_cut (a b : Bool) (link snap k : Nat) (h : k < 24) : openS ((bytesS a b link snap).take k) = ((false, false, 0, 0), 121) := by
  have L := bytesS_length a b link snap
  have B : begins ((bytesS a b link snap).take k) a b = true := by
    unfold begins
    have hk : ((bytesS a b link snap).take k).length = k := by rw [List.length_take, L]; omega
    rw [hk, List.take_take, Nat.min_eq_left (Nat.min_le_left k 4)]
    have := bytesS_take4 a b link snap (min k 4) (Nat.min_le_right _ _) []
    rw [List.append_nil] at this
    rw [this]; simp
  obtain ⟨c, d, W, _⟩ := which_some B
  unfold openS
  rw [W]
  simp only
  rw [if_pos (by rw [List.length_take, L]; omega)]
/-- A record's header's bytes. -/
def putS (a : Bool) (sec part cap len : Nat) : List UInt8 := ord a (lowB sec 4) ++ ord a (lowB part 4) ++ ord a (lowB cap 4) ++ ord a (lowB len 4)
theorem putS_length (a : Bool) (sec part cap len : Nat) : (putS a sec part cap len).length = 16 := by unfold putS; simp [ord_length, low_length]
/-- What a record's header is: its four numbers, and an error's number. -/
def headS (a b : Bool) (l : List UInt8) (most : Int) : (Nat × Nat × Nat × Nat) × Nat :=
  if l.length < 16 then ((0, 0, 0, 0), 121) else if den b ≤ gv l a 4 4 then ((0, 0, 0, 0), 8) else if most < 0 ∨ most < gv l a 8 4 then ((0, 0, 0, 0), 122) else ((gv l a 0 4, gv l a 4 4, gv l a 8 4, gv l a 12 4), 0)
theorem gv_put4 (a : Bool) (w x y z : Nat) (hw : w < 4294967296) (hx : x < 4294967296) (hy : y < 4294967296) (hz : z < 4294967296) :
    gv (putS a w x y z) a 0 4 = w ∧ gv (putS a w x y z) a 4 4 = x ∧ gv (putS a w x y z) a 8 4 = y ∧ gv (putS a w x y z) a 12 4 = z := by
  refine ⟨?_, ?_, ?_, ?_⟩
  · have e : putS a w x y z = [] ++ ord a (lowB w 4) ++ (ord a (lowB x 4) ++ ord a (lowB y 4) ++ ord a (lowB z 4)) := by unfold putS; simp only [List.append_assoc, List.nil_append]
    rw [e, gv_mid _ _ a w 4 (by omega) 0 rfl 4 rfl]; omega
  · have e : putS a w x y z = ord a (lowB w 4) ++ ord a (lowB x 4) ++ (ord a (lowB y 4) ++ ord a (lowB z 4)) := by unfold putS; simp only [List.append_assoc]
    rw [e, gv_mid _ _ a x 4 (by omega) 4 (by rw [ord_length, low_length]; rfl) 4 rfl]; omega
  · have e : putS a w x y z = (ord a (lowB w 4) ++ ord a (lowB x 4)) ++ ord a (lowB y 4) ++ ord a (lowB z 4) := by unfold putS; simp only [List.append_assoc]
    rw [e, gv_mid _ _ a y 4 (by omega) 8 (by simp [ord_length, low_length]) 4 rfl]; omega
  · have e : putS a w x y z = (ord a (lowB w 4) ++ ord a (lowB x 4) ++ ord a (lowB y 4)) ++ ord a (lowB z 4) ++ [] := by unfold putS; simp only [List.append_assoc, List.append_nil]
    rw [e, gv_mid _ _ a z 4 (by omega) 12 (by simp [ord_length, low_length]) 4 rfl]; omega
theorem head_put (a b : Bool) (w x y z : Nat) (hw : w < 4294967296) (hx : x < 4294967296) (hy : y < 4294967296) (hz : z < 4294967296) :
    headS a b (putS a w x y z) 4294967296 = if den b ≤ x then ((0, 0, 0, 0), 8) else ((w, x, y, z), 0) := by
  obtain ⟨e0, e1, e2, e3⟩ := gv_put4 a w x y z hw hx hy hz
  unfold headS
  rw [putS_length, e0, e1, e2, e3, if_neg (by omega)]
  split
  · rfl
  · rw [if_neg (by omega)]
theorem head_cut (a b : Bool) (w x y z k : Nat) (most : Int) (h : k < 16) : headS a b ((putS a w x y z).take k) most = ((0, 0, 0, 0), 121) := by
  unfold headS
  rw [if_pos (by rw [List.length_take, putS_length]; omega)]
end Go.Proofs.YthmkfkmcamjnoaaDoor
