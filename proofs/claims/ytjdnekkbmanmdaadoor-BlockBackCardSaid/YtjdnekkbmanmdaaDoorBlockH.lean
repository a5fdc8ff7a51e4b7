/-
  Heads of sections: plain lemmas (no model).
-/
import Derived.Test.YtjdnekkbmanmdaaDoorBlock
namespace Go.Proofs.YtjdnekkbmanmdaaDoor
theorem drop_take_mid (a q r : List UInt8) (i j : Nat) (ha : a.length = i) (hq : q.length = j) : ((a ++ (q ++ r)).drop i).take j = q := by subst ha hq; rw [List.drop_left, List.take_left]
def sectB : List UInt8 := [10, 13, 13, 10]
theorem sect_ord : ∀ b : Bool, ord b (lowB 168627466 4) = sectB := by decide
theorem mark_apart : ord true (lowB 439041101 4) ≠ ord false (lowB 439041101 4) := by decide
theorem mark_other : ∀ b : Bool, le (ord (!b) (ord b (lowB 439041101 4))) ≠ 439041101 := by decide
/-- Which end a section's head has first, and an error's number. -/
def turnB (l : List UInt8) : Bool × Nat :=
  if l.take (min l.length 4) ≠ sectB.take (min l.length 4) then (false, 120) else if l.length < 12 then (false, 121)
  else if (l.drop 8).take 4 = ord false (lowB 439041101 4) then (false, 0) else if (l.drop 8).take 4 = ord true (lowB 439041101 4) then (true, 0) else (false, 120)
/-- Noughts behind, till four divides the length. -/
def padZ (o : List UInt8) : List UInt8 := o ++ List.replicate ((4 - o.length % 4) % 4) 0
theorem padZ_length (o : List UInt8) : (padZ o).length = o.length + (4 - o.length % 4) % 4 := by unfold padZ; simp
theorem padZ_four (o : List UInt8) : (padZ o).length % 4 = 0 ∧ o.length ≤ (padZ o).length ∧ (padZ o).length < o.length + 4 := by rw [padZ_length]; omega
theorem padZ_take (o : List UInt8) : (padZ o).take o.length = o := by unfold padZ; rw [List.take_left]
theorem padZ_zero (o : List UInt8) (j : Nat) (h0 : o.length ≤ j) (h : j < (padZ o).length) : (padZ o)[j]? = some 0 := by
  rw [padZ_length] at h
  unfold padZ
  rw [List.getElem?_append_right h0, List.getElem?_replicate, if_pos (by omega)]
/-- A section head's body. -/
def bodyB (major minor long : Nat) (opts : List UInt8) (b : Bool) : List UInt8 := ord b (lowB 439041101 4) ++ ord b (lowB major 2) ++ ord b (lowB minor 2) ++ ord b (lowB long 8) ++ padZ opts
theorem bodyB_length (major minor long : Nat) (opts : List UInt8) (b : Bool) : (bodyB major minor long opts b).length = 16 + (padZ opts).length := by unfold bodyB; simp [ord_length, low_length]; omega
/-- What a block tells as a section's head, and an error's number. -/
def secB (kind : Nat) (body : List UInt8) (b : Bool) : (Nat × Nat × Nat × List UInt8) × Nat :=
  if kind ≠ 168627466 then ((0, 0, 0, []), 2) else if body.length < 16 then ((0, 0, 0, []), 123) else if gv body b 0 4 ≠ 439041101 then ((0, 0, 0, []), 120)
  else if gv body b 4 2 ≠ 1 then ((0, 0, 0, []), 125) else ((gv body b 4 2, gv body b 6 2, gv body b 8 8, body.drop 16), 0)
section
variable (major minor long : Nat) (opts : List UInt8) (b : Bool) (more : List UInt8)
theorem turn_frame : turnB (frameB 168627466 (bodyB major minor long opts b) b ++ more) = (b, 0) := by
  have L : (frameB 168627466 (bodyB major minor long opts b) b ++ more).length = 28 + (padZ opts).length + more.length := by rw [List.length_append, frame_length, bodyB_length]; omega
  have e : frameB 168627466 (bodyB major minor long opts b) b ++ more = sectB ++ (ord b (lowB (12 + (bodyB major minor long opts b).length) 4) ++ (bodyB major minor long opts b ++ (ord b (lowB (12 + (bodyB major minor long opts b).length) 4) ++ more))) := by unfold frameB; rw [sect_ord]; simp only [List.append_assoc]
  have h1 : (frameB 168627466 (bodyB major minor long opts b) b ++ more).take (min (frameB 168627466 (bodyB major minor long opts b) b ++ more).length 4) = sectB.take (min (frameB 168627466 (bodyB major minor long opts b) b ++ more).length 4) := by
    rw [show min (frameB 168627466 (bodyB major minor long opts b) b ++ more).length 4 = 4 by omega, e]
    rfl
  have h2 : ((frameB 168627466 (bodyB major minor long opts b) b ++ more).drop 8).take 4 = ord b (lowB 439041101 4) := by
    have B : bodyB major minor long opts b = ord b (lowB 439041101 4) ++ (ord b (lowB major 2) ++ ord b (lowB minor 2) ++ ord b (lowB long 8) ++ padZ opts) := by unfold bodyB; simp only [List.append_assoc]
    have f8 : (sectB ++ ord b (lowB (12 + (bodyB major minor long opts b).length) 4)).length = 8 := by rw [List.length_append, four_length]; rfl
    rw [e]
    generalize ord b (lowB (12 + (bodyB major minor long opts b).length) 4) = N at *
    have e2 : sectB ++ (N ++ (bodyB major minor long opts b ++ (N ++ more))) = (sectB ++ N) ++ (ord b (lowB 439041101 4) ++ ((ord b (lowB major 2) ++ ord b (lowB minor 2) ++ ord b (lowB long 8) ++ padZ opts) ++ (N ++ more))) := by rw [B]; simp only [List.append_assoc]
    rw [e2]
    exact drop_take_mid _ _ _ 8 4 f8 (four_length _ _)
  unfold turnB
  rw [if_neg (by rw [h1]; simp), if_neg (by rw [L]; omega), h2]
  cases b
  · simp
  · rw [if_neg mark_apart, if_pos rfl]
theorem bodyB_mark : gv (bodyB major minor long opts b) b 0 4 = 439041101 := by
  have e : bodyB major minor long opts b = [] ++ ord b (lowB 439041101 4) ++ (ord b (lowB major 2) ++ ord b (lowB minor 2) ++ ord b (lowB long 8) ++ padZ opts) := by unfold bodyB; simp only [List.append_assoc, List.nil_append]
  rw [e, gv_mid _ _ b 439041101 4 (by omega) 0 rfl 4 rfl]
theorem bodyB_major (h : major < 65536) : gv (bodyB major minor long opts b) b 4 2 = major := by
  have e : bodyB major minor long opts b = ord b (lowB 439041101 4) ++ ord b (lowB major 2) ++ (ord b (lowB minor 2) ++ ord b (lowB long 8) ++ padZ opts) := by unfold bodyB; simp only [List.append_assoc]
  rw [e, gv_mid _ _ b major 2 (by omega) 4 (by rw [four_length]; rfl) 2 rfl]; omega
theorem bodyB_minor (h : minor < 65536) : gv (bodyB major minor long opts b) b 6 2 = minor := by
  have e : bodyB major minor long opts b = (ord b (lowB 439041101 4) ++ ord b (lowB major 2)) ++ ord b (lowB minor 2) ++ (ord b (lowB long 8) ++ padZ opts) := by unfold bodyB; simp only [List.append_assoc]
  rw [e, gv_mid _ _ b minor 2 (by omega) 6 (by simp [ord_length, low_length]) 2 rfl]; omega
theorem bodyB_long (h : long < 18446744073709551616) : gv (bodyB major minor long opts b) b 8 8 = long := by
  have e : bodyB major minor long opts b = (ord b (lowB 439041101 4) ++ ord b (lowB major 2) ++ ord b (lowB minor 2)) ++ ord b (lowB long 8) ++ padZ opts := by unfold bodyB; simp only [List.append_assoc]
  rw [e, gv_mid _ _ b long 8 (by omega) 8 (by simp [ord_length, low_length]) 8 rfl]; omega
theorem bodyB_opts : (bodyB major minor long opts b).drop 16 = padZ opts := by
  have e : bodyB major minor long opts b = (ord b (lowB 439041101 4) ++ ord b (lowB major 2) ++ ord b (lowB minor 2) ++ ord b (lowB long 8)) ++ padZ opts := rfl
  rw [e, show 16 = (ord b (lowB 439041101 4) ++ ord b (lowB major 2) ++ ord b (lowB minor 2) ++ ord b (lowB long 8)).length by simp [ord_length, low_length], List.drop_left]
theorem sec_other : secB 168627466 (bodyB major minor long opts b) (!b) = ((0, 0, 0, []), 120) := by
  have g : gv (bodyB major minor long opts b) (!b) 0 4 ≠ 439041101 := by
    have e : bodyB major minor long opts b = [] ++ ord b (lowB 439041101 4) ++ (ord b (lowB major 2) ++ ord b (lowB minor 2) ++ ord b (lowB long 8) ++ padZ opts) := by unfold bodyB; simp only [List.append_assoc, List.nil_append]
    rw [e, gv_any [] _ _ (!b) (four_length _ _) 0 rfl]
    exact mark_other b
  unfold secB
  rw [if_neg (by simp), if_neg (by rw [bodyB_length]; omega), if_pos g]
theorem sec_body (h1 : major < 65536) (h2 : minor < 65536) (h3 : long < 18446744073709551616) : secB 168627466 (bodyB major minor long opts b) b = if major ≠ 1 then ((0, 0, 0, []), 125) else ((major, minor, long, padZ opts), 0) := by
  unfold secB
  rw [if_neg (by simp), if_neg (by rw [bodyB_length]; omega), bodyB_mark, if_neg (by simp), bodyB_major _ _ _ _ _ h1, bodyB_minor _ _ _ _ _ h2, bodyB_long _ _ _ _ _ h3, bodyB_opts]
end
end Go.Proofs.YtjdnekkbmanmdaaDoor
