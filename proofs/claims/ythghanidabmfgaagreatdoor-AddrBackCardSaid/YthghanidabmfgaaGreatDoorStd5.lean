/-
  The library's calls that package addr makes: what each answers, in plain lists.
-/
import Derived.Test.YthghanidabmfgaaGreatDoorMem5
import Derived.Test.YthghanidabmfgaaGreatDoorUndec2
import Derived.Lib.SplitLaws
import Derived.Lib.CutLaws
import Derived.Lib.LastIndexByte
import Derived.Lib.Join
namespace Go.Proofs.YthghanidabmfgaaGreatDoor
open Go.RowKit Go.Sort
set_option maxRecDepth 8000
/-! ### In plain lists -/
theorem index_split {l : List UInt8} {c : UInt8} {i : Nat} (h : Lib.index l [c] = i) : l = l.take i ++ c :: l.drop (i + 1) ∧ c ∉ l.take i := by
  rw [Lib.index_one] at h
  obtain ⟨h1, h2⟩ := Lib.indexByte_some h
  have lt := (List.getElem?_eq_some_iff.1 h1).1
  have e : l[i] = c := (List.getElem?_eq_some_iff.1 h1).2
  refine ⟨?_, fun m => ?_⟩
  · rw [← e, ← List.drop_eq_getElem_cons lt, List.take_append_drop]
  · obtain ⟨j, hj, ej⟩ := List.mem_iff_getElem.1 m
    have hj' : j < i := by rw [List.length_take] at hj; omega
    refine h2 j hj' ?_
    rw [List.getElem?_eq_getElem (by omega)]
    rw [List.getElem_take] at ej
    rw [ej]
theorem split_words (c : UInt8) : ∀ (n : Nat) (l : List UInt8), l.length ≤ n → Lib.splitK [c] 0 (Lib.count l [c]) l = words c l := by
  intro n
  induction n with
  | zero =>
    intro l hl
    obtain rfl := List.length_eq_zero_iff.1 (by omega : l.length = 0)
    rw [show Lib.count [] [c] = 0 from Lib.count_miss (by rfl)]; rfl
  | succ n ih =>
    intro l hl
    by_cases h : Lib.index l [c] = -1
    · rw [Lib.count_miss h]
      have : c ∉ l := fun m => by
        rw [Lib.index_one] at h
        obtain ⟨j, hj⟩ := List.getElem?_of_mem m
        exact Lib.indexByte_none h j hj
      rw [words_free this]; rfl
    · obtain ⟨i, hi⟩ : ∃ i : Nat, Lib.index l [c] = i := ⟨(Lib.index l [c]).toNat, by have := Lib.index_ge l [c]; omega⟩
      obtain ⟨e, hf⟩ := index_split hi
      rw [Lib.count_hit (by simp) hi, Nat.add_comm, Lib.splitK, if_neg (by rw [hi]; simp), hi]
      have el : l.length = i + 1 + (l.drop (i + 1)).length := by
        rw [List.length_drop]
        have h' := congrArg List.length e
        rw [List.length_append, List.length_cons, List.length_take, List.length_drop] at h'
        omega
      have := ih (l.drop (i + 1)) (by omega)
      simp only [Int.toNat_natCast, Nat.add_zero, List.length_cons, List.length_nil, Nat.zero_add]
      rw [this]
      conv => rhs; rw [e]
      rw [words_hit hf]
theorem index2_cut2 (l : List UInt8) : Lib.index l [58, 58] = match cut2 l with | none => -1 | some p => (p.1.length : Int) := by
  induction l with
  | nil => rfl
  | cons x r ih =>
    cases r with
    | nil =>
      simp [Lib.index, cut2]
    | cons y r =>
      by_cases c : x = 58 ∧ y = 58
      · obtain ⟨rfl, rfl⟩ := c
        rw [cut2_hit, Lib.index, if_pos (by simp)]; rfl
      · rw [cut2_miss c, Lib.index, if_neg (by simp; rintro rfl rfl; exact c ⟨rfl, rfl⟩), ih]
        cases cut2 (y :: r) with
        | none => rfl
        | some p => dsimp only [Option.map]; rw [if_neg (by simp), List.length_cons]; push_cast; rfl
theorem cut_cut2 (l : List UInt8) : Lib.cut l [58, 58] = match cut2 l with | none => (l, [], false) | some p => (p.1, p.2, true) := by
  unfold Lib.cut
  rw [index2_cut2]
  cases h : cut2 l with
  | none => rfl
  | some p =>
    obtain ⟨e, _⟩ := cut2_some (f := p.1) (b := p.2) h
    dsimp only
    rw [if_pos (Int.natCast_nonneg _)]
    have e1 : l.take p.1.length = p.1 := by conv => lhs; rw [e]
                                            simp
    have e2 : l.drop (p.1.length + 2) = p.2 := by
      conv => lhs; rw [e]
      rw [← List.drop_drop]; simp
    simp only [Int.toNat_natCast, List.length_cons, List.length_nil, Nat.zero_add, Nat.reduceAdd]
    rw [e1, e2]
theorem join_joinC (c : UInt8) (xs : List (List UInt8)) : Lib.join xs [c] = joinC c xs := by
  unfold Lib.join
  induction xs with
  | nil => rfl
  | cons a r ih =>
    cases r with
    | nil => simp [List.intercalate, List.intersperse, joinC]
    | cons b r =>
      rw [joinC_cons _ _ (by simp), ← ih]
      simp [List.intercalate, List.intersperse]
theorem last_index (s : ByteArray) : Lib.lastIndexByte s 58 = ((headW s.data.toList).length : Int) - 1 := by
  obtain ⟨e1, e2, e3⟩ := head_last s.data.toList
  have at_ : ∀ j, j < s.size → (s.data[j]!) = (s.data.toList[j]?).getD 0 := fun j h => by
    rw [getElem!_pos s.data j (by simpa using h), List.getElem?_eq_getElem (by rw [len_list]; exact h)]; simp
  have ls : s.data.toList.length = (headW s.data.toList).length + (lastW s.data.toList).length := by rw [← List.length_append, e1]
  rw [len_list] at ls
  generalize headW s.data.toList = H at *
  generalize lastW s.data.toList = T at *
  rw [← e1] at at_
  have tail : ∀ j, H.length ≤ j → j < s.size → ((s.data[j]!).toNat : Int) ≠ 58 := fun j h1 h2 h => by
    rw [at_ j h2, List.getElem?_append_right h1, List.getElem?_eq_getElem (show j - H.length < T.length by omega)] at h
    refine e2 ?_
    have hm : T[j - H.length]'(by omega) ∈ T := List.getElem_mem _
    have : T[j - H.length]'(by omega) = 58 := UInt8.toNat_inj.1 (by have := h; simp at this ⊢; omega)
    rw [this] at hm
    exact hm
  have mid : ∀ P, H = P ++ [58] → P.length < s.size ∧ ((s.data[P.length]!).toNat : Int) = 58 := fun P hP => by
    have hlt : P.length < s.size := by rw [ls, hP, List.length_append, List.length_cons]; omega
    refine ⟨hlt, ?_⟩
    rw [at_ _ hlt, hP, List.append_assoc, List.getElem?_append_right (Nat.le_refl _)]
    simp
  rcases Lib.lastIndexByte_spec s 58 with ⟨e, hn⟩ | ⟨i, hi, e, hc, hn⟩
  · rw [e]
    rcases e3 with h0 | ⟨P, hP⟩
    · rw [h0]; rfl
    · exact absurd (mid P hP).2 (hn _ (mid P hP).1)
  · rw [e]
    have hi1 : i < H.length := by
      rcases Nat.lt_or_ge i H.length with h | h
      · exact h
      · exact absurd hc (tail i h hi)
    rcases e3 with h0 | ⟨P, hP⟩
    · rw [h0] at hi1; exact absurd hi1 (by simp)
    · have hl : H.length = P.length + 1 := by rw [hP]; simp
      have : ¬ i < P.length := fun h => hn P.length h (mid P hP).1 (mid P hP).2
      omega
/-! ### What the calls want of the package variables -/
def Some1 (w : World) (g : Nat) : Prop := ∃ m, w.cell? ⟨g, 0, none⟩ = some (.int .i64 m)
def SomeErr (w : World) (g : Nat) : Prop := ∃ ev, w.cell? ⟨g, 0, none⟩ = some ev ∧ (ev = .nilIface ∨ ∃ te pe, ev = .iface te pe)
def Four16 (w : World) : Prop := w.cell? ⟨10, 15, none⟩ = some (.int .u8 4)
def Env5 (w : World) : Prop := Env w ∧ Some1 w 0 ∧ SomeErr w 7 ∧ SomeErr w 8 ∧ Four16 w
theorem Env5.below {w w' : World} (h : Env5 w) (hb : Below w.heap.size w w') : Env5 w' := by
  obtain ⟨h1, ⟨m, h2⟩, ⟨e, h3, h3'⟩, ⟨e', h4, h4'⟩, h5⟩ := h
  have k : ∀ {g o : Nat} {v : Value}, w.cell? ⟨g, o, none⟩ = some v → w'.cell? ⟨g, o, none⟩ = some v := fun q => (hb.cell (block_lt_of_cell q)).trans q
  exact ⟨h1.below hb, ⟨m, k h2⟩, ⟨e, k h3, h3'⟩, ⟨e', k h4, h4'⟩, k h5⟩
/-- What a call answers, in whatever later world. -/
def Tells (f : FuncId) (args : Array Value) (v : Value) : Prop := ∀ w, Env5 w → Calls Tryz.prog f args w fun e w' => e = .returned v ∧ Below w.heap.size w w'
theorem Tells.as {f : FuncId} {args args' : Array Value} {v v' : Value} (h : Tells f args v) (ha : args = args') (hv : v = v') : Tells f args' v' := by subst ha hv; exact h
theorem Says.tells {f : FuncId} {args : Array Value} {v : Value} (h : Says f args v) : Tells f args v := fun w hw => h w hw.1
theorem Env5.regrown {w : World} (h : Env5 w) (d : Nat) (os : Array Obj) : Env5 (grow (redrawn w d) os) := h.below (below_regrown w d os)
theorem Tells.quiet {f : FuncId} {args : Array Value} {v : Value} (h : Tells f args v) {w : World} (hg : Env5 w) (d : Nat) (os : Array Obj) :
    Calls Tryz.prog f args (grow (redrawn w d) os) fun e w'' => e = .returned v ∧ ∃ p : Regrown, w'' = grow (redrawn w p.d) p.os :=
  Calls.regrown_of (h _ (hg.regrown d os))
/-! ### The calls -/
def str (l : List UInt8) : ByteArray := ⟨l.toArray⟩
theorem str_list (l : List UInt8) : (str l).data.toList = l := by simp [str]
theorem str_size (l : List UInt8) : (str l).size = l.length := by show l.toArray.size = _; simp
theorem str_eq5 (s : ByteArray) : str s.data.toList = s := by cases s; simp [str]
theorem txt_str (n : Int) : txt n = str (Lib.itoa n) := rfl
/-- A slice that holds these strings. -/
def Strs (w : World) (v : Value) (xs : List ByteArray) : Prop :=
  ∃ b o c, v = .slice (some ⟨b, o, none⟩) xs.length c ∧ xs.length ≤ c ∧ b < w.heap.size ∧ ∀ j x, xs[j]? = some x → w.cell? ⟨b, o + j, none⟩ = some (.string x)
theorem Strs.on {w w' : World} {v : Value} {xs : List ByteArray} (h : Strs w v xs) (hb : Below w.heap.size w w') : Strs w' v xs := by
  obtain ⟨b, o, c, e, hc, hl, hx⟩ := h
  exact ⟨b, o, c, e, hc, Nat.lt_of_lt_of_le hl hb.size, fun j x hj => (hb.cell (by exact hl)).trans (hx j x hj)⟩
theorem c_last (s : ByteArray) (hs : s.size ≤ 4000) (w : World) : Calls Tryz.prog 33 #[.string s, .int .u8 58] w fun e w' => e = .returned (.int .i64 (((headW s.data.toList).length : Int) - 1)) ∧ Below w.heap.size w w' :=
  (Tryz.strings_LastIndexByte s 58 (by omega) w).mono fun e w' ⟨he, hw⟩ => ⟨by rw [he, last_index], by subst hw; exact Below.refl _ _⟩
theorem c_split (c : UInt8) (s : ByteArray) (hs : s.size ≤ 4000) (w : World) (hw : Env5 w) :
    Calls Tryz.prog 49 #[.string s, .string ⟨#[c]⟩] w fun e w' => (∃ v xs, e = .returned v ∧ Strs w' v xs ∧ xs.map (·.data.toList) = words c s.data.toList) ∧ Below w.heap.size w w' := by
  obtain ⟨_, ⟨m, hm⟩, _⟩ := hw
  refine (Tryz.strings_Split s ⟨#[c]⟩ m w (by omega) hm (show 1 ≤ 1 by decide)).mono ?_
  rintro e w' ⟨rfl, rfl⟩
  have hl : (Lib.splitB ⟨#[c]⟩ 0 (Lib.countB s ⟨#[c]⟩) s).length = Lib.countB s ⟨#[c]⟩ + 1 := Lib.splitB_all ⟨#[c]⟩ (show 1 ≤ 1 by decide) 0 _ s rfl
  refine ⟨⟨_, Lib.splitB ⟨#[c]⟩ 0 (Lib.countB s ⟨#[c]⟩) s, rfl, ⟨w.heap.size, 0, _, by rw [hl], by rw [hl]; exact Nat.le_refl _, by simp, fun j x hj => ?_⟩, ?_⟩, below_alloc _ _⟩
  · rw [World.cell?_alloc_new]
    simp [hj]
  · rw [Lib.splitB_data]
    exact split_words c _ _ (Nat.le_refl _)
def cutV (l : List UInt8) : Value := match cut2 l with
  | none => .tuple #[.string (str l), .string (str []), .bool false]
  | some p => .tuple #[.string (str p.1), .string (str p.2), .bool true]
theorem c_cut (s : ByteArray) (hs : s.size ≤ 4000) (w : World) (hw : Env5 w) :
    Calls Tryz.prog 50 #[.string s, .string ⟨#[58, 58]⟩] w fun e w' => e = .returned (cutV s.data.toList) ∧ Below w.heap.size w w' := by
  obtain ⟨_, ⟨m, hm⟩, _⟩ := hw
  refine (Tryz.strings_Cut s ⟨#[58, 58]⟩ m w (by omega) hm).mono ?_
  rintro e w' ⟨rfl, n, rfl⟩
  refine ⟨?_, below_drewN (Below.refl _ _) _⟩
  rw [show (⟨#[58, 58]⟩ : ByteArray).data.toList = [58, 58] from rfl, cut_cut2]
  unfold cutV
  cases cut2 s.data.toList <;> rfl
theorem c_join (c : UInt8) {v : Value} {xs : List ByteArray} (w : World) (h : Strs w v xs) (hl : (joinC c (xs.map (·.data.toList))).length ≤ 4000) (hn : xs.length ≤ 4000) :
    Calls Tryz.prog 46 #[v, .string ⟨#[c]⟩] w fun e w' => e = .returned (.string (str (joinC c (xs.map (·.data.toList))))) ∧ Below w.heap.size w w' := by
  obtain ⟨b, o, cap, rfl, hc, hb, hx⟩ := h
  have k := join_joinC c (xs.map (·.data.toList))
  refine (Tryz.strings_Join b o cap xs ⟨#[c]⟩ w hx hb (by omega) hc (by show (Lib.join _ [c]).length ≤ _; rw [k]; omega)).mono ?_
  rintro e w' ⟨rfl, hb⟩
  exact ⟨by unfold str; rw [← k], hb⟩
theorem c_trimP (c : UInt8) (s : ByteArray) (w : World) : Calls Tryz.prog 36 #[.string s, .string ⟨#[c]⟩] w fun e w' => e = .returned (.string (str (Lib.trimPrefix s.data.toList [c]))) ∧ Below w.heap.size w w' :=
  (Tryz.strings_TrimPrefix s ⟨#[c]⟩ w).mono fun e w' ⟨he, hw⟩ => ⟨he, by subst hw; exact Below.refl _ _⟩
theorem c_trimS (c : UInt8) (s : ByteArray) (hs : s.size ≤ 4000) (w : World) : Calls Tryz.prog 35 #[.string s, .string ⟨#[c]⟩] w fun e w' => e = .returned (.string (str (Lib.trimSuffix s.data.toList [c]))) ∧ Below w.heap.size w w' :=
  (Tryz.strings_TrimSuffix s ⟨#[c]⟩ w (by omega)).mono fun e w' ⟨he, hw⟩ => ⟨he, by subst hw; exact Below.refl _ _⟩
end Go.Proofs.YthghanidabmfgaaGreatDoor
