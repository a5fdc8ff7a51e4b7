/-
  Plain lemmas: an address as the document reads it, part by part.
  Slices of bytes in a slice: what the document's reading of an address keeps.
-/
import Derived.Test.YthghanidabmfgaaGreatDoorLong5
import Derived.Test.YthghanidabmfgaaGreatDoorAddrs2
import Derived.Test.YthghanidabmfgaaGreatDoorRHex5
namespace Go.Proofs.YthghanidabmfgaaGreatDoor
open Go.Lib
theorem g2b_append (x y : List Nat) : g2b (x ++ y) = g2b x ++ g2b y := by
  induction x with
  | nil => rfl
  | cons n r ih => simp [g2b, ih]
theorem g2b_one (n : Nat) : g2b [n] = [((n / 256 : Nat) : Int), ((n % 256 : Nat) : Int)] := rfl
theorem g2b_pair {b : List Int} (hl : b.length = 4) (hb : ∀ n ∈ b, Byte n) : g2b (pair b) = b := by
  match b, hl with
  | [a, b, c, d], _ =>
    have ha := hb a (by simp)
    have hb' := hb b (by simp)
    have hc := hb c (by simp)
    have hd := hb d (by simp)
    unfold Byte at *
    simp only [pair, g2b]
    congr 1
    · omega
    congr 1
    · omega
    congr 1
    · omega
    congr 1
    omega
/-- A part's bytes: the last one's may end in an IPv4 address. -/
def partG (last : Bool) (x : List UInt8) : Option (List Nat) := if x = [] then some [] else if last then tailG (words 58 x) else optAll hexO (words 58 x)
/-- What is read of a part's first words. -/
def Done (last : Bool) (ws : List (List UInt8)) (i : Nat) (gs : List Nat) : Prop := if last = true ∧ i = ws.length then tailG ws = some gs else optAll hexO (ws.take i) = some gs
theorem Done.start {last : Bool} {ws : List (List UInt8)} (h : ws ≠ []) : Done last ws 0 [] := by
  unfold Done
  rw [if_neg (by rintro ⟨_, e⟩; exact h (List.length_eq_zero_iff.1 e.symm))]
  rfl
theorem Done.fin {last : Bool} {ws : List (List UInt8)} {gs : List Nat} (h : Done last ws ws.length gs) : (if last then tailG ws else optAll hexO ws) = some gs := by
  unfold Done at h
  cases last
  · rw [if_neg (by simp)] at h
    rw [List.take_length] at h
    simpa using h
  · rw [if_pos ⟨rfl, rfl⟩] at h
    simpa using h
theorem Done.before {last : Bool} {ws : List (List UInt8)} {i : Nat} {gs : List Nat} (h : Done last ws i gs) (hi : i < ws.length) : optAll hexO (ws.take i) = some gs := by
  unfold Done at h
  rwa [if_neg (by omega)] at h
theorem split_last {ws : List (List UInt8)} {i : Nat} {x : List UInt8} (hx : ws[i]? = some x) (hi : i + 1 = ws.length) : ws = ws.take i ++ [x] := by
  have lt := (List.getElem?_eq_some_iff.1 hx).1
  conv => lhs; rw [← List.take_length (l := ws), ← hi, List.take_succ_eq_append_getElem lt, (List.getElem?_eq_some_iff.1 hx).2]
theorem Done.dots {ws : List (List UInt8)} {i : Nat} {gs : List Nat} {x : List UInt8} {b : List Int} (h : Done true ws i gs) (hx : ws[i]? = some x) (hi : i + 1 = ws.length) (hb : p4 x = some b) : Done true ws (i + 1) (gs ++ pair b) := by
  have h1 := h.before (by omega)
  unfold Done
  rw [if_pos ⟨rfl, hi⟩, split_last hx hi, tail_dots hb, h1]
theorem take_hex {ws : List (List UInt8)} {i : Nat} {gs : List Nat} {x : List UInt8} {n : Nat} (h1 : optAll hexO (ws.take i) = some gs) (hx : ws[i]? = some x) (hn : hexO x = some n) : optAll hexO (ws.take (i + 1)) = some (gs ++ [n]) := by
  have lt := (List.getElem?_eq_some_iff.1 hx).1
  rw [List.take_succ_eq_append_getElem lt, (List.getElem?_eq_some_iff.1 hx).2, optAll_append, h1]
  simp [optAll, hn]
theorem Done.hex {last : Bool} {ws : List (List UInt8)} {i : Nat} {gs : List Nat} {x : List UInt8} {n : Nat} (h : Done last ws i gs) (hx : ws[i]? = some x) (hn : hexO x = some n) (h4 : last = true → i + 1 = ws.length → p4 x = none) : Done last ws (i + 1) (gs ++ [n]) := by
  have lt := (List.getElem?_eq_some_iff.1 hx).1
  have h1 := h.before lt
  have h2 := take_hex h1 hx hn
  unfold Done
  split
  · rename_i c
    rw [tail_plain, ← h2, c.2, List.take_length]
    intro w hw
    rw [split_last hx c.2] at hw
    simp at hw
    rw [← hw]
    exact h4 c.1 c.2
  · exact h2
theorem Done.bad {last : Bool} {ws : List (List UInt8)} {i : Nat} {x : List UInt8} (hx : ws[i]? = some x) (hn : hexO x = none) (h4 : last = true → i + 1 = ws.length → p4 x = none) : (if last then tailG ws else optAll hexO ws) = none := by
  have m := List.mem_of_getElem? hx
  have lt := (List.getElem?_eq_some_iff.1 hx).1
  cases last
  · exact optAll_none m hn
  · show tailG ws = none
    cases hl : ws.getLast? with
    | none => rw [List.getLast?_eq_none_iff.1 hl] at m; cases m
    | some w =>
      cases hp : p4 w with
      | none =>
        rw [tail_plain fun v hv => by rw [hl] at hv; rw [← Option.some.inj hv]; exact hp]
        exact optAll_none m hn
      | some b =>
        have e : ws = ws.dropLast ++ [w] := by
          have hne : ws ≠ [] := by rintro rfl; cases m
          have := List.dropLast_concat_getLast hne
          rw [List.getLast?_eq_some_getLast hne] at hl
          rw [Option.some.inj hl] at this
          exact this.symm
        have hi : i + 1 ≠ ws.length := fun hi => by
          have := h4 rfl hi
          have e2 : ws.getLast? = some x := by rw [split_last hx hi]; simp
          rw [hl] at e2
          rw [Option.some.inj e2, this] at hp
          cases hp
        rw [e, tail_dots hp, optAll_none (a := x) ?_ hn]
        rw [e] at hx
        rw [List.getElem?_append_left (by rw [List.length_dropLast]; omega)] at hx
        exact List.mem_of_getElem? hx
theorem partG_some {last : Bool} {x : List UInt8} {gs : List Nat} (h : x ≠ []) (hd : Done last (words 58 x) (words 58 x).length gs) : partG last x = some gs := by
  unfold partG
  rw [if_neg h]
  exact hd.fin
theorem partG_none {last : Bool} {l x : List UInt8} {i : Nat} (h : l ≠ []) (hx : (words 58 l)[i]? = some x) (hn : hexO x = none) (h4 : last = true → i + 1 = (words 58 l).length → p4 x = none) : partG last l = none := by
  unfold partG
  rw [if_neg h]
  exact Done.bad hx hn h4
theorem partG_lt {last : Bool} {x : List UInt8} {gs : List Nat} (h : partG last x = some gs) : x.length < 5000 → gs.length ≤ x.length + 2 := by
  intro _
  unfold partG at h
  split at h
  · cases h; exact Nat.zero_le _
  · split at h
    · have wl := words_count 58 x
      have c := List.count_le_length (a := (58 : UInt8)) (l := x)
      obtain ⟨us, w, e⟩ := last_cases (words 58 x) (words_ne 58 x)
      cases hp : p4 w with
      | some b =>
        rw [e, tail_dots hp] at h
        cases ho : optAll hexO us with
        | none => rw [ho] at h; cases h
        | some y =>
          rw [ho] at h
          have hl := optAll_length ho
          have e3 := congrArg List.length e
          obtain rfl := Option.some.inj h
          have p := pair_len (p4_some hp).1
          simp at e3 ⊢
          omega
      | none =>
        rw [tail_plain (by rw [e]; intro v hv; simp at hv; rw [← hv]; exact hp)] at h
        have := optAll_length h
        omega
    · have wl := words_count 58 x
      have c := List.count_le_length (a := (58 : UInt8)) (l := x)
      have := optAll_length h
      omega
/-! ### The whole -/
/-- The parts of a text: one, or two. -/
def Parts (l : List UInt8) (c : Int) (P : List (List UInt8)) : Prop := (c = -1 ∧ cut2 l = none ∧ P = [l]) ∨ (0 ≤ c ∧ ∃ f b, cut2 l = some (f, b) ∧ P = [f, b])
theorem parts_none {l : List UInt8} {c : Int} {P : List (List UInt8)} (h : Parts l c P) (h4 : p4 l = none) {k : Nat} {x : List UInt8} (hx : P[k]? = some x) (hn : partG (k + 1 == P.length) x = none) : parseA l = none := by
  unfold parseA
  rw [h4, q6_p6 h4]
  unfold p6
  rcases h with ⟨_, e, rfl⟩ | ⟨_, f, b, e, rfl⟩
  · rw [e]
    match k, hx with
    | 0, hx =>
      obtain rfl := Option.some.inj hx
      unfold partG at hn
      split at hn
      · cases hn
      · have hn : tailG (words 58 l) = none := hn
        rw [hn]; rfl
  · rw [e]
    match k, hx with
    | 0, hx =>
      obtain rfl := Option.some.inj hx
      have : unl f = none := by
        unfold partG at hn
        unfold unl
        split at hn
        · cases hn
        · rename_i c; rw [if_neg c]; exact hn
      dsimp only
      rw [this]; rfl
    | 1, hx =>
      obtain rfl := Option.some.inj hx
      have : (if b = [] then some [] else tailG (words 58 b)) = none := by
        unfold partG at hn
        split at hn
        · cases hn
        · rename_i c; rw [if_neg c]; exact hn
      dsimp only
      rw [this]
      cases unl f <;> rfl
theorem parse_one {l : List UInt8} {gs : List Nat} (h4 : p4 l = none) (hc : cut2 l = none) (h : partG true l = some gs) : parseA l = if 2 * gs.length = 16 then some (true, g2b gs) else none := by
  unfold parseA
  rw [h4, q6_p6 h4]
  unfold p6
  rw [hc]
  unfold partG at h
  by_cases h0 : l = []
  · subst h0
    rw [if_pos rfl] at h
    obtain rfl := Option.some.inj h
    rfl
  · rw [if_neg h0] at h
    have h : tailG (words 58 l) = some gs := h
    dsimp only
    rw [h]
    dsimp only
    by_cases c : gs.length = 8
    · rw [if_pos c, if_pos (by omega)]; rfl
    · rw [if_neg c, if_neg (by omega)]; rfl
theorem g2b_zeros (k : Nat) : g2b (List.replicate k 0) = List.replicate (2 * k) 0 := by
  induction k with
  | zero => rfl
  | succ k ih => rw [List.replicate_succ, show 2 * (k + 1) = 2 * k + 1 + 1 by omega, List.replicate_succ, List.replicate_succ, g2b, ih]; rfl
theorem parse_two {l f b : List UInt8} {x y : List Nat} (h4 : p4 l = none) (hc : cut2 l = some (f, b)) (hx : partG false f = some x) (hy : partG true b = some y) :
    parseA l = if 2 * x.length + 2 * y.length ≤ 14 then some (true, g2b x ++ (List.replicate (16 - (g2b x).length - (g2b y).length) 0 ++ g2b y)) else none := by
  unfold parseA
  rw [h4, q6_p6 h4]
  unfold p6
  rw [hc]
  have e1 : unl f = some x := by
    unfold partG at hx
    unfold unl
    exact hx
  have e2 : (if b = [] then some [] else tailG (words 58 b)) = some y := by
    unfold partG at hy
    exact hy
  dsimp only
  rw [e1, e2]
  dsimp only
  by_cases c : x.length + y.length ≤ 7
  · rw [if_pos c, if_pos (by omega)]
    dsimp only [Option.map]
    unfold fill8
    rw [g2b_append, g2b_append, g2b_zeros, g2b_length, g2b_length, show 2 * (8 - x.length - y.length) = 16 - 2 * x.length - 2 * y.length by omega]
  · rw [if_neg c, if_neg (by omega)]; rfl
/-! ### The two colons -/
def CutI (l : List UInt8) (k : Nat) : Prop := cut2 l = (cut2 (l.drop k)).map fun p => (l.take k ++ p.1, p.2)
theorem CutI.start (l : List UInt8) : CutI l 0 := by
  unfold CutI
  rw [List.drop_zero]
  cases cut2 l <;> simp
theorem drop_two {l : List UInt8} {k : Nat} (h : k + 1 < l.length) : l.drop k = l[k] :: l[k + 1] :: l.drop (k + 2) := by
  rw [List.drop_eq_getElem_cons (by omega), List.drop_eq_getElem_cons h]
theorem CutI.hit {l : List UInt8} {k : Nat} (h : CutI l k) (hk : k + 1 < l.length) (h1 : l[k] = 58) (h2 : l[k + 1] = 58) : cut2 l = some (l.take k, l.drop (k + 2)) := by
  unfold CutI at h
  rw [h, drop_two hk, h1, h2, cut2_hit]
  simp
theorem CutI.miss {l : List UInt8} {k : Nat} (h : CutI l k) (hk : k + 1 < l.length) (h1 : ¬ (l[k] = 58 ∧ l[k + 1] = 58)) : CutI l (k + 1) := by
  unfold CutI at *
  rw [h, drop_two hk, cut2_miss h1, List.drop_eq_getElem_cons hk]
  have e : ∀ x : List UInt8, l.take k ++ l[k] :: x = l.take (k + 1) ++ x := fun x => by rw [List.take_succ_eq_append_getElem (by omega), List.append_assoc]; rfl
  cases cut2 (l[k + 1] :: l.drop (k + 2)) with
  | none => rfl
  | some p => exact congrArg some (Prod.ext (e p.1) rfl)
theorem CutI.fin {l : List UInt8} {k : Nat} (h : CutI l k) (hk : ¬ k + 1 < l.length) : cut2 l = none := by
  unfold CutI at h
  have : cut2 (l.drop k) = none := by
    cases e : l.drop k with
    | nil => rfl
    | cons x r =>
      have := congrArg List.length e
      rw [List.length_drop, List.length_cons] at this
      obtain rfl : r = [] := List.length_eq_zero_iff.1 (by omega)
      rfl
  rw [h, this]; rfl
/-! ### Bytes are filled in -/
def mix (B C : List Int) (k : Nat) : List Int := C.take k ++ B.drop k
theorem mix_zero (B C : List Int) : mix B C 0 = B := by simp [mix]
theorem mix_length {B C : List Int} {n k : Nat} (hB : B.length = n) (hC : C.length = n) (hk : k ≤ n) : (mix B C k).length = n := by simp [mix, hB, hC]; omega
theorem mix_put {B C : List Int} {n k : Nat} {x : Int} (hB : B.length = n) (hC : C.length = n) (hx : C[k]? = some x) : (mix B C k).set k x = mix B C (k + 1) := by
  have lt := (List.getElem?_eq_some_iff.1 hx).1
  unfold mix
  have hl : (C.take k).length = k := by rw [List.length_take]; omega
  rw [List.set_append, if_neg (by omega), hl, Nat.sub_self, List.drop_eq_getElem_cons (show k < B.length by omega), List.set_cons_zero, List.take_succ_eq_append_getElem lt, (List.getElem?_eq_some_iff.1 hx).2]
  simp
theorem mix_all {B C : List Int} {n : Nat} (hB : B.length = n) (hC : C.length = n) : mix B C n = C := by
  unfold mix
  rw [List.take_of_length_le (by omega), List.drop_of_length_le (by omega), List.append_nil]
/-- The first part is filled into noughts: the others stay. -/
theorem mix_front (x : List Int) : mix (List.replicate 16 0) (x ++ List.replicate (16 - x.length) 0) x.length = x ++ List.replicate (16 - x.length) 0 := by
  unfold mix
  rw [List.take_left, List.drop_replicate]
theorem mix_back {x y : List Int} (h : x.length + y.length ≤ 16) : mix (x ++ List.replicate (16 - x.length) 0) (x ++ (List.replicate (16 - x.length - y.length) 0 ++ y)) (16 - y.length) = x ++ List.replicate (16 - x.length) 0 := by
  unfold mix
  rw [← List.append_assoc, List.take_left' (by simp; omega), List.drop_append, List.drop_of_length_le (by omega), List.nil_append, List.drop_replicate, List.append_assoc, List.replicate_append_replicate]
  congr 2
  omega
end Go.Proofs.YthghanidabmfgaaGreatDoor
namespace Go.Proofs.YthghanidabmfgaaGreatDoor
open Go.RowKit Go.Sort
set_option maxRecDepth 8000
theorem RowV.weak {B B' : Nat} {w : World} {v : Value} {vs : List Value} (h : RowV B w v vs) (hb : B' ≤ B) : RowV B' w v vs := by
  obtain ⟨a, c, e, hc, h⟩ := h
  refine ⟨a, c, e, hc, h.imp id ?_⟩
  rintro ⟨g, ea, hB, hl, hx⟩
  exact ⟨g, ea, Nat.le_trans hb hB, hl, hx⟩
theorem RowV.grown {B : Nat} {w w' : World} {v : Value} {vs : List Value} {row : Option Nat} (h : RowV B w v vs) (hg : w.grownBy w' row) (hne : ∀ g, v.ownBlock = some g → row ≠ some g) : RowV B w' v vs := by
  obtain ⟨a, c, e, hc, h⟩ := h
  refine ⟨a, c, e, hc, h.imp id ?_⟩
  rintro ⟨g, rfl, hB, hl, hx⟩
  have hs := hg.size
  have hb := hg.block g hl (fun q => hne g (by rw [e]; rfl) q.symm)
  exact ⟨g, rfl, hB, by omega, fun j x hj => (World.cell?_of_block (a := ⟨g, j, none⟩) hb).trans (hx j x hj)⟩
/-- A slice of slices of bytes; each lies apart. -/
def AllP (w0 wr : World) (os : List (List Int)) (vs : List Value) (v : Value) : Prop := vs.length = os.length ∧ Own w0 wr 33 vs v ∧
  ∀ (j : Nat) (u : Value) (b : List Int), vs[j]? = some u → os[j]? = some b → RowV w0.heap.size wr u (ints .u8 b) ∧ ∀ g, u.ownBlock = some g → g < wr.heap.size ∧ v.ownBlock ≠ some g
theorem AllP.on {w0 w1 w2 : World} {os : List (List Int)} {vs : List Value} {v : Value} (h : AllP w0 w1 os vs v) (hb : Below w1.heap.size w1 w2) : AllP w0 w2 os vs v :=
  ⟨h.1, h.2.1.on hb, fun j u b h1 h2 => ⟨(h.2.2 j u b h1 h2).1.on hb, fun g hg => ⟨Nat.lt_of_lt_of_le ((h.2.2 j u b h1 h2).2 g hg).1 hb.size, ((h.2.2 j u b h1 h2).2 g hg).2⟩⟩⟩
theorem AllP.nil (w : World) : AllP w w [] [] (.slice none 0 0) := ⟨rfl, Own.nil _ _, fun j u b h => by simp at h⟩
theorem AllP.add {w0 wk wr W w' : World} {os : List (List Int)} {vs : List Value} {v v' u : Value} {b : List Int} (h : AllP w0 wk os vs v) (ho : Own wk wr 5 (ints .u8 b) u) (hW : Below wr.heap.size wr W)
    (hO : Own w0 w' 33 (vs ++ [u]) v') (hg : W.grownBy w' v.ownBlock) (hat : v'.ownBlock = v.ownBlock ∨ v'.ownBlock = some W.heap.size) : AllP w0 w' (os ++ [b]) (vs ++ [u]) v' := by
  have s1 := ho.2.size
  have s2 := hW.size
  have s3 := hg.size
  have s0 := h.2.1.2.size
  refine ⟨by simp [h.1], hO, fun j x c h1 h2 => ?_⟩
  by_cases hj : j < vs.length
  · rw [List.getElem?_append_left hj] at h1
    rw [List.getElem?_append_left (by rw [← h.1]; exact hj)] at h2
    obtain ⟨r1, r2⟩ := h.2.2 j x c h1 h2
    refine ⟨((r1.on ho.2).on hW).grown hg fun g hx => (r2 g hx).2, fun g hx => ⟨?_, ?_⟩⟩
    · have := (r2 g hx).1; omega
    · rcases hat with e | e
      · rw [e]; exact (r2 g hx).2
      · rw [e]; intro q
        have := (r2 g hx).1
        have := Option.some.inj q
        omega
  · have lt := (List.getElem?_eq_some_iff.1 h1).1
    rw [List.length_append, List.length_singleton] at lt
    obtain rfl : j = vs.length := by omega
    rw [List.getElem?_append_right (Nat.le_refl _), Nat.sub_self] at h1
    rw [h.1, List.getElem?_append_right (Nat.le_refl _), Nat.sub_self] at h2
    obtain rfl : u = x := by simpa using h1
    obtain rfl : b = c := by simpa using h2
    have vb : ∀ g, u.ownBlock = some g → v.ownBlock ≠ some g := fun g hx q => by
      have := (ho.1.lt g hx).1
      have := (h.2.1.1.lt g q).2
      omega
    refine ⟨((ho.row.weak s0).on hW).grown hg vb, fun g hx => ⟨?_, ?_⟩⟩
    · have := (ho.1.lt g hx).2; omega
    · rcases hat with e | e
      · rw [e]; exact vb g hx
      · rw [e]; intro q
        have := (ho.1.lt g hx).2
        have := Option.some.inj q
        omega
theorem info_bytes : (Tryz.prog.info? 33).map (fun i => (i.zero, i.size, i.bytes)) = some (some (.slice none 0 0), 1, 24) := by kernel_rfl
/-- What has been read of the parts. -/
def Read (P : List (List UInt8)) (k : Nat) (gs : List (List Nat)) : Prop := gs.length = k ∧ ∀ j x, j < k → P[j]? = some x → ∃ g, gs[j]? = some g ∧ partG (j + 1 == P.length) x = some g
theorem Read.add {P : List (List UInt8)} {k : Nat} {gs : List (List Nat)} {x : List UInt8} {g : List Nat} (h : Read P k gs) (hx : P[k]? = some x) (hg : partG (k + 1 == P.length) x = some g) : Read P (k + 1) (gs ++ [g]) := by
  refine ⟨by simp [h.1], fun j y hj hy => ?_⟩
  by_cases hk : j < k
  · obtain ⟨z, h1, h2⟩ := h.2 j y hk hy
    exact ⟨z, by rw [List.getElem?_append_left (by rw [h.1]; exact hk)]; exact h1, h2⟩
  · obtain rfl : j = k := by omega
    rw [hx] at hy
    obtain rfl := Option.some.inj hy
    exact ⟨g, by rw [List.getElem?_append_right (by rw [h.1]; exact Nat.le_refl _), h.1, Nat.sub_self]; rfl, hg⟩
def many (gs : List (List Nat)) : Nat := (gs.map fun g => 2 * g.length).sum
theorem many_add (gs : List (List Nat)) (g : List Nat) : many (gs ++ [g]) = many gs + 2 * g.length := by simp [many]
/-- What the whole is, when all parts are read. -/
theorem read_end {l : List UInt8} {c : Int} {P : List (List UInt8)} {gs : List (List Nat)} (h : Parts l c P) (h4 : p4 l = none) (hr : Read P P.length gs) :
    ((c < 0 ∧ many gs ≠ 16 ∨ 0 ≤ c ∧ 14 < many gs) ∧ parseA l = none) ∨
    (¬ (c < 0 ∧ many gs ≠ 16 ∨ 0 ≤ c ∧ 14 < many gs) ∧ ∃ x y, gs[0]? = some x ∧ gs[gs.length - 1]? = some y ∧ 1 ≤ gs.length ∧ (g2b x).length ≤ 16 ∧ (g2b y).length ≤ 16 ∧
      parseA l = some (true, (g2b x ++ List.replicate (16 - (g2b x).length) 0).take (16 - (g2b y).length) ++ g2b y)) := by
  rcases h with ⟨rfl, hc, rfl⟩ | ⟨h0, f, b, hc, rfl⟩
  · obtain ⟨x, e1, hx⟩ := hr.2 0 l (by simp) rfl
    obtain ⟨z, rfl⟩ : ∃ z, gs = [z] := by
      match gs, hr.1 with
      | [z], _ => exact ⟨z, rfl⟩
    obtain rfl : z = x := by simpa using e1
    have hp := parse_one h4 hc hx
    have hm : many [z] = 2 * z.length := by simp [many]
    by_cases c : 2 * z.length = 16
    · right
      rw [if_pos c] at hp
      refine ⟨by omega, z, z, rfl, rfl, by simp, by rw [g2b_length]; omega, by rw [g2b_length]; omega, ?_⟩
      rw [hp, g2b_length, c]
      simp
    · left
      rw [if_neg c] at hp
      exact ⟨Or.inl ⟨by omega, by omega⟩, hp⟩
  · obtain ⟨x, e1, hx⟩ := hr.2 0 f (by simp) rfl
    obtain ⟨y, e2, hy⟩ := hr.2 1 b (by simp) rfl
    obtain ⟨z, u, rfl⟩ : ∃ z u, gs = [z, u] := by
      match gs, hr.1 with
      | [z, u], _ => exact ⟨z, u, rfl⟩
    obtain rfl : z = x := by simpa using e1
    obtain rfl : u = y := by simpa using e2
    have hp := parse_two h4 hc hx hy
    have hm : many [z, u] = 2 * z.length + 2 * u.length := by simp [many]
    by_cases c : 2 * z.length + 2 * u.length ≤ 14
    · right
      rw [if_pos c] at hp
      refine ⟨by omega, z, u, rfl, rfl, by simp, by rw [g2b_length]; omega, by rw [g2b_length]; omega, ?_⟩
      rw [hp]
      congr 2
      have lz := g2b_length z
      have lu := g2b_length u
      rw [List.take_append, List.take_of_length_le (by omega), List.take_replicate, List.append_assoc]
      congr 3
      omega
    · left
      rw [if_neg c] at hp
      exact ⟨Or.inr ⟨h0, by omega⟩, hp⟩
end Go.Proofs.YthghanidabmfgaaGreatDoor
