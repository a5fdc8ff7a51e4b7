/-
  The document's reading of a text: Unnum, Ends (horologeref04).
-/
import Derived.Test.YtednmodeoofbgaaDoorRNum
import Derived.Test.YtednmodeoofbgaaDoorUndec2
namespace Go.Proofs.YtednmodeoofbgaaDoor
open Go.RowKit Go.Sort
set_option maxRecDepth 8000
theorem horner_take (s : ByteArray) (f p : Nat) (hf : f ≤ p) (h : p < s.size) : horner ((s.data.toList.take (p + 1)).drop f) = 10 * horner ((s.data.toList.take p).drop f) + (s[p].toNat - 48) := by
  rw [take_byte s p h, List.drop_append_of_le_length (by rw [List.length_take, len_list]; omega), horner_append]
theorem horner_lt (n : Nat) : ∀ l : List UInt8, l.length = n → (∀ c ∈ l, c.toNat ≤ 57) → horner l < 10 ^ n := by
  induction n with
  | zero => intro l hl _; obtain rfl := List.length_eq_zero_iff.1 hl; simp [horner]
  | succ n ih =>
    intro l hl h
    have hne : l ≠ [] := by rintro rfl; cases hl
    have e := List.dropLast_concat_getLast hne
    have h1 := ih l.dropLast (by rw [List.length_dropLast]; omega) fun c hc => h c (List.dropLast_subset l hc)
    have h2 := h (l.getLast hne) (List.getLast_mem hne)
    rw [← e, horner_append, Nat.pow_succ]
    omega
/-- Where the digits begin. -/
def fromN (l : List UInt8) : Nat := if minus l then 1 else 0
theorem drop_from (l : List UInt8) : l.drop (fromN l) = bare l := by
  unfold fromN minus bare
  split <;> simp
theorem num?_bad {lo hi : Int} {l : List UInt8} {c : UInt8} (hc : c ∈ bare l) (h : c.toNat < 48 ∨ 57 < c.toNat) : num? lo hi l = none :=
  num?_of_not fun n hn e => by
    rw [← e, bare_itoa] at hc
    have := dec_all _ c hc
    omega
theorem num?_nought {lo hi : Int} {l : List UInt8} (h : bare l = []) : num? lo hi l = none :=
  num?_of_not fun n hn e => by rw [← e, bare_itoa] at h; exact dec_ne _ h
theorem num?_long {lo hi : Int} (h0 : -170141183460469231731687303715884105728 ≤ lo) (h1 : hi ≤ 170141183460469231731687303715884105727) {l : List UInt8} (h : 60 < l.length) : num? lo hi l = none :=
  num?_of_not fun n hn e => by have := itoa_length_le (n := n) (by omega); rw [e] at this; omega
/-- What the call answers: a number, and whether it is the text's. -/
def UnnumOut (lo hi : Int) (l : List UInt8) (v : Value) : Prop := ∃ (b : Bool) (m : Int), Sz m ∧ v = .tuple #[numV b m, .bool (num? lo hi l).isSome] ∧ ∀ n, num? lo hi l = some n → vz b m = n
theorem UnnumOut.none {lo hi : Int} {l : List UInt8} (h : num? lo hi l = none) {b : Bool} {m : Int} (hm : Sz m) : UnnumOut lo hi l (.tuple #[numV b m, .bool false]) := ⟨b, m, hm, by rw [h]; rfl, fun n hn => by rw [h] at hn; cases hn⟩
theorem UnnumOut.whole {lo hi : Int} {l : List UInt8} {m : Int} (hm : Sz m) (he : m = horner (bare l)) : UnnumOut lo hi l (.tuple #[numV (minus l) m, .bool (decide (Lib.itoa (vz (minus l) m) = l ∧ lo ≤ vz (minus l) m ∧ vz (minus l) m ≤ hi))]) := by
  have e : vz (minus l) m = cand l := by unfold vz cand; rw [he]
  refine ⟨minus l, m, hm, ?_, ?_⟩
  · rw [e]
    unfold num?
    congr 3
    by_cases c : Lib.itoa (cand l) = l ∧ lo ≤ cand l ∧ cand l ≤ hi
    · rw [if_pos c, decide_eq_true c]; rfl
    · rw [if_neg c, decide_eq_false c]; rfl
  · intro n hn
    unfold num? at hn
    split at hn
    · rw [e]; exact Option.some.inj hn
    · cases hn
/-- What is carried from round to round. -/
def Unn (w wr : World) (bl bh b : Bool) (ml mh : Int) (H : Int) : Prop :=
  NumAt wr w.heap.size bl (dig ml) ∧ NumAt wr (w.heap.size + 1) bh (dig mh) ∧ NumAt wr (w.heap.size + 1 + 1) false (dig 0) ∧ NumAt wr (w.heap.size + 1 + 1 + 1) b (dig H) ∧ Below w.heap.size w wr
theorem Unn.on {w w1 w2 : World} {bl bh b : Bool} {ml mh H : Int} (h : Unn w w1 bl bh b ml mh H) (hb : Below w1.heap.size w1 w2) : Unn w w2 bl bh b ml mh H :=
  ⟨h.1.on hb, h.2.1.on hb, h.2.2.1.on hb, h.2.2.2.1.on hb, h.2.2.2.2.trans (hb.mono h.2.2.2.2.size)⟩
theorem horner_nil : horner [] = 0 := rfl
theorem minus_at (s : ByteArray) : (∀ h : 0 < s.size, (((s[0]'h).toNat : Int) == 45) = minus s.data.toList) ∧ (¬ 0 < s.size → minus s.data.toList = false) := by
  constructor
  · intro h
    have e : s.data.toList = s[0] :: s.data.toList.tail := by
      have : s.data.toList ≠ [] := by intro e; have := len_list s; rw [e] at this; simp at this; omega
      rw [← List.cons_head_tail this]
      congr 1
      rw [List.head_eq_getElem]; rfl
    rw [e]
    unfold minus
    generalize s[0] = c
    split
    · rename_i g; rw [(List.cons.inj g).1]; rfl
    · rename_i g
      have : c ≠ 45 := fun e => g _ (by rw [e])
      have : c.toNat ≠ 45 := fun e => this (UInt8.toNat_inj.1 e)
      simp
      omega
  · intro h
    have : s.data.toList = [] := List.length_eq_zero_iff.1 (by rw [len_list]; omega)
    rw [this]; rfl
theorem from_bd (s : ByteArray) : fromN s.data.toList ≤ 1 ∧ fromN s.data.toList ≤ s.size ∧ (bare s.data.toList).length = s.size - fromN s.data.toList := by
  have e := drop_from s.data.toList
  have l : (s.data.toList.drop (fromN s.data.toList)).length = s.size - fromN s.data.toList := by rw [List.length_drop, len_list]
  rw [e] at l
  refine ⟨by unfold fromN; split <;> omega, ?_, l⟩
  unfold fromN
  split
  · rename_i h
    rcases Nat.lt_or_ge 0 s.size with g | g
    · exact g
    · rw [(minus_at s).2 (by omega)] at h; cases h
  · omega
theorem results_cell_tmp {P : Program} {fn : Func} {p q : Tmp} {ty : TypeId} (h : fn.results = #[.cell p ty, .tmp q]) (tmps : Array Value) (w : World) (g : Nat) (t : TypeId) (cs : Array Value) (fr : Nat × Nat) (d : TypeDesc) (v : Value)
    (hp : tmps.getD p undef = .pointer (some ⟨g, 0, none⟩)) (hq : tmps.getD q undef = v) (hg : w.heap[g]? = some (.cells cs t fr))
    (hu : P.underlying ty = some d) (hd : (match d with | .struct _ | .array _ _ => true | _ => false) = true) (hi : (P.info? ty).map (·.size) = some cs.size) :
    (results fn tmps).run P w = .ok (.tuple #[.agg cs, v]) w := by
  have hp' : tmps[p]?.getD undef = .pointer (some ⟨g, 0, none⟩) := by simpa using hp
  have hq' : tmps[q]?.getD undef = v := by simpa using hq
  simp [results, h, hp', hq', asAddr, run_loadVar_row w g t ty cs fr d hg hu hd hi]
/-- The digits so far make a number that fits. -/
theorem horner_fits (s : ByteArray) (f k : Nat) (hk : k ≤ s.size) (hs : s.size ≤ 60) (h : ∀ c ∈ (s.data.toList.take k).drop f, c.toNat ≤ 57) :
    (0 : Int) ≤ (horner ((s.data.toList.take k).drop f) : Nat) ∧ ((horner ((s.data.toList.take k).drop f) : Nat) : Int) < 10 ^ 60 := by
  refine ⟨by omega, ?_⟩
  have a := horner_lt _ _ rfl h
  have b : 10 ^ ((s.data.toList.take k).drop f).length ≤ 10 ^ 60 := Nat.pow_le_pow_right (by decide) (by rw [List.length_drop, List.length_take, len_list]; omega)
  have c : ((10 ^ 60 : Nat) : Int) = 10 ^ 60 := by decide
  omega
theorem unn_sz {H : Int} (h : 0 ≤ H ∧ H < 10 ^ 60) : Sz H := ⟨h.1, Int.lt_trans h.2 (by decide)⟩
theorem of_small (n : Int) (h : 0 ≤ n ∧ n ≤ 10) : Gives 10 #[.int .i64 n] (numV false n) :=
  (r_of n (by omega)).as rfl (by unfold numV pair0 absN; rw [if_neg (by omega), decide_eq_false (by omega)])
theorem mul_room {H : Int} (h : 0 ≤ H ∧ H < 10 ^ 60) : H * 10 < 65536 ^ 20 := by
  have e : (10 : Int) ^ 60 * 10 < 65536 ^ 20 := by decide
  omega
theorem add_room {H : Int} (h : 0 ≤ H ∧ H < 10 ^ 60) : 0 ≤ H * 10 ∧ H * 10 < 65536 ^ 19 := by
  have e : (10 : Int) ^ 60 * 10 < 65536 ^ 19 := by decide
  omega
theorem small_room {d : Int} (h : 0 ≤ d ∧ d ≤ 10) : 0 ≤ d ∧ d < 65536 ^ 19 := by
  have e : (100 : Int) < 65536 ^ 19 := by decide
  omega
def turnVal (s : ByteArray) (k : Nat) (h : k < s.size) (H : Int) (i _p : Nat) : Value :=
  match i with
  | 0 => numV false H
  | 1 => numV false 10
  | 2 => numV false (H * 10)
  | 3 => .string s
  | 4 => .int .i64 k
  | 5 => .int .u8 s[k].toNat
  | 6 => .int .i64 s[k].toNat
  | 7 => .int .i64 ((s[k].toNat : Int) - 48)
  | 8 => numV false ((s[k].toNat : Int) - 48)
  | 9 => numV false (H * 10 + ((s[k].toNat : Int) - 48))
  | _ => undef
def turnObj (H d : Int) (i : Nat) : Obj :=
  match i with
  | 10 => numO false (H * 10 + d)
  | _ => numO false H
def finVal (s t : ByteArray) (b bl bh : Bool) (m ml mh x1 x2 : Int) (g1 g2 : Bool) (i _p : Nat) : Value :=
  match i with
  | 0 => numV b m
  | 1 => numV b m
  | 2 => .string t
  | 3 => .string s
  | 4 => .bool g1
  | 5 => .bool g1
  | 6 => bif g1 then numV b m else undef
  | 7 => bif g1 then numV bl ml else undef
  | 8 => bif g1 then .int .i64 x1 else undef
  | 9 => bif g1 then .bool g2 else undef
  | 10 => .bool (g1 && g2)
  | 11 => .bool (g1 && g2)
  | 12 => bif g1 && g2 then numV b m else undef
  | 13 => bif g1 && g2 then numV bh mh else undef
  | 14 => bif g1 && g2 then .int .i64 x2 else undef
  | 15 => bif g1 && g2 then .bool (decide (x2 ≤ 0)) else undef
  | 16 => .bool (g1 && g2 && decide (x2 ≤ 0))
  | 18 => .bool (g1 && g2 && decide (x2 ≤ 0))
  | _ => undef
def finObj (b : Bool) (m : Int) (i : Nat) : Obj :=
  match i with
  | 17 => numO b m
  | _ => numO false 0
theorem from_one (s : ByteArray) : ((fromN s.data.toList : Int) == 1) = minus s.data.toList := by unfold fromN; cases minus s.data.toList <;> rfl
theorem sgn_leq (a b : Int) : decide (sgn a b ≤ 0) = decide (a ≤ b) := by unfold sgn; congr 1; apply propext; split <;> (try split) <;> omega
theorem sgn_geq (a b : Int) : decide (0 ≤ sgn a b) = decide (b ≤ a) := by unfold sgn; congr 1; apply propext; split <;> (try split) <;> omega
set_option maxHeartbeats 1000000 in
theorem r_unnum (s : ByteArray) (bl bh : Bool) (ml mh lo hi : Int) (hl : Sz ml) (hh : Sz mh) (el : vz bl ml = lo) (eh : vz bh mh = hi) (h0 : -170141183460469231731687303715884105728 ≤ lo) (h1 : hi ≤ 170141183460469231731687303715884105727) (w : World) (hg : Glob w) :
    Calls Tryd.prog 14 #[.string s, .agg (numC bl (dig ml)), .agg (numC bh (dig mh))] w fun e w' => (∃ v, e = .returned v ∧ UnnumOut lo hi s.data.toList v) ∧ Below w.heap.size w w' := by
  have G := Lib.hid hg
  have L := Lib.hid hl
  have Hh := Lib.hid hh
  have E := Lib.hid (show vz bl ml = lo ∧ vz bh mh = hi from ⟨el, eh⟩)
  have BD := Lib.hid (show _ ∧ _ from ⟨h0, h1⟩)
  clear hg hl hh el eh h0 h1
  go_enter Tryd.func14, Tryd.ntmps14
  go_upto_region 1 with fail
  rw [← numC_nought]
  have W : Hid (NumAt (((w.alloc (.cells (numC bl (dig ml)) 28)).alloc (.cells (numC bh (dig mh)) 28)).alloc (.cells (numC false (fun _ => 0)) 28)) w.heap.size bl (dig ml) ∧ NumAt (((w.alloc (.cells (numC bl (dig ml)) 28)).alloc (.cells (numC bh (dig mh)) 28)).alloc (.cells (numC false (fun _ => 0)) 28)) (w.heap.size + 1) bh (dig mh) ∧
      NumAt (((w.alloc (.cells (numC bl (dig ml)) 28)).alloc (.cells (numC bh (dig mh)) 28)).alloc (.cells (numC false (fun _ => 0)) 28)) (w.heap.size + 1 + 1) false (dig 0) ∧ Below w.heap.size w (((w.alloc (.cells (numC bl (dig ml)) 28)).alloc (.cells (numC bh (dig mh)) 28)).alloc (.cells (numC false (fun _ => 0)) 28)) ∧
      (((w.alloc (.cells (numC bl (dig ml)) 28)).alloc (.cells (numC bh (dig mh)) 28)).alloc (.cells (numC false (fun _ => 0)) 28)).heap.size = w.heap.size + 1 + 1 + 1) := Lib.hid (by
    refine ⟨((NumAt.new _ _ _ rfl).alloc _).alloc _, (NumAt.new _ _ _ (by simp)).alloc _, ?_, by (repeat (first | (with_reducible exact Below.refl _ _) | (with_reducible assumption) | (with_reducible refine Below.drew ?_) | (with_reducible refine below_drewN ?_ _) | ((with_reducible refine Below.alloc ?_ ?_ _); rotate_left; (focus (first | (simp; done) | (simp; omega) | omega))) | ((with_reducible refine Below.setCell ?_ ?_ _); rotate_left; (focus (first | (simp; done) | (simp; omega) | omega))) | ((with_reducible refine Below.trans ?_ (Below.mono (by assumption) ?_)); rotate_left; (focus (first | (simp; done) | (simp; omega) | omega))))), by simp⟩
    rw [dig_zero]
    exact NumAt.new _ _ _ (by simp))
  generalize ((w.alloc (.cells (numC bl (dig ml)) 28)).alloc (.cells (numC bh (dig mh)) 28)).alloc (.cells (numC false (fun _ => 0)) 28) = w1 at *
  go_cut [8] from 11 to 12 (fun v wr => v = .pointer (some ⟨w.heap.size + 1 + 1 + 1, 0, none⟩) ∧ Hid (Unn w wr bl bh false ml mh 0))
  case first =>
    go_wp2_with (first
      | (refine store_num rfl (.tmp 8) (.tmp 11) rfl w1.heap.size rfl false (fun _ => 0) rfl false (fun _ => 0) (NumAt.new w1 false (fun _ => 0) rfl) ?_))
    go_meet
    have z := W.out.2.2.2.2
    refine ⟨by rw [z], ?_, ?_, ?_, ?_, ?_⟩
    · exact (W.out.1.alloc _).wholeOther _ (by omega)
    · exact (W.out.2.1.alloc _).wholeOther _ (by omega)
    · exact (W.out.2.2.1.alloc _).wholeOther _ (by omega)
    · rw [dig_zero, ← z]; exact (NumAt.new w1 false (fun _ => 0) rfl).whole
    · exact Below.setRow' (W.out.2.2.2.1.alloc (by omega) _) (by omega) _
  case rest =>
  obtain ⟨rfl, hW⟩ := hcut
  obtain ⟨w2, rfl⟩ : ∃ v : World, v = wc := ⟨_, rfl⟩
  clear W w1
  go_upto_region 3 with fail
  have MN := Lib.hid (minus_at s)
  go_cut [19] from 12 to 20 (fun v wr => v = .bool (minus s.data.toList) ∧ wr = w2)
  case first =>
    by_cases hz : 0 < s.size
    · have k := Lib.hid (MN.out.1 hz)
      have hz' : (0 : Int) < s.size := by omega
      go_wp2
      go_meet
      exact ⟨by rw [← k.out], rfl⟩
    · have k := Lib.hid (MN.out.2 hz)
      have hz' : (s.size : Int) = 0 := by omega
      clear hz
      go_wp2
      go_meet
      exact ⟨by rw [k.out], rfl⟩
  case rest =>
  obtain ⟨rfl, rfl⟩ := hcut
  go_upto_if 19 with fail
  go_cut [9] from 19 to 20 (fun v wr => v = .int .i64 (fromN s.data.toList) ∧ wr = wc)
  case first =>
    have k := Lib.hid (show fromN s.data.toList = if minus s.data.toList then 1 else 0 from rfl)
    generalize minus s.data.toList = m at *
    cases m
    · go_wp2
      go_meet
      exact ⟨by rw [k.out]; rfl, rfl⟩
    · go_wp2
      go_meet
      exact ⟨by rw [k.out]; rfl, rfl⟩
  case rest =>
  obtain ⟨rfl, rfl⟩ := hcut
  have FN := Lib.hid (from_bd s)
  generalize hf : fromN s.data.toList = f at *
  have HF := Lib.hid hf
  clear hf MN
  go_upto_region 5 with fail
  go_cut [28] from 20 to 29 (fun v wr => v = .bool (decide (s.size = f ∨ 60 < s.size)) ∧ wr = wc)
  case first =>
    by_cases h1 : s.size = f
    · have d := Lib.hid (show decide (s.size = f ∨ 60 < s.size) = true by simp [h1])
      subst h1
      go_wp2
      go_meet
      exact ⟨by rw [d.out], rfl⟩
    · have d := Lib.hid (show decide (s.size = f ∨ 60 < s.size) = decide ((60 : Int) < s.size) by simp [h1]; omega)
      have k : ((s.size : Int) == (f : Int)) = false := by simp; omega
      clear h1
      go_wp2
      go_meet
      exact ⟨by rw [d.out], rfl⟩
  case rest =>
  obtain ⟨rfl, rfl⟩ := hcut
  --LOOP
  by_cases hc : s.size = f ∨ 60 < s.size
  · rw [decide_eq_true hc]
    have N := Lib.hid (show num? lo hi s.data.toList = none by
      rcases hc with h | h
      · exact num?_nought (List.length_eq_zero_iff.1 (by rw [FN.out.2.2]; omega))
      · exact num?_long BD.out.1 BD.out.2 (by rw [len_list]; exact h))
    clear hc
    go_wp2_with (first
      | (refine load_num rfl (.tmp 8) rfl (w.heap.size + 1 + 1 + 1) rfl _ _ hW.out.2.2.2.1 ?_)
      | (refine store_num rfl (.tmp 6) (.tmp 29) rfl (w.heap.size + 1 + 1) rfl false (dig 0) rfl false (dig 0) hW.out.2.2.1 ?_))
    exact bodyPost_ret (results_cell_tmp (p := 6) (q := 7) rfl _ _ (w.heap.size + 1 + 1) 28 (numC false (dig 0)) (0, 0) _ (.bool false) rfl rfl (hW.out.2.2.1.whole) Tryd.underlying28 rfl (infoN _ _)) rfl
      (And.intro ⟨_, rfl, UnnumOut.none N.out ⟨Int.le_refl _, by decide⟩⟩ (Below.setRow' hW.out.2.2.2.2 (by omega) _))
  · rw [decide_eq_false hc]
    have hs : s.size ≤ 60 ∧ f < s.size := by have := FN.out; omega
    clear hc
    go_wp2
    go_loopw [10] (fun i wr => ∃ (k : Nat) (H : Int), f ≤ k ∧ k ≤ s.size ∧ i = .int .i64 k ∧ H = horner ((s.data.toList.take k).drop f) ∧ (∀ c ∈ (s.data.toList.take k).drop f, 48 ≤ c.toNat ∧ c.toNat ≤ 57) ∧ Hid (Unn w wr bl bh false ml mh H)) (fun i _ => s.size - (intOf i).toNat)
    case atStart => exact ⟨f, 0, Nat.le_refl _, by omega, rfl, by rw [List.drop_take_self]; rfl, (by rw [List.drop_take_self]; intro c hc; cases hc), hW⟩
    case round =>
      clear hW
      obtain ⟨k, H, hfk, hk, rfl, hH, hd, X⟩ := hrel
      by_cases hlt : k < s.size
      · have HB := Lib.hid (hH ▸ horner_fits s f k hk hs.1 (fun c hc => (hd c hc).2))
        have HH := Lib.hid hH
        have HD := Lib.hid hd
        clear hH hd
        have hc0 : (s[k].toNat : Int) ≤ 255 := by have := s[k].toNat_lt; omega
        go_upto_region 10 with fail
        go_cut [46] from 37 to 47 (fun v wq => v = .bool (decide (s[k].toNat < 48 ∨ 57 < s[k].toNat)) ∧ wq = wr)
        case first =>
          by_cases h1 : s[k].toNat < 48
          · have d := Lib.hid (show decide (s[k].toNat < 48 ∨ 57 < s[k].toNat) = true by simp [h1])
            have e : (s[k].toNat : Int) < 48 := by omega
            clear h1
            go_wp2
            go_meet
            exact ⟨by rw [d.out], rfl⟩
          · have d := Lib.hid (show decide (s[k].toNat < 48 ∨ 57 < s[k].toNat) = decide ((57 : Int) < s[k].toNat) by simp [h1]; omega)
            have e : ¬ (s[k].toNat : Int) < 48 := by omega
            clear h1
            go_wp2
            go_meet
            exact ⟨by rw [d.out], rfl⟩
        case rest =>
        obtain ⟨rfl, rfl⟩ := hcut
        by_cases hbad : s[k].toNat < 48 ∨ 57 < s[k].toNat
        · rw [decide_eq_true hbad]
          have N := Lib.hid (num?_bad (lo := lo) (hi := hi) (l := s.data.toList) (c := s[k]) (by
            rw [← drop_from, HF.out]
            have e : s.data.toList.drop f = (s.data.toList.drop f).take (k - f) ++ (s.data.toList.drop f).drop (k - f) := (List.take_append_drop _ _).symm
            rw [e, List.drop_drop, show f + (k - f) = k by omega]
            refine List.mem_append_right _ ?_
            rw [List.drop_eq_getElem_cons (by rw [len_list]; exact hlt)]
            exact List.mem_cons_self) hbad)
          clear hbad
          go_wp2_with (first
            | (refine load_num rfl (.tmp 8) rfl (w.heap.size + 1 + 1 + 1) rfl _ _ X.out.2.2.2.1 ?_)
            | (refine store_num rfl (.tmp 6) (.tmp 47) rfl (w.heap.size + 1 + 1) rfl false (dig H) rfl false (dig 0) X.out.2.2.1 ?_))
          exact bodyPost_ret (results_cell_tmp (p := 6) (q := 7) rfl _ _ (w.heap.size + 1 + 1) 28 (numC false (dig H)) (0, 0) _ (.bool false) rfl rfl (X.out.2.2.1.whole) Tryd.underlying28 rfl (infoN _ _)) rfl
            (And.intro ⟨_, rfl, UnnumOut.none N.out (unn_sz HB.out)⟩ (Below.setRow' X.out.2.2.2.2 (by omega) _))
        · rw [decide_eq_false hbad]
          have hg2 : 48 ≤ s[k].toNat ∧ s[k].toNat ≤ 57 := by omega
          have T := Lib.hid (of_small 10 (by omega))
          have O := Lib.hid (of_small ((s[k].toNat : Int) - 48) (by omega))
          have M := Lib.hid ((r_mul false false H 10 (unn_sz HB.out) ⟨by omega, by decide⟩ (mul_room HB.out)).as (args' := #[numV false H, numV false 10]) rfl (v' := numV false (H * 10)) rfl)
          have A := Lib.hid ((r_add false false (H * 10) ((s[k].toNat : Int) - 48) (add_room HB.out) (small_room (by omega))).as (args' := #[numV false (H * 10), numV false ((s[k].toNat : Int) - 48)]) rfl (v' := numV false (H * 10 + ((s[k].toNat : Int) - 48))) rfl)
          have w1 : IntKind.i64.wrap (s[k].toNat : Int) = s[k].toNat := by rw [IntKind.wrap_i64]; omega
          have w2 : IntKind.i64.wrap ((s[k].toNat : Int) - 48) = (s[k].toNat : Int) - 48 := by rw [IntKind.wrap_i64]; omega
          clear hbad
          go_upto_region 12 with fail
          refine wp_region_turns_into (w.heap.size + 1 + 1 + 1) [.gives, .gives, .gives, .gives, .gives, .gives, .gives, .gives, .gives, .gives, .stores 11, .makes (some 10)] (turnVal s k hlt H) (turnObj H ((s[k].toNat : Int) - 48)) (by kernel_rfl) (by kernel_rfl) (by kernel_rfl) rfl X.out.2.2.2.1 ?_ ?_
          · refine EachOp.cons (fun D own a w' I hn hd => ?_) ?_
            · have o11 : D 11 = true ∧ own 11 = _ := I.there 0 _ rfl
              have n10 : D 10 = false := I.notYet (j := 10) rfl (by kernel_rfl) hn
              have bq := I.fresh o11.1 rfl n10
              rw [o11.2] at bq
              exact does_load rfl rfl 28 (.tmp 8) rfl _ ((I.was (by kernel_rfl)).trans rfl) 28 _ _ _ bq Tryd.underlying28 rfl (infoN _ _) rfl
            refine EachOp.cons (fun D own a w' I hn hd => ?_) ?_
            · exact does_go rfl rfl rfl rfl Tryd.func10 (by kernel_rfl) (by kernel_rfl) #[.int .i64 10] (by simp <;> rfl) (T.out w' (G.out.below (X.out.2.2.2.2.trans (I.below.mono (by omega)))))
            refine EachOp.cons (fun D own a w' I hn hd => ?_) ?_
            · have e48 : a.eval (.tmp 48) = numV false H := I.get (i := 0) rfl (hd 0 (by kernel_rfl)) rfl rfl
              have e49 : a.eval (.tmp 49) = numV false 10 := I.get (i := 1) rfl (hd 1 (by kernel_rfl)) rfl rfl
              exact does_go rfl rfl rfl rfl Tryd.func36 (by kernel_rfl) (by kernel_rfl) #[numV false H, numV false 10] (by simp [e48, e49] <;> rfl) (M.out w' (G.out.below (X.out.2.2.2.2.trans (I.below.mono (by omega)))))
            refine EachOp.cons (fun D own a w' I hn hd => ?_) ?_
            · have e0 : a.eval (.tmp 0) = .string s := (I.was (by kernel_rfl)).trans rfl
              have e0p : a.tmps[0]?.getD undef = .string s := by simpa [Act.eval] using e0
              exact does_value rfl rfl (by go_simp; rfl)
            refine EachOp.cons (fun D own a w' I hn hd => ?_) ?_
            · have e10 : a.eval (.tmp 10) = .int .i64 k := (I.was (by kernel_rfl)).trans rfl
              have e10p : a.tmps[10]?.getD undef = .int .i64 k := by simpa [Act.eval] using e10
              exact does_value rfl rfl (by go_simp; rfl)
            refine EachOp.cons (fun D own a w' I hn hd => ?_) ?_
            · have e51 : a.eval (.tmp 51) = .string s := I.get (i := 3) rfl (hd 3 (by kernel_rfl)) rfl rfl
              have e51p : a.tmps[51]?.getD undef = .string s := by simpa [Act.eval] using e51
              have e52 : a.eval (.tmp 52) = .int .i64 k := I.get (i := 4) rfl (hd 4 (by kernel_rfl)) rfl rfl
              have e52p : a.tmps[52]?.getD undef = .int .i64 k := by simpa [Act.eval] using e52
              exact does_value rfl rfl (by go_simp; rfl)
            refine EachOp.cons (fun D own a w' I hn hd => ?_) ?_
            · have e53 : a.eval (.tmp 53) = .int .u8 s[k].toNat := I.get (i := 5) rfl (hd 5 (by kernel_rfl)) rfl rfl
              have e53p : a.tmps[53]?.getD undef = .int .u8 s[k].toNat := by simpa [Act.eval] using e53
              exact does_value rfl rfl (by go_simp; rfl)
            refine EachOp.cons (fun D own a w' I hn hd => ?_) ?_
            · have e54 : a.eval (.tmp 54) = .int .i64 s[k].toNat := I.get (i := 6) rfl (hd 6 (by kernel_rfl)) rfl rfl
              have e54p : a.tmps[54]?.getD undef = .int .i64 s[k].toNat := by simpa [Act.eval] using e54
              exact does_value rfl rfl (by go_simp; rfl)
            refine EachOp.cons (fun D own a w' I hn hd => ?_) ?_
            · have e55 : a.eval (.tmp 55) = .int .i64 ((s[k].toNat : Int) - 48) := I.get (i := 7) rfl (hd 7 (by kernel_rfl)) rfl rfl
              exact does_go rfl rfl rfl rfl Tryd.func10 (by kernel_rfl) (by kernel_rfl) #[.int .i64 ((s[k].toNat : Int) - 48)] (by simp [e55] <;> rfl) (O.out w' (G.out.below (X.out.2.2.2.2.trans (I.below.mono (by omega)))))
            refine EachOp.cons (fun D own a w' I hn hd => ?_) ?_
            · have e50 : a.eval (.tmp 50) = numV false (H * 10) := I.get (i := 2) rfl (hd 2 (by kernel_rfl)) rfl rfl
              have e56 : a.eval (.tmp 56) = numV false ((s[k].toNat : Int) - 48) := I.get (i := 8) rfl (hd 8 (by kernel_rfl)) rfl rfl
              exact does_go rfl rfl rfl rfl Tryd.func35 (by kernel_rfl) (by kernel_rfl) #[numV false (H * 10), numV false ((s[k].toNat : Int) - 48)] (by simp [e50, e56] <;> rfl) (A.out w' (G.out.below (X.out.2.2.2.2.trans (I.below.mono (by omega)))))
            refine EachOp.cons (fun D own a w' I hn hd => ?_) EachOp.nil
            · have o11 : D 11 = true ∧ own 11 = _ := I.there 0 _ rfl
              have e8 : a.eval (.tmp 8) = .pointer (some ⟨own 11, 0, none⟩) := by rw [o11.2]; exact (I.was (by kernel_rfl)).trans rfl
              have e57 : a.eval (.tmp 57) = numV false (H * 10 + ((s[k].toNat : Int) - 48)) := I.get (i := 9) rfl (hd 9 (by kernel_rfl)) rfl rfl
              exact does_store rfl rfl rfl 28 (.tmp 8) (.tmp 57) rfl _ e8 e57 28 _ (I.fresh o11.1 rfl hn) (infoN _ _) (by rw [numC_size, numC_size]) (numC_ok _ _) rfl
          · intro own w3 HW
            have o11 : own 11 = w.heap.size + 1 + 1 + 1 := (HW.there 0 _ rfl).2
            have R := HW.made 11 rfl rfl
            rw [o11] at R
            have X3 := Lib.hid (show Unn w w3 bl bh false ml mh (H * 10 + ((s[k].toNat : Int) - 48)) from ⟨HW.blk X.out.1, HW.blk X.out.2.1, HW.blk X.out.2.2.1, R, X.out.2.2.2.2.trans (HW.below.mono (by omega))⟩)
            have H2 := Lib.hid (show H * 10 + ((s[k].toNat : Int) - 48) = horner ((s.data.toList.take (k + 1)).drop f) by rw [horner_take s f k hfk hlt, HH.out]; omega)
            refine (by assumption : ∀ (a : Act) (w : World), Code.wp Tryd.prog _ _ a w → _) _ _ ?_
            simp only [putAll, Act.put, List.setIfInBounds_toArray, List.set_cons_zero, List.set_cons_succ, Nat.zero_add, Nat.reduceAdd, turnVal]
            clear HW o11 X R
            go_wp2
            go_roundw
            case rel => exact ⟨k + 1, _, by omega, by omega, by go_num, H2.out, by
              intro c hc
              rw [take_byte s k hlt, List.drop_append_of_le_length (by rw [List.length_take, len_list]; omega)] at hc
              rcases List.mem_append.1 hc with hc | hc
              · exact HD.out c hc
              · obtain rfl := List.mem_singleton.1 hc; exact hg2, X3⟩
            case measure => simp [intOf]; omega
      · obtain rfl : k = s.size := by omega
        have hH2 : H = horner (bare s.data.toList) := by rw [hH, List.take_of_length_le (by rw [len_list]; omega), ← HF.out, drop_from]
        have SZ := Lib.hid (unn_sz (hH ▸ horner_fits s f s.size (Nat.le_refl _) hs.1 (fun c hc => (hd c hc).2)))
        have OUT := UnnumOut.whole (lo := lo) (hi := hi) (l := s.data.toList) SZ.out hH2
        have fb := from_one s
        rw [HF.out] at fb
        generalize hbm : minus s.data.toList = b at *
        have c0 := X.out.2.2.2.1.cell0
        have f0 := X.out.2.2.2.1.free 0
        clear hH hd hH2 hbm
        generalize H = m at *
        go_upto_region 14 with fail
        have X2 := Lib.hid (show Unn w (wr.setCell ⟨w.heap.size + 1 + 1 + 1, 0, none⟩ (.bool b)) bl bh b ml mh m from
          ⟨X.out.1.other _ _ (by dsimp only; omega), X.out.2.1.other _ _ (by dsimp only; omega), X.out.2.2.1.other _ _ (by dsimp only; omega), X.out.2.2.2.1.sign b, X.out.2.2.2.2.setCell (by dsimp only; omega) _⟩)
        clear X c0 f0
        have X := X2
        clear X2
        generalize wr.setCell ⟨w.heap.size + 1 + 1 + 1, 0, none⟩ (.bool b) = w4 at *
        generalize hv : vz b m = v at *
        have T := Lib.hid ((r_text b m v SZ.out hv).as (args' := #[numV b m]) rfl rfl)
        have C1 := Lib.hid ((r_cmp b bl m ml v lo SZ.out L.out hv E.out.1).as (args' := #[numV b m, numV bl ml]) rfl rfl)
        have C2 := Lib.hid ((r_cmp b bh m mh v hi SZ.out Hh.out hv E.out.2).as (args' := #[numV b m, numV bh mh]) rfl rfl)
        have OUT := Lib.hid OUT
        have e1 := sgn_geq v lo
        have e2 := sgn_leq v hi
        clear hv SZ
        by_cases g1 : Lib.itoa v = s.data.toList
        · have k1 : ((txt v).toList == s.toList) = true := by rw [ByteArray.toList_eq, ByteArray.toList_eq, txt_list, g1]; simp
          by_cases g2 : lo ≤ v
          · have FIN := Lib.hid (show decide (Lib.itoa v = s.data.toList ∧ lo ≤ v ∧ v ≤ hi) = (true && true && decide (sgn v hi ≤ 0)) by rw [e2]; simp [g1, g2])
            have k2 : 0 ≤ sgn v lo := by simpa [g2] using e1
            clear e1 e2 g1 g2
            generalize txt v = t at *
            generalize sgn v lo = x1 at *
            generalize sgn v hi = x2 at *
            refine wp_region_turns_into (w.heap.size + 1 + 1) [.gives, .gives, .gives, .gives, .gives, .gives, .gives, .gives, .gives, .gives, .gives, .gives, .gives, .gives, .gives, .gives, .gives, .stores 19, .gives, .makes (some 17)] (finVal s t b bl bh m ml mh x1 x2 true true) (finObj b m) (by kernel_rfl) (by kernel_rfl) (by kernel_rfl) rfl X.out.2.2.1 ?_ ?_
            · refine EachOp.cons (fun D own a w' I hn hd => ?_) ?_
              · exact does_load rfl rfl 28 (.tmp 8) rfl _ ((I.was (by kernel_rfl)).trans rfl) 28 _ _ _ (I.blk X.out.2.2.2.1) Tryd.underlying28 rfl (infoN _ _) rfl
              refine EachOp.cons (fun D own a w' I hn hd => ?_) ?_
              · exact does_load rfl rfl 28 (.tmp 8) rfl _ ((I.was (by kernel_rfl)).trans rfl) 28 _ _ _ (I.blk X.out.2.2.2.1) Tryd.underlying28 rfl (infoN _ _) rfl
              refine EachOp.cons (fun D own a w' I hn hd => ?_) ?_
              · have e62 : a.eval (.tmp 62) = numV b m := I.get (i := 1) rfl (hd 1 (by kernel_rfl)) rfl rfl
                exact does_go rfl rfl rfl rfl Tryd.func9 (by kernel_rfl) (by kernel_rfl) #[numV b m] (by simp [e62] <;> rfl) (T.out w' (G.out.below (X.out.2.2.2.2.trans (I.below.mono (by omega)))))
              refine EachOp.cons (fun D own a w' I hn hd => ?_) ?_
              · have e0 : a.eval (.tmp 0) = .string s := (I.was (by kernel_rfl)).trans rfl
                have e0p : a.tmps[0]?.getD undef = .string s := by simpa [Act.eval] using e0
                exact does_value rfl rfl (by go_simp; rfl)
              refine EachOp.cons (fun D own a w' I hn hd => ?_) ?_
              · have e63 : a.eval (.tmp 63) = .string t := I.get (i := 2) rfl (hd 2 (by kernel_rfl)) rfl rfl
                have e63p : a.tmps[63]?.getD undef = .string t := by simpa [Act.eval] using e63
                have e64 : a.eval (.tmp 64) = .string s := I.get (i := 3) rfl (hd 3 (by kernel_rfl)) rfl rfl
                have e64p : a.tmps[64]?.getD undef = .string s := by simpa [Act.eval] using e64
                exact does_value rfl rfl (by go_simp; rfl)
              refine EachOp.cons (fun D own a w' I hn hd => ?_) ?_
              · have e65 : a.eval (.tmp 65) = .bool true := I.get (i := 4) rfl (hd 4 (by kernel_rfl)) rfl rfl
                have e65p : a.tmps[65]?.getD undef = .bool true := by simpa [Act.eval] using e65
                exact does_value rfl rfl (by go_simp; rfl)
              refine EachOp.cons (fun D own a w' I hn hd => ?_) ?_
              · have hq : a.eval (.tmp 66) = .bool true := I.get (i := 5) rfl (hd 5 (by kernel_rfl)) rfl rfl
                exact does_load_if ((wanted_by rfl rfl rfl (by rw [I.size]; kernel_rfl) hq).trans rfl) rfl 28 (.tmp 8) rfl _ ((I.was (by kernel_rfl)).trans rfl) 28 _ _ _ (I.blk X.out.2.2.2.1) Tryd.underlying28 rfl (infoN _ _) rfl
              refine EachOp.cons (fun D own a w' I hn hd => ?_) ?_
              · have hq : a.eval (.tmp 66) = .bool true := I.get (i := 5) rfl (hd 5 (by kernel_rfl)) rfl rfl
                exact does_load_if ((wanted_by rfl rfl rfl (by rw [I.size]; kernel_rfl) hq).trans rfl) rfl 28 (.tmp 4) rfl _ ((I.was (by kernel_rfl)).trans rfl) 28 _ _ _ (I.blk X.out.1) Tryd.underlying28 rfl (infoN _ _) rfl
              refine EachOp.cons (fun D own a w' I hn hd => ?_) ?_
              · have hq : a.eval (.tmp 66) = .bool true := I.get (i := 5) rfl (hd 5 (by kernel_rfl)) rfl rfl
                have e67 : a.eval (.tmp 67) = numV b m := I.get (i := 6) rfl (hd 6 (by kernel_rfl)) rfl rfl
                have e68 : a.eval (.tmp 68) = numV bl ml := I.get (i := 7) rfl (hd 7 (by kernel_rfl)) rfl rfl
                exact does_go_if ((wanted_by rfl rfl rfl (by rw [I.size]; kernel_rfl) hq).trans rfl) rfl rfl rfl Tryd.func15 (by kernel_rfl) (by kernel_rfl) #[numV b m, numV bl ml] (by simp [e67, e68] <;> rfl) (C1.out w' (G.out.below (X.out.2.2.2.2.trans (I.below.mono (by omega)))))
              refine EachOp.cons (fun D own a w' I hn hd => ?_) ?_
              · have hq : a.eval (.tmp 66) = .bool true := I.get (i := 5) rfl (hd 5 (by kernel_rfl)) rfl rfl
                have e69 : a.eval (.tmp 69) = .int .i64 x1 := I.get (i := 8) rfl (hd 8 (by kernel_rfl)) rfl rfl
                have e69p : a.tmps[69]?.getD undef = .int .i64 x1 := by simpa [Act.eval] using e69
                exact does_value_if ((wanted_by rfl rfl rfl (by rw [I.size]; kernel_rfl) hq).trans rfl) rfl (by go_simp; rfl)
              refine EachOp.cons (fun D own a w' I hn hd => ?_) ?_
              · have e66 : a.eval (.tmp 66) = .bool true := I.get (i := 5) rfl (hd 5 (by kernel_rfl)) rfl rfl
                have e66p : a.tmps[66]?.getD undef = .bool true := by simpa [Act.eval] using e66
                have e70 : a.eval (.tmp 70) = .bool true := I.get (i := 9) rfl (hd 9 (by kernel_rfl)) rfl rfl
                have e70p : a.tmps[70]?.getD undef = .bool true := by simpa [Act.eval] using e70
                exact does_value rfl rfl (by go_simp; rfl)
              refine EachOp.cons (fun D own a w' I hn hd => ?_) ?_
              · have e71 : a.eval (.tmp 71) = .bool true := I.get (i := 10) rfl (hd 10 (by kernel_rfl)) rfl rfl
                have e71p : a.tmps[71]?.getD undef = .bool true := by simpa [Act.eval] using e71
                exact does_value rfl rfl (by go_simp; rfl)
              refine EachOp.cons (fun D own a w' I hn hd => ?_) ?_
              · have hq : a.eval (.tmp 72) = .bool true := I.get (i := 11) rfl (hd 11 (by kernel_rfl)) rfl rfl
                exact does_load_if ((wanted_by rfl rfl rfl (by rw [I.size]; kernel_rfl) hq).trans rfl) rfl 28 (.tmp 8) rfl _ ((I.was (by kernel_rfl)).trans rfl) 28 _ _ _ (I.blk X.out.2.2.2.1) Tryd.underlying28 rfl (infoN _ _) rfl
              refine EachOp.cons (fun D own a w' I hn hd => ?_) ?_
              · have hq : a.eval (.tmp 72) = .bool true := I.get (i := 11) rfl (hd 11 (by kernel_rfl)) rfl rfl
                exact does_load_if ((wanted_by rfl rfl rfl (by rw [I.size]; kernel_rfl) hq).trans rfl) rfl 28 (.tmp 5) rfl _ ((I.was (by kernel_rfl)).trans rfl) 28 _ _ _ (I.blk X.out.2.1) Tryd.underlying28 rfl (infoN _ _) rfl
              refine EachOp.cons (fun D own a w' I hn hd => ?_) ?_
              · have hq : a.eval (.tmp 72) = .bool true := I.get (i := 11) rfl (hd 11 (by kernel_rfl)) rfl rfl
                have e73 : a.eval (.tmp 73) = numV b m := I.get (i := 12) rfl (hd 12 (by kernel_rfl)) rfl rfl
                have e74 : a.eval (.tmp 74) = numV bh mh := I.get (i := 13) rfl (hd 13 (by kernel_rfl)) rfl rfl
                exact does_go_if ((wanted_by rfl rfl rfl (by rw [I.size]; kernel_rfl) hq).trans rfl) rfl rfl rfl Tryd.func15 (by kernel_rfl) (by kernel_rfl) #[numV b m, numV bh mh] (by simp [e73, e74] <;> rfl) (C2.out w' (G.out.below (X.out.2.2.2.2.trans (I.below.mono (by omega)))))
              refine EachOp.cons (fun D own a w' I hn hd => ?_) ?_
              · have hq : a.eval (.tmp 72) = .bool true := I.get (i := 11) rfl (hd 11 (by kernel_rfl)) rfl rfl
                have e75 : a.eval (.tmp 75) = .int .i64 x2 := I.get (i := 14) rfl (hd 14 (by kernel_rfl)) rfl rfl
                have e75p : a.tmps[75]?.getD undef = .int .i64 x2 := by simpa [Act.eval] using e75
                exact does_value_if ((wanted_by rfl rfl rfl (by rw [I.size]; kernel_rfl) hq).trans rfl) rfl (by go_simp; rfl)
              refine EachOp.cons (fun D own a w' I hn hd => ?_) ?_
              · have e72 : a.eval (.tmp 72) = .bool true := I.get (i := 11) rfl (hd 11 (by kernel_rfl)) rfl rfl
                have e72p : a.tmps[72]?.getD undef = .bool true := by simpa [Act.eval] using e72
                have e76 : a.eval (.tmp 76) = .bool (decide (x2 ≤ 0)) := I.get (i := 15) rfl (hd 15 (by kernel_rfl)) rfl rfl
                have e76p : a.tmps[76]?.getD undef = .bool (decide (x2 ≤ 0)) := by simpa [Act.eval] using e76
                exact does_value rfl rfl (by go_simp; rfl)
              refine EachOp.cons (fun D own a w' I hn hd => ?_) ?_
              · have o19 : D 19 = true ∧ own 19 = _ := I.there 0 _ rfl
                have e6 : a.eval (.tmp 6) = .pointer (some ⟨own 19, 0, none⟩) := by rw [o19.2]; exact (I.was (by kernel_rfl)).trans rfl
                have e61 : a.eval (.tmp 61) = numV b m := I.get (i := 0) rfl (hd 0 (by kernel_rfl)) rfl rfl
                exact does_store rfl rfl rfl 28 (.tmp 6) (.tmp 61) rfl _ e6 e61 28 _ (I.fresh o19.1 rfl hn) (infoN _ _) (by rw [numC_size, numC_size]) (numC_ok _ _) rfl
              refine EachOp.cons (fun D own a w' I hn hd => ?_) EachOp.nil
              · have e77 : a.eval (.tmp 77) = .bool (decide (x2 ≤ 0)) := I.get (i := 16) rfl (hd 16 (by kernel_rfl)) rfl rfl
                have e77p : a.tmps[77]?.getD undef = .bool (decide (x2 ≤ 0)) := by simpa [Act.eval] using e77
                exact does_value rfl rfl (by go_simp; rfl)
            · intro own w3 HW
              have o19 : own 19 = w.heap.size + 1 + 1 := (HW.there 0 _ rfl).2
              have R := HW.made 19 rfl rfl
              rw [o19] at R
              have R := Lib.hid (show NumAt w3 (w.heap.size + 1 + 1) b (dig m) from R)
              have S3 := Lib.hid (X.out.2.2.2.2.trans (HW.below.mono (by omega)))
              refine (by assumption : ∀ (a : Act) (w : World), Code.wp Tryd.prog _ _ a w → _) _ _ ?_
              simp only [putAll, Act.put, List.setIfInBounds_toArray, List.set_cons_zero, List.set_cons_succ, Nat.zero_add, Nat.reduceAdd, finVal]
              clear HW o19 X
              go_wp2
              exact bodyPost_ret (results_cell_tmp (p := 6) (q := 7) rfl _ _ (w.heap.size + 1 + 1) 28 (numC b (dig m)) (0, 0) _ _ rfl rfl R.out Tryd.underlying28 rfl (infoN _ _)) rfl
                (And.intro ⟨_, rfl, by rw [FIN.out] at OUT; exact OUT.out⟩ S3.out)
          · have FIN := Lib.hid (show decide (Lib.itoa v = s.data.toList ∧ lo ≤ v ∧ v ≤ hi) = false by simp [g2])
            have k2 : decide (0 ≤ sgn v lo) = false := by rw [e1]; simp [g2]
            clear e1 e2 g1 g2
            generalize txt v = t at *
            generalize sgn v lo = x1 at *
            generalize sgn v hi = x2 at *
            refine wp_region_turns_into (w.heap.size + 1 + 1) [.gives, .gives, .gives, .gives, .gives, .gives, .gives, .gives, .gives, .gives, .gives, .gives, .gives, .gives, .gives, .gives, .gives, .stores 19, .gives, .makes (some 17)] (finVal s t b bl bh m ml mh x1 x2 true false) (finObj b m) (by kernel_rfl) (by kernel_rfl) (by kernel_rfl) rfl X.out.2.2.1 ?_ ?_
            · refine EachOp.cons (fun D own a w' I hn hd => ?_) ?_
              · exact does_load rfl rfl 28 (.tmp 8) rfl _ ((I.was (by kernel_rfl)).trans rfl) 28 _ _ _ (I.blk X.out.2.2.2.1) Tryd.underlying28 rfl (infoN _ _) rfl
              refine EachOp.cons (fun D own a w' I hn hd => ?_) ?_
              · exact does_load rfl rfl 28 (.tmp 8) rfl _ ((I.was (by kernel_rfl)).trans rfl) 28 _ _ _ (I.blk X.out.2.2.2.1) Tryd.underlying28 rfl (infoN _ _) rfl
              refine EachOp.cons (fun D own a w' I hn hd => ?_) ?_
              · have e62 : a.eval (.tmp 62) = numV b m := I.get (i := 1) rfl (hd 1 (by kernel_rfl)) rfl rfl
                exact does_go rfl rfl rfl rfl Tryd.func9 (by kernel_rfl) (by kernel_rfl) #[numV b m] (by simp [e62] <;> rfl) (T.out w' (G.out.below (X.out.2.2.2.2.trans (I.below.mono (by omega)))))
              refine EachOp.cons (fun D own a w' I hn hd => ?_) ?_
              · have e0 : a.eval (.tmp 0) = .string s := (I.was (by kernel_rfl)).trans rfl
                have e0p : a.tmps[0]?.getD undef = .string s := by simpa [Act.eval] using e0
                exact does_value rfl rfl (by go_simp; rfl)
              refine EachOp.cons (fun D own a w' I hn hd => ?_) ?_
              · have e63 : a.eval (.tmp 63) = .string t := I.get (i := 2) rfl (hd 2 (by kernel_rfl)) rfl rfl
                have e63p : a.tmps[63]?.getD undef = .string t := by simpa [Act.eval] using e63
                have e64 : a.eval (.tmp 64) = .string s := I.get (i := 3) rfl (hd 3 (by kernel_rfl)) rfl rfl
                have e64p : a.tmps[64]?.getD undef = .string s := by simpa [Act.eval] using e64
                exact does_value rfl rfl (by go_simp; rfl)
              refine EachOp.cons (fun D own a w' I hn hd => ?_) ?_
              · have e65 : a.eval (.tmp 65) = .bool true := I.get (i := 4) rfl (hd 4 (by kernel_rfl)) rfl rfl
                have e65p : a.tmps[65]?.getD undef = .bool true := by simpa [Act.eval] using e65
                exact does_value rfl rfl (by go_simp; rfl)
              refine EachOp.cons (fun D own a w' I hn hd => ?_) ?_
              · have hq : a.eval (.tmp 66) = .bool true := I.get (i := 5) rfl (hd 5 (by kernel_rfl)) rfl rfl
                exact does_load_if ((wanted_by rfl rfl rfl (by rw [I.size]; kernel_rfl) hq).trans rfl) rfl 28 (.tmp 8) rfl _ ((I.was (by kernel_rfl)).trans rfl) 28 _ _ _ (I.blk X.out.2.2.2.1) Tryd.underlying28 rfl (infoN _ _) rfl
              refine EachOp.cons (fun D own a w' I hn hd => ?_) ?_
              · have hq : a.eval (.tmp 66) = .bool true := I.get (i := 5) rfl (hd 5 (by kernel_rfl)) rfl rfl
                exact does_load_if ((wanted_by rfl rfl rfl (by rw [I.size]; kernel_rfl) hq).trans rfl) rfl 28 (.tmp 4) rfl _ ((I.was (by kernel_rfl)).trans rfl) 28 _ _ _ (I.blk X.out.1) Tryd.underlying28 rfl (infoN _ _) rfl
              refine EachOp.cons (fun D own a w' I hn hd => ?_) ?_
              · have hq : a.eval (.tmp 66) = .bool true := I.get (i := 5) rfl (hd 5 (by kernel_rfl)) rfl rfl
                have e67 : a.eval (.tmp 67) = numV b m := I.get (i := 6) rfl (hd 6 (by kernel_rfl)) rfl rfl
                have e68 : a.eval (.tmp 68) = numV bl ml := I.get (i := 7) rfl (hd 7 (by kernel_rfl)) rfl rfl
                exact does_go_if ((wanted_by rfl rfl rfl (by rw [I.size]; kernel_rfl) hq).trans rfl) rfl rfl rfl Tryd.func15 (by kernel_rfl) (by kernel_rfl) #[numV b m, numV bl ml] (by simp [e67, e68] <;> rfl) (C1.out w' (G.out.below (X.out.2.2.2.2.trans (I.below.mono (by omega)))))
              refine EachOp.cons (fun D own a w' I hn hd => ?_) ?_
              · have hq : a.eval (.tmp 66) = .bool true := I.get (i := 5) rfl (hd 5 (by kernel_rfl)) rfl rfl
                have e69 : a.eval (.tmp 69) = .int .i64 x1 := I.get (i := 8) rfl (hd 8 (by kernel_rfl)) rfl rfl
                have e69p : a.tmps[69]?.getD undef = .int .i64 x1 := by simpa [Act.eval] using e69
                exact does_value_if ((wanted_by rfl rfl rfl (by rw [I.size]; kernel_rfl) hq).trans rfl) rfl (by go_simp; rfl)
              refine EachOp.cons (fun D own a w' I hn hd => ?_) ?_
              · have e66 : a.eval (.tmp 66) = .bool true := I.get (i := 5) rfl (hd 5 (by kernel_rfl)) rfl rfl
                have e66p : a.tmps[66]?.getD undef = .bool true := by simpa [Act.eval] using e66
                have e70 : a.eval (.tmp 70) = .bool false := I.get (i := 9) rfl (hd 9 (by kernel_rfl)) rfl rfl
                have e70p : a.tmps[70]?.getD undef = .bool false := by simpa [Act.eval] using e70
                exact does_value rfl rfl (by go_simp; rfl)
              refine EachOp.cons (fun D own a w' I hn hd => ?_) ?_
              · have e71 : a.eval (.tmp 71) = .bool false := I.get (i := 10) rfl (hd 10 (by kernel_rfl)) rfl rfl
                have e71p : a.tmps[71]?.getD undef = .bool false := by simpa [Act.eval] using e71
                exact does_value rfl rfl (by go_simp; rfl)
              refine EachOp.cons (fun D own a w' I hn hd => ?_) ?_
              · have hq : a.eval (.tmp 72) = .bool false := I.get (i := 11) rfl (hd 11 (by kernel_rfl)) rfl rfl
                exact does_skip ((wanted_by rfl rfl rfl (by rw [I.size]; kernel_rfl) hq).trans rfl) rfl rfl
              refine EachOp.cons (fun D own a w' I hn hd => ?_) ?_
              · have hq : a.eval (.tmp 72) = .bool false := I.get (i := 11) rfl (hd 11 (by kernel_rfl)) rfl rfl
                exact does_skip ((wanted_by rfl rfl rfl (by rw [I.size]; kernel_rfl) hq).trans rfl) rfl rfl
              refine EachOp.cons (fun D own a w' I hn hd => ?_) ?_
              · have hq : a.eval (.tmp 72) = .bool false := I.get (i := 11) rfl (hd 11 (by kernel_rfl)) rfl rfl
                exact does_skip ((wanted_by rfl rfl rfl (by rw [I.size]; kernel_rfl) hq).trans rfl) rfl rfl
              refine EachOp.cons (fun D own a w' I hn hd => ?_) ?_
              · have hq : a.eval (.tmp 72) = .bool false := I.get (i := 11) rfl (hd 11 (by kernel_rfl)) rfl rfl
                exact does_skip ((wanted_by rfl rfl rfl (by rw [I.size]; kernel_rfl) hq).trans rfl) rfl rfl
              refine EachOp.cons (fun D own a w' I hn hd => ?_) ?_
              · have e72 : a.eval (.tmp 72) = .bool false := I.get (i := 11) rfl (hd 11 (by kernel_rfl)) rfl rfl
                have e72p : a.tmps[72]?.getD undef = .bool false := by simpa [Act.eval] using e72
                exact does_value rfl rfl (by go_simp; rfl)
              refine EachOp.cons (fun D own a w' I hn hd => ?_) ?_
              · have o19 : D 19 = true ∧ own 19 = _ := I.there 0 _ rfl
                have e6 : a.eval (.tmp 6) = .pointer (some ⟨own 19, 0, none⟩) := by rw [o19.2]; exact (I.was (by kernel_rfl)).trans rfl
                have e61 : a.eval (.tmp 61) = numV b m := I.get (i := 0) rfl (hd 0 (by kernel_rfl)) rfl rfl
                exact does_store rfl rfl rfl 28 (.tmp 6) (.tmp 61) rfl _ e6 e61 28 _ (I.fresh o19.1 rfl hn) (infoN _ _) (by rw [numC_size, numC_size]) (numC_ok _ _) rfl
              refine EachOp.cons (fun D own a w' I hn hd => ?_) EachOp.nil
              · have e77 : a.eval (.tmp 77) = .bool false := I.get (i := 16) rfl (hd 16 (by kernel_rfl)) rfl rfl
                have e77p : a.tmps[77]?.getD undef = .bool false := by simpa [Act.eval] using e77
                exact does_value rfl rfl (by go_simp; rfl)
            · intro own w3 HW
              have o19 : own 19 = w.heap.size + 1 + 1 := (HW.there 0 _ rfl).2
              have R := HW.made 19 rfl rfl
              rw [o19] at R
              have R := Lib.hid (show NumAt w3 (w.heap.size + 1 + 1) b (dig m) from R)
              have S3 := Lib.hid (X.out.2.2.2.2.trans (HW.below.mono (by omega)))
              refine (by assumption : ∀ (a : Act) (w : World), Code.wp Tryd.prog _ _ a w → _) _ _ ?_
              simp only [putAll, Act.put, List.setIfInBounds_toArray, List.set_cons_zero, List.set_cons_succ, Nat.zero_add, Nat.reduceAdd, finVal]
              clear HW o19 X
              go_wp2
              exact bodyPost_ret (results_cell_tmp (p := 6) (q := 7) rfl _ _ (w.heap.size + 1 + 1) 28 (numC b (dig m)) (0, 0) _ _ rfl rfl R.out Tryd.underlying28 rfl (infoN _ _)) rfl
                (And.intro ⟨_, rfl, by rw [FIN.out] at OUT; exact OUT.out⟩ S3.out)
        · have k1 : ((txt v).toList == s.toList) = false := by rw [ByteArray.toList_eq, ByteArray.toList_eq, txt_list]; simpa using g1
          have FIN := Lib.hid (show decide (Lib.itoa v = s.data.toList ∧ lo ≤ v ∧ v ≤ hi) = false by simp [g1])
          clear e1 e2 g1
          generalize txt v = t at *
          generalize sgn v lo = x1 at *
          generalize sgn v hi = x2 at *
          refine wp_region_turns_into (w.heap.size + 1 + 1) [.gives, .gives, .gives, .gives, .gives, .gives, .gives, .gives, .gives, .gives, .gives, .gives, .gives, .gives, .gives, .gives, .gives, .stores 19, .gives, .makes (some 17)] (finVal s t b bl bh m ml mh x1 x2 false false) (finObj b m) (by kernel_rfl) (by kernel_rfl) (by kernel_rfl) rfl X.out.2.2.1 ?_ ?_
          · refine EachOp.cons (fun D own a w' I hn hd => ?_) ?_
            · exact does_load rfl rfl 28 (.tmp 8) rfl _ ((I.was (by kernel_rfl)).trans rfl) 28 _ _ _ (I.blk X.out.2.2.2.1) Tryd.underlying28 rfl (infoN _ _) rfl
            refine EachOp.cons (fun D own a w' I hn hd => ?_) ?_
            · exact does_load rfl rfl 28 (.tmp 8) rfl _ ((I.was (by kernel_rfl)).trans rfl) 28 _ _ _ (I.blk X.out.2.2.2.1) Tryd.underlying28 rfl (infoN _ _) rfl
            refine EachOp.cons (fun D own a w' I hn hd => ?_) ?_
            · have e62 : a.eval (.tmp 62) = numV b m := I.get (i := 1) rfl (hd 1 (by kernel_rfl)) rfl rfl
              exact does_go rfl rfl rfl rfl Tryd.func9 (by kernel_rfl) (by kernel_rfl) #[numV b m] (by simp [e62] <;> rfl) (T.out w' (G.out.below (X.out.2.2.2.2.trans (I.below.mono (by omega)))))
            refine EachOp.cons (fun D own a w' I hn hd => ?_) ?_
            · have e0 : a.eval (.tmp 0) = .string s := (I.was (by kernel_rfl)).trans rfl
              have e0p : a.tmps[0]?.getD undef = .string s := by simpa [Act.eval] using e0
              exact does_value rfl rfl (by go_simp; rfl)
            refine EachOp.cons (fun D own a w' I hn hd => ?_) ?_
            · have e63 : a.eval (.tmp 63) = .string t := I.get (i := 2) rfl (hd 2 (by kernel_rfl)) rfl rfl
              have e63p : a.tmps[63]?.getD undef = .string t := by simpa [Act.eval] using e63
              have e64 : a.eval (.tmp 64) = .string s := I.get (i := 3) rfl (hd 3 (by kernel_rfl)) rfl rfl
              have e64p : a.tmps[64]?.getD undef = .string s := by simpa [Act.eval] using e64
              exact does_value rfl rfl (by go_simp; rfl)
            refine EachOp.cons (fun D own a w' I hn hd => ?_) ?_
            · have e65 : a.eval (.tmp 65) = .bool false := I.get (i := 4) rfl (hd 4 (by kernel_rfl)) rfl rfl
              have e65p : a.tmps[65]?.getD undef = .bool false := by simpa [Act.eval] using e65
              exact does_value rfl rfl (by go_simp; rfl)
            refine EachOp.cons (fun D own a w' I hn hd => ?_) ?_
            · have hq : a.eval (.tmp 66) = .bool false := I.get (i := 5) rfl (hd 5 (by kernel_rfl)) rfl rfl
              exact does_skip ((wanted_by rfl rfl rfl (by rw [I.size]; kernel_rfl) hq).trans rfl) rfl rfl
            refine EachOp.cons (fun D own a w' I hn hd => ?_) ?_
            · have hq : a.eval (.tmp 66) = .bool false := I.get (i := 5) rfl (hd 5 (by kernel_rfl)) rfl rfl
              exact does_skip ((wanted_by rfl rfl rfl (by rw [I.size]; kernel_rfl) hq).trans rfl) rfl rfl
            refine EachOp.cons (fun D own a w' I hn hd => ?_) ?_
            · have hq : a.eval (.tmp 66) = .bool false := I.get (i := 5) rfl (hd 5 (by kernel_rfl)) rfl rfl
              exact does_skip ((wanted_by rfl rfl rfl (by rw [I.size]; kernel_rfl) hq).trans rfl) rfl rfl
            refine EachOp.cons (fun D own a w' I hn hd => ?_) ?_
            · have hq : a.eval (.tmp 66) = .bool false := I.get (i := 5) rfl (hd 5 (by kernel_rfl)) rfl rfl
              exact does_skip ((wanted_by rfl rfl rfl (by rw [I.size]; kernel_rfl) hq).trans rfl) rfl rfl
            refine EachOp.cons (fun D own a w' I hn hd => ?_) ?_
            · have e66 : a.eval (.tmp 66) = .bool false := I.get (i := 5) rfl (hd 5 (by kernel_rfl)) rfl rfl
              have e66p : a.tmps[66]?.getD undef = .bool false := by simpa [Act.eval] using e66
              exact does_value rfl rfl (by go_simp; rfl)
            refine EachOp.cons (fun D own a w' I hn hd => ?_) ?_
            · have e71 : a.eval (.tmp 71) = .bool false := I.get (i := 10) rfl (hd 10 (by kernel_rfl)) rfl rfl
              have e71p : a.tmps[71]?.getD undef = .bool false := by simpa [Act.eval] using e71
              exact does_value rfl rfl (by go_simp; rfl)
            refine EachOp.cons (fun D own a w' I hn hd => ?_) ?_
            · have hq : a.eval (.tmp 72) = .bool false := I.get (i := 11) rfl (hd 11 (by kernel_rfl)) rfl rfl
              exact does_skip ((wanted_by rfl rfl rfl (by rw [I.size]; kernel_rfl) hq).trans rfl) rfl rfl
            refine EachOp.cons (fun D own a w' I hn hd => ?_) ?_
            · have hq : a.eval (.tmp 72) = .bool false := I.get (i := 11) rfl (hd 11 (by kernel_rfl)) rfl rfl
              exact does_skip ((wanted_by rfl rfl rfl (by rw [I.size]; kernel_rfl) hq).trans rfl) rfl rfl
            refine EachOp.cons (fun D own a w' I hn hd => ?_) ?_
            · have hq : a.eval (.tmp 72) = .bool false := I.get (i := 11) rfl (hd 11 (by kernel_rfl)) rfl rfl
              exact does_skip ((wanted_by rfl rfl rfl (by rw [I.size]; kernel_rfl) hq).trans rfl) rfl rfl
            refine EachOp.cons (fun D own a w' I hn hd => ?_) ?_
            · have hq : a.eval (.tmp 72) = .bool false := I.get (i := 11) rfl (hd 11 (by kernel_rfl)) rfl rfl
              exact does_skip ((wanted_by rfl rfl rfl (by rw [I.size]; kernel_rfl) hq).trans rfl) rfl rfl
            refine EachOp.cons (fun D own a w' I hn hd => ?_) ?_
            · have e72 : a.eval (.tmp 72) = .bool false := I.get (i := 11) rfl (hd 11 (by kernel_rfl)) rfl rfl
              have e72p : a.tmps[72]?.getD undef = .bool false := by simpa [Act.eval] using e72
              exact does_value rfl rfl (by go_simp; rfl)
            refine EachOp.cons (fun D own a w' I hn hd => ?_) ?_
            · have o19 : D 19 = true ∧ own 19 = _ := I.there 0 _ rfl
              have e6 : a.eval (.tmp 6) = .pointer (some ⟨own 19, 0, none⟩) := by rw [o19.2]; exact (I.was (by kernel_rfl)).trans rfl
              have e61 : a.eval (.tmp 61) = numV b m := I.get (i := 0) rfl (hd 0 (by kernel_rfl)) rfl rfl
              exact does_store rfl rfl rfl 28 (.tmp 6) (.tmp 61) rfl _ e6 e61 28 _ (I.fresh o19.1 rfl hn) (infoN _ _) (by rw [numC_size, numC_size]) (numC_ok _ _) rfl
            refine EachOp.cons (fun D own a w' I hn hd => ?_) EachOp.nil
            · have e77 : a.eval (.tmp 77) = .bool false := I.get (i := 16) rfl (hd 16 (by kernel_rfl)) rfl rfl
              have e77p : a.tmps[77]?.getD undef = .bool false := by simpa [Act.eval] using e77
              exact does_value rfl rfl (by go_simp; rfl)
          · intro own w3 HW
            have o19 : own 19 = w.heap.size + 1 + 1 := (HW.there 0 _ rfl).2
            have R := HW.made 19 rfl rfl
            rw [o19] at R
            have R := Lib.hid (show NumAt w3 (w.heap.size + 1 + 1) b (dig m) from R)
            have S3 := Lib.hid (X.out.2.2.2.2.trans (HW.below.mono (by omega)))
            refine (by assumption : ∀ (a : Act) (w : World), Code.wp Tryd.prog _ _ a w → _) _ _ ?_
            simp only [putAll, Act.put, List.setIfInBounds_toArray, List.set_cons_zero, List.set_cons_succ, Nat.zero_add, Nat.reduceAdd, finVal]
            clear HW o19 X
            go_wp2
            exact bodyPost_ret (results_cell_tmp (p := 6) (q := 7) rfl _ _ (w.heap.size + 1 + 1) 28 (numC b (dig m)) (0, 0) _ _ rfl rfl R.out Tryd.underlying28 rfl (infoN _ _)) rfl
              (And.intro ⟨_, rfl, by rw [FIN.out] at OUT; exact OUT.out⟩ S3.out)
end Go.Proofs.YtednmodeoofbgaaDoor
