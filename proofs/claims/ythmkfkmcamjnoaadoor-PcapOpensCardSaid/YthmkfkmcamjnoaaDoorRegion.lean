/-
  A region that draws its order, whatever it holds: each operation is looked at once, in whatever company of others that have come up before it. No Go in sight.
-/
import Derived.OrdersHeld
import Derived.Below
import Derived.RowKit
import Derived.WalkKit
import Derived.Lib.QuietBelow
import Derived.Laws.Tables
import Derived.Laws.Rows
namespace Go.Proofs.YthmkfkmcamjnoaaDoor
open Go.RowKit Go.Sort
/-- What an operation is: it gives a value, and whatever it makes is nobody's; it makes a block that others look at (and operation k stores into it, once); it stores into the block that operation j made. -/
inductive Kind where
  | gives
  | makes (k : Option Nat)
  | stores (j : Nat)
  deriving DecidableEq
def Kind.isMakes : Kind → Bool
  | .makes _ => true
  | _ => false
section
variable (P : Program) (l : List Oper) (kd : Nat → Kind) (val : Nat → Nat → Value) (obj : Nat → Obj)
/-- What lies in the block that operation i made, when those of D have come up. -/
def contOf (D : Nat → Bool) (i : Nat) : Obj :=
  match kd i with
  | .makes (some k) => if D k then obj k else obj i
  | _ => obj i
/-- What holds when the operations of D have come up. 'pre': blocks that were there and that the region stores into (a result's own variable): as if operations behind the last one had made them, ahead of all. -/
structure Come (pre : List Nat) (B : Nat) (w0 : World) (a0 : Act) (D : Nat → Bool) (own : Nat → Nat) (a : Act) (w : World) : Prop where
  below : Below B w0 w
  keep : ∀ b, b < w0.heap.size → b ∉ pre → w.heap[b]? = w0.heap[b]?
  made : ∀ i, D i = true → (kd i).isMakes = true → w.heap[own i]? = some (contOf kd obj D i)
  new : ∀ i, D i = true → (kd i).isMakes = true → i < l.length → w0.heap.size ≤ own i
  there : ∀ k b, pre[k]? = some b → D (l.length + k) = true ∧ own (l.length + k) = b
  apart : ∀ i j, D i = true → D j = true → (kd i).isMakes = true → (kd j).isMakes = true → i ≠ j → own i ≠ own j
  defers : a.defers = a0.defers
  size : a.tmps.size = a0.tmps.size
  put : ∀ i o d, l[i]? = some o → D i = true → o.dst = some d → d < a0.tmps.size → a.tmps[d]? = some (val i (own i))
  rest : ∀ t, (∀ i o, l[i]? = some o → D i = true → o.dst ≠ some t) → a.tmps[t]? = a0.tmps[t]?
  within : ∀ i, D i = true → i < l.length + pre.length
  closed : ∀ i o, l[i]? = some o → D i = true → ∀ e ∈ o.after, Region.binds .any e = true → D e.on = true
/-- What an operation leaves behind. -/
def Left (own : Nat → Nat) (i : Nat) (w : World) (p : Nat) (w' : World) : Prop :=
  match kd i with
  | .gives => Below w.heap.size w w'
  | .makes _ => w.heap.size ≤ p ∧ Below w.heap.size w w' ∧ w'.heap[p]? = some (obj i)
  | .stores j => w'.os = w.os ∧ w'.tape = w.tape ∧ w'.output = w.output ∧ w.heap.size ≤ w'.heap.size ∧ (∀ b, b ≠ own j → b < w.heap.size → w'.heap[b]? = w.heap[b]?) ∧ w'.heap[own j]? = some (obj i)
/-- Operation i, in this company, does what is said of it. -/
def Does (Q : Exit → Act → World → Prop) (i : Nat) (o : Oper) (own : Nat → Nat) (a : Act) (w : World) : Prop :=
  ∀ K : Act → World → Prop, (∀ p w', Left kd obj own i w p w' → K (a.put o.dst (val i p)) w') → if Region.wanted o (yielded l.toArray a.tmps) = true then o.wp P a w K Q else K (a.put o.dst undef) w
/-- Makers and stores go together; no slot is written twice. -/
def okFrom (n : Nat) (ks : List Kind) : Nat → List Oper → Bool
  | _, [] => true
  | i, o :: rest => (match ks.getD i .gives with
      | .stores j => ks.getD j .gives == .makes (some i) && (decide (n ≤ j) || o.after.any (fun e => Region.binds .any e && e.on == j))
      | .makes (some k) => ks.getD k .gives == .stores i
      | _ => true) && (match o.dst with | some d => rest.all (fun o' => o'.dst != some d) | none => true) && o.after.all (fun e => !Region.binds .any e || decide (e.on < i)) && okFrom n ks (i + 1) rest
/-- .. those that were there, too. -/
def okPre (n m : Nat) (ks : List Kind) : Bool := (List.range m).all fun k => match ks.getD (n + k) .gives with
  | .makes (some s) => ks.getD s .gives == .stores (n + k)
  | .makes none => true
  | _ => false
/-- The state, when all have come up. -/
def putAll (f : Nat → Value) : Nat → List Oper → Act → Act
  | _, [], a => a
  | i, o :: rest, a => putAll f (i + 1) rest (a.put o.dst (f i))
end
theorem putAll_defers (f : Nat → Value) : ∀ (l : List Oper) (i : Nat) (a : Act), (putAll f i l a).defers = a.defers
  | [], _, _ => rfl
  | o :: rest, i, a => by rw [putAll, putAll_defers f rest]; cases h : o.dst <;> simp [Act.put]
theorem putAll_size (f : Nat → Value) : ∀ (l : List Oper) (i : Nat) (a : Act), (putAll f i l a).tmps.size = a.tmps.size
  | [], _, _ => rfl
  | o :: rest, i, a => by rw [putAll, putAll_size f rest]; cases h : o.dst <;> simp [Act.put]
theorem put_get_other {a : Act} {dst : Option Tmp} {v : Value} {t : Nat} (h : dst ≠ some t) : (a.put dst v).tmps[t]? = a.tmps[t]? := by
  cases dst with
  | none => rfl
  | some d => simp only [Act.put]; rw [Array.getElem?_setIfInBounds_ne (fun e => h (by rw [e]))]
theorem put_get_same {a : Act} {d : Nat} {v : Value} (h : d < a.tmps.size) : (a.put (some d) v).tmps[d]? = some v := by
  simp only [Act.put]; simp [h]
theorem putAll_other (f : Nat → Value) : ∀ (l : List Oper) (i : Nat) (a : Act) (t : Nat), (∀ o ∈ l, o.dst ≠ some t) → (putAll f i l a).tmps[t]? = a.tmps[t]?
  | [], _, _, _, _ => rfl
  | o :: rest, i, a, t, h => by
    rw [putAll, putAll_other f rest (i + 1) _ t (fun o' ho' => h o' (List.mem_cons_of_mem _ ho')), put_get_other (h o (List.mem_cons_self ..))]
theorem putAll_same (n : Nat) (ks : List Kind) (f : Nat → Value) : ∀ (l : List Oper) (i : Nat) (a : Act) (j : Nat) (o : Oper) (d : Nat), okFrom n ks i l = true → l[j]? = some o → o.dst = some d → d < a.tmps.size → (putAll f i l a).tmps[d]? = some (f (i + j))
  | [], _, _, _, _, _, _, h, _, _ => by simp at h
  | o' :: rest, i, a, 0, o, d, hok, h, hd, hs => by
    simp at h
    subst h
    simp only [okFrom, Bool.and_eq_true, hd, List.all_eq_true, bne_iff_ne, ne_eq] at hok
    rw [putAll, putAll_other f rest (i + 1) _ d (fun x hx => hok.1.1.2 x hx), hd, put_get_same hs]
    rfl
  | o' :: rest, i, a, j + 1, o, d, hok, h, hd, hs => by
    simp only [okFrom, Bool.and_eq_true] at hok
    rw [putAll, putAll_same n ks f rest (i + 1) _ j o d hok.2 (by simpa using h) hd (by cases h : o'.dst <;> simpa [Act.put] using hs)]
    congr 2
    omega
theorem act_ext {a b : Act} (hd : a.defers = b.defers) (ht : ∀ t : Nat, a.tmps[t]? = b.tmps[t]?) : a = b := by
  obtain ⟨ta, da⟩ := a
  obtain ⟨tb, db⟩ := b
  obtain rfl : ta = tb := Array.ext_getElem? ht
  cases hd
  rfl
theorem ok_at (n : Nat) (ks : List Kind) : ∀ (l : List Oper) (i j : Nat) (o : Oper), okFrom n ks i l = true → l[j]? = some o →
    (∀ m, ks.getD (i + j) .gives = .stores m → ks.getD m .gives = .makes (some (i + j)) ∧ (m < n → ∃ e ∈ o.after, Region.binds .any e = true ∧ e.on = m)) ∧
    (∀ k, ks.getD (i + j) .gives = .makes (some k) → ks.getD k .gives = .stores (i + j)) ∧ (∀ e ∈ o.after, Region.binds .any e = true → e.on < i + j)
  | [], _, _, _, _, h => by simp at h
  | o' :: rest, i, 0, o, hok, h => by
    simp at h
    subst h
    simp only [okFrom, Bool.and_eq_true] at hok
    obtain ⟨⟨⟨h1, _⟩, h3⟩, _⟩ := hok
    rw [Nat.add_zero]
    refine ⟨fun m hm => ?_, fun k hk => ?_, fun e he hb => ?_⟩
    · rw [hm] at h1
      simp only [Bool.and_eq_true, beq_iff_eq, Bool.or_eq_true, decide_eq_true_eq, Array.any_eq_true'] at h1
      exact ⟨h1.1, fun lt => (h1.2.resolve_left (by omega)).imp fun e he => ⟨he.1, he.2.1, he.2.2⟩⟩
    · rw [hk] at h1
      simpa using h1
    · have := (Array.all_eq_true_iff_forall_mem.1 h3) e he
      simpa [hb] using this
  | o' :: rest, i, j + 1, o, hok, h => by
    simp only [okFrom, Bool.and_eq_true] at hok
    have := ok_at n ks rest (i + 1) j o hok.2 (by simpa using h)
    rwa [show i + 1 + j = i + (j + 1) by omega] at this
theorem dst_apart (n : Nat) (ks : List Kind) : ∀ (l : List Oper) (i j k : Nat) (o o' : Oper) (d : Nat), okFrom n ks i l = true → l[j]? = some o → l[k]? = some o' → o.dst = some d → o'.dst = some d → j = k
  | [], _, _, _, _, _, _, _, h, _, _, _ => by simp at h
  | x :: rest, i, 0, 0, _, _, _, _, _, _, _, _ => rfl
  | x :: rest, i, 0, k + 1, o, o', d, hok, h, h', hd, hd' => by
    simp at h h'
    subst h
    simp only [okFrom, Bool.and_eq_true, hd, List.all_eq_true, bne_iff_ne, ne_eq] at hok
    exact absurd hd' (hok.1.1.2 o' (List.mem_of_getElem? h'))
  | x :: rest, i, j + 1, 0, o, o', d, hok, h, h', hd, hd' => by
    simp at h h'
    subst h'
    simp only [okFrom, Bool.and_eq_true, hd', List.all_eq_true, bne_iff_ne, ne_eq] at hok
    exact absurd hd (hok.1.1.2 o (List.mem_of_getElem? h))
  | x :: rest, i, j + 1, k + 1, o, o', d, hok, h, h', hd, hd' => by
    simp only [okFrom, Bool.and_eq_true] at hok
    exact congrArg (· + 1) (dst_apart n ks rest (i + 1) j k o o' d hok.2 (by simpa using h) (by simpa using h') hd hd')
theorem count_set : ∀ (l : List Bool) (i : Nat), l[i]? = some false → (l.set i true).countP (!·) + 1 = l.countP (!·)
  | [], _, h => by simp at h
  | b :: l, 0, h => by simp at h; subst h; simp
  | b :: l, i + 1, h => by
    have := count_set l i (by simpa using h)
    simp only [List.set_cons_succ, List.countP_cons]
    omega
def doneOf (m : Nat) (listed : Array Bool) (i : Nat) : Bool := listed.getD i (decide (i < listed.size + m))
theorem doneOf_lt {m : Nat} {listed : Array Bool} {i : Nat} (h : i < listed.size) : doneOf m listed i = listed[i] := by
  unfold doneOf; simp [h]
theorem doneOf_ge {m : Nat} {listed : Array Bool} {i : Nat} (h : listed.size ≤ i) : doneOf m listed i = decide (i < listed.size + m) := by
  unfold doneOf; rw [Array.getD_eq_getD_getElem?, Array.getElem?_eq_none h]; rfl
theorem doneOf_set {m : Nat} {listed : Array Bool} {i : Nat} (h : i < listed.size) (j : Nat) : doneOf m (listed.setIfInBounds i true) j = if j = i then true else doneOf m listed j := by
  unfold doneOf
  by_cases e : j = i
  · subst e; simp [h]
  · rw [if_neg e]; simp [Array.getElem?_setIfInBounds_ne (Ne.symm e)]
theorem doneOf_of {m : Nat} {listed : Array Bool} {i : Nat} (h : listed.getD i false = true) : doneOf m listed i = true := by
  rcases Nat.lt_or_ge i listed.size with g | g
  · rw [doneOf_lt g]; simpa [g] using h
  · rw [Array.getD_eq_getD_getElem?, Array.getElem?_eq_none g] at h; cases h
section
variable {P : Program} {l : List Oper} {ks : List Kind} {val : Nat → Nat → Value} {obj : Nat → Obj} {Q : Exit → Act → World → Prop} {w0 : World} {a0 : Act} {pre : List Nat} {B : Nat}
/-- Nobody is left, if nobody may come up. -/
theorem all_done (hok : okFrom l.length ks 0 l = true) {listed : Array Bool} (hs : listed.size = l.length) (hr : Region.ready .any l.toArray listed = []) : ∀ n i, i < n → i < l.length → doneOf pre.length listed i = true
  | 0, _, h, _ => by omega
  | n + 1, i, h, hl => by
    cases hd : doneOf pre.length listed i
    · have hi : i ∈ Region.ready .any l.toArray listed := by
        rw [mem_ready]
        refine ⟨?_, l[i], by simp [hl], fun e he hb => ?_⟩
        · unfold doneOf at hd
          rw [Array.getD_eq_getD_getElem?] at hd ⊢
          rw [Array.getElem?_eq_getElem (by omega)] at hd ⊢
          simpa using hd
        · have lt := (ok_at _ ks l 0 i l[i] hok (by simp [hl])).2.2 e he hb
          have := all_done hok hs hr n e.on (by omega) (by omega)
          rw [doneOf_lt (by omega)] at this
          rw [Array.getD_eq_getD_getElem?, Array.getElem?_eq_getElem (by omega)]
          simpa using this
      rw [hr] at hi
      cases hi
    · rfl
/-- One more has come up. -/
theorem come_step (hok : okFrom l.length ks 0 l = true) (hpk : okPre l.length pre.length ks = true) (hB : ∀ b ∈ pre, B ≤ b ∧ b < w0.heap.size) (hB0 : B ≤ w0.heap.size) (hks : ks.length = l.length + pre.length) {D : Nat → Bool} {own : Nat → Nat} {a : Act} {w w' : World} {i p : Nat} {o : Oper} (h : Come l (fun i => ks.getD i .gives) val obj pre B w0 a0 D own a w) (hi : l[i]? = some o) (hd : D i = false)
    (hdep : ∀ e ∈ o.after, Region.binds .any e = true → D e.on = true) (hl : Left (fun i => ks.getD i .gives) obj own i w p w') :
    Come l (fun i => ks.getD i .gives) val obj pre B w0 a0 (fun j => if j = i then true else D j) (fun j => if j = i then p else own j) (a.put o.dst (val i p)) w' := by
  have hk := ok_at _ ks l 0 i o hok hi
  rw [Nat.zero_add] at hk
  obtain ⟨hst, hmk, _⟩ := hk
  have hin : i < l.length := (List.getElem?_eq_some_iff.1 hi).1
  have lt : ∀ j, D j = true → (ks.getD j .gives).isMakes = true → own j < w.heap.size := fun j hj hm => by
    have := h.made j hj hm
    rcases Nat.lt_or_ge (own j) w.heap.size with g | g
    · exact g
    · rw [Array.getElem?_eq_none g] at this; cases this
  have hni : ∀ j, D j = true → j ≠ i := fun j hj e => by rw [e, hd] at hj; cases hj
  -- those that were there
  have isPre : ∀ j, D j = true → l.length ≤ j → own j ∈ pre := fun j hj hl => by
    have hw := h.within j hj
    obtain ⟨k, rfl⟩ : ∃ k, j = l.length + k := ⟨j - l.length, by omega⟩
    have hk : k < pre.length := by omega
    have := (h.there k pre[k] (by simp [hk])).2
    rw [this]
    exact List.getElem_mem hk
  -- a maker's store is its own
  have hown : ∀ j k, D j = true → ks.getD j .gives = .makes (some k) → ks.getD k .gives = .stores j := fun j k hj e => by
    rcases Nat.lt_or_ge j l.length with hl | hl
    · have := (ok_at _ ks l 0 j l[j] hok (by simp [hl])).2.1 k (by rw [Nat.zero_add]; exact e)
      rwa [Nat.zero_add] at this
    · have hw := h.within j hj
      obtain ⟨m, rfl⟩ : ∃ m, j = l.length + m := ⟨j - l.length, by omega⟩
      have := List.all_eq_true.1 hpk m (by simp; omega)
      rw [e] at this
      simpa using this
  -- the store comes behind its maker
  have done : ∀ m, ks.getD i .gives = .stores m → m < l.length → D m = true := fun m e hl => by
    obtain ⟨_, hx⟩ := hst m e
    obtain ⟨ed, he, hb, hon⟩ := hx hl
    exact hon ▸ hdep ed he hb
  have base : w0.heap.size ≤ w.heap.size := by
    exact h.below.size
  have cont : ∀ j, D j = true → (∀ m, ks.getD i .gives = .stores m → m ≠ j) → contOf (fun i => ks.getD i .gives) obj (fun j => if j = i then true else D j) j = contOf (fun i => ks.getD i .gives) obj D j := fun j hj hm => by
    unfold contOf
    cases e : ks.getD j .gives with
    | gives => simp only [e]
    | stores m => simp only [e]
    | makes k =>
      cases k with
      | none => simp only [e]
      | some k =>
        have hki : k ≠ i := fun ek => by
          subst ek
          exact hm j (hown j k hj e) rfl
        simp only [e, if_neg hki]
  have keep : ∀ o', l[i]? = some o' → o' = o := fun o' h' => by rw [hi] at h'; exact (Option.some.inj h').symm
  -- what is stored into
  have low : ∀ m, ks.getD i .gives = .stores m → D m = true → B ≤ own m ∧ (own m < w0.heap.size → own m ∈ pre) := fun m e dm => by
    have hmk' := (hst m e).1
    rcases Nat.lt_or_ge m l.length with hl | hl
    · have := h.new m dm (by simp only [hmk']; rfl) hl
      exact ⟨by omega, fun g => by omega⟩
    · have := isPre m dm hl
      exact ⟨(hB _ this).1, fun _ => this⟩
  have dmAll : ∀ m, ks.getD i .gives = .stores m → m < l.length + pre.length → D m = true := fun m e hl => by
    rcases Nat.lt_or_ge m l.length with g | g
    · exact done m e g
    · obtain ⟨k, rfl⟩ : ∃ k, m = l.length + k := ⟨m - l.length, by omega⟩
      have hk : k < pre.length := by omega
      exact (h.there k pre[k] (by simp [hk])).1
  have small : ∀ m, ks.getD i .gives = .stores m → m < l.length + pre.length := fun m e => by
    have := (hst m e).1
    rcases Nat.lt_or_ge m ks.length with g | g
    · omega
    · rw [List.getD_eq_getElem?_getD, List.getElem?_eq_none g] at this; cases this
  refine ⟨?_, ?_, ?_, ?_, ?_, ?_, ?_, ?_, ?_, ?_, ?_, ?_⟩
  · unfold Left at hl
    cases e : ks.getD i .gives with
    | gives => simp only [e] at hl; exact h.below.trans (hl.mono (by omega))
    | makes k => simp only [e] at hl; exact h.below.trans (hl.2.1.mono (by omega))
    | stores m =>
      simp only [e] at hl
      obtain ⟨b1, b2, b3, b4, b5, _⟩ := hl
      have := (low m e (dmAll m e (small m e))).1
      exact h.below.trans ⟨b1, b2, b3, b4, fun k hk => b5 k (by omega) (by omega)⟩
  · intro b hb hp
    unfold Left at hl
    cases e : ks.getD i .gives with
    | gives => simp only [e] at hl; rw [hl.block b (by omega)]; exact h.keep b hb hp
    | makes k => simp only [e] at hl; rw [hl.2.1.block b (by omega)]; exact h.keep b hb hp
    | stores m =>
      simp only [e] at hl
      obtain ⟨b1, b2, b3, b4, b5, _⟩ := hl
      rw [b5 b (fun eb => hp (eb ▸ (low m e (dmAll m e (small m e))).2 (eb ▸ hb))) (by omega)]
      exact h.keep b hb hp
  · intro j hj hm
    by_cases e : j = i
    · subst e
      simp only [if_true]
      unfold Left at hl
      cases e : ks.getD j .gives with
      | gives => rw [e] at hm; cases hm
      | stores m => rw [e] at hm; cases hm
      | makes k =>
        simp only [e] at hl
        refine hl.2.2.trans ?_
        unfold contOf
        cases k with
        | none => simp only [e]
        | some k =>
          have hs := hmk k e
          have hkj : k ≠ j := fun ek => by rw [ek, e] at hs; cases hs
          have dk : D k = false := by
            cases dk : D k
            · rfl
            · rcases Nat.lt_or_ge k l.length with hk' | hk'
              · have := (ok_at _ ks l 0 k l[k] hok (by simp [hk'])).1 j (by rw [Nat.zero_add]; exact hs)
                obtain ⟨_, hx⟩ := this
                obtain ⟨ed, he, hb, hon⟩ := hx hin
                have := h.closed k l[k] (by simp [hk']) dk ed he hb
                rw [hon, hd] at this
                cases this
              · have hw := h.within k dk
                obtain ⟨m, rfl⟩ : ∃ m, k = l.length + m := ⟨k - l.length, by omega⟩
                have := List.all_eq_true.1 hpk m (by simp; omega)
                rw [hs] at this
                cases this
          simp only [e, if_neg hkj, dk]
          rfl
    · simp only [if_neg e] at hj ⊢
      have h2 := h.made j hj hm
      unfold Left at hl
      cases ei : ks.getD i .gives with
      | gives => simp only [ei] at hl; rw [cont j hj (fun m hm => by rw [ei] at hm; cases hm), hl.block _ (lt j hj hm)]; exact h2
      | makes k => simp only [ei] at hl; rw [cont j hj (fun m hm => by rw [ei] at hm; cases hm), hl.2.1.block _ (lt j hj hm)]; exact h2
      | stores m =>
        simp only [ei] at hl
        obtain ⟨_, _, _, _, b5, b6⟩ := hl
        have hmk' := (hst m ei).1
        have dm := dmAll m ei (small m ei)
        by_cases ej : j = m
        · subst ej
          rw [b6]
          unfold contOf
          simp only [hmk', if_true]
        · rw [cont j hj (fun m' hm' e' => by rw [ei] at hm'; cases hm'; exact ej e'.symm), b5 _ (h.apart j m hj dm hm (by simp only [hmk']; rfl) ej) (lt j hj hm)]
          exact h2
  · intro j hj hm hjl
    by_cases e : j = i
    · subst e
      simp only [if_true]
      unfold Left at hl
      cases e : ks.getD j .gives with
      | gives => rw [e] at hm; cases hm
      | stores m => rw [e] at hm; cases hm
      | makes k => simp only [e] at hl; omega
    · simp only [if_neg e] at hj ⊢
      exact h.new j hj hm hjl
  · intro k b hk
    have ne : l.length + k ≠ i := by omega
    simp only [if_neg ne]
    exact h.there k b hk
  · intro j k hj hk mj mk hjk
    have pge : (ks.getD i .gives).isMakes = true → w.heap.size ≤ p := fun hm => by
      unfold Left at hl
      cases ei : ks.getD i .gives with
      | gives => rw [ei] at hm; cases hm
      | stores m => rw [ei] at hm; cases hm
      | makes k => simp only [ei] at hl; exact hl.1
    by_cases ej : j = i
    · subst ej
      have ek : k ≠ j := Ne.symm hjk
      simp only [if_neg ek] at hk
      simp only [if_true, if_neg ek]
      have := pge mj
      have := lt k hk mk
      omega
    · by_cases ek : k = i
      · subst ek
        simp only [if_neg ej] at hj
        simp only [if_true, if_neg ej]
        have := pge mk
        have := lt j hj mj
        omega
      · simp only [if_neg ej] at hj
        simp only [if_neg ek] at hk
        simp only [if_neg ej, if_neg ek]
        exact h.apart j k hj hk mj mk hjk
  · cases e : o.dst <;> simpa [Act.put] using h.defers
  · cases e : o.dst <;> simpa [Act.put] using h.size
  · intro j o' d hj hdj hd' hs
    by_cases e : j = i
    · subst e
      rw [keep o' hj] at hd'
      rw [hd', put_get_same (by rw [h.size]; exact hs)]
      simp only [if_true]
    · simp only [if_neg e] at hdj ⊢
      rw [put_get_other (fun ho => e (dst_apart _ ks l 0 j i o' o d hok hj hi hd' ho))]
      exact h.put j o' d hj hdj hd' hs
  · intro t ht
    rw [put_get_other (ht i o hi (by simp only [if_true]))]
    exact h.rest t fun j o' hj hdj => ht j o' hj (by simp only [if_neg (hni j hdj)]; exact hdj)
  · intro j hj
    by_cases e : j = i
    · subst e
      omega
    · simp only [if_neg e] at hj
      exact h.within j hj
  · intro j o' hj hdj ed he hb
    by_cases e : j = i
    · subst e
      rw [keep o' hj] at he
      have := hdep ed he hb
      simp only [if_neg (hni _ this)]
      exact this
    · simp only [if_neg e] at hdj
      have := h.closed j o' hj hdj ed he hb
      simp only [if_neg (hni _ this)]
      exact this
theorem act_all (hok : okFrom l.length ks 0 l = true) {D : Nat → Bool} {own : Nat → Nat} {a : Act} {w : World} (h : Come l (fun i => ks.getD i .gives) val obj pre B w0 a0 D own a w) (hd : ∀ i, i < l.length → D i = true) :
    a = putAll (fun i => val i (own i)) 0 l a0 := by
  refine act_ext (by rw [putAll_defers]; exact h.defers) fun t => ?_
  by_cases ht : t < a0.tmps.size
  · by_cases e : ∀ o ∈ l, o.dst ≠ some t
    · rw [putAll_other _ l 0 a0 t e]
      exact h.rest t fun i o hi _ => e o (List.mem_of_getElem? hi)
    · obtain ⟨o, ho, hot⟩ : ∃ o, o ∈ l ∧ o.dst = some t := by
        obtain ⟨o, ho⟩ := Classical.not_forall.1 e
        obtain ⟨ho, hn⟩ := Classical.not_imp.1 ho
        exact ⟨o, ho, by simpa using hn⟩
      obtain ⟨i, hi⟩ := List.mem_iff_getElem?.1 ho
      rw [h.put i o t hi (hd i (List.getElem?_eq_some_iff.1 hi).1) hot ht, putAll_same _ ks _ l 0 a0 i o t hok hi hot ht]
      simp
  · rw [Array.getElem?_eq_none (by rw [h.size]; omega), Array.getElem?_eq_none (by rw [putAll_size]; omega)]
/-- All that is known when all have come up. -/
def Whole (l : List Oper) (ks : List Kind) (val : Nat → Nat → Value) (obj : Nat → Obj) (pre : List Nat) (B : Nat) (w0 : World) (a0 : Act) (own : Nat → Nat) (w : World) : Prop :=
  Come l (fun i => ks.getD i .gives) val obj pre B w0 a0 (fun i => decide (i < l.length + pre.length)) own (putAll (fun i => val i (own i)) 0 l a0) w
theorem each_any (hok : okFrom l.length ks 0 l = true) (hpk : okPre l.length pre.length ks = true) (hB : ∀ b ∈ pre, B ≤ b ∧ b < w0.heap.size) (hB0 : B ≤ w0.heap.size) (hks : ks.length = l.length + pre.length)
    (hstep : ∀ i o, l[i]? = some o → ∀ D own a w, Come l (fun i => ks.getD i .gives) val obj pre B w0 a0 D own a w → D i = false → (∀ e ∈ o.after, Region.binds .any e = true → D e.on = true) → Does P l (fun i => ks.getD i .gives) val obj Q i o own a w)
    (hdone : ∀ own w, Whole l ks val obj pre B w0 a0 own w → Q .normal (putAll (fun i => val i (own i)) 0 l a0) w) :
    ∀ (fuel : Nat) (listed : Array Bool) (own : Nat → Nat) (a : Act) (w : World), listed.size = l.length → listed.toList.countP (!·) ≤ fuel → Come l (fun i => ks.getD i .gives) val obj pre B w0 a0 (doneOf pre.length listed) own a w → wpAny P .any l.toArray Q fuel listed a w := by
  have fin : ∀ (listed : Array Bool) (own : Nat → Nat) (a : Act) (w : World), listed.size = l.length → (∀ i, i < l.length → doneOf pre.length listed i = true) → Come l (fun i => ks.getD i .gives) val obj pre B w0 a0 (doneOf pre.length listed) own a w → Q .normal a w := by
    intro listed own a w hs hd h
    obtain rfl := act_all hok h hd
    refine hdone own w ?_
    have e : doneOf pre.length listed = fun i => decide (i < l.length + pre.length) := by
      funext i
      by_cases hi : i < l.length
      · rw [hd i hi]; simp; omega
      · rw [doneOf_ge (by omega), hs]
    rw [e] at h
    exact h
  have idx : ∀ (listed : Array Bool) (i : Nat), listed.getD i true = false → listed[i]? = some false := fun listed i h => by
    rw [Array.getD_eq_getD_getElem?] at h
    cases e : listed[i]? with
    | none => rw [e] at h; cases h
    | some b => rw [e] at h; simpa using h
  intro fuel
  induction fuel with
  | zero =>
    intro listed own a w hs hc h
    have hr : Region.ready .any l.toArray listed = [] := by
      rw [List.eq_nil_iff_forall_not_mem]
      intro i hi
      have := idx listed i (mem_ready.1 hi).1
      have hp : 0 < listed.toList.countP (!·) := List.countP_pos_iff.2 ⟨false, List.mem_of_getElem? (by simpa using this), rfl⟩
      omega
    exact ⟨hr, fin listed own a w hs (fun i hi => all_done hok hs hr (i + 1) i (by omega) hi) h⟩
  | succ fuel ih =>
    intro listed own a w hs hc h
    refine ⟨fun hr => fin listed own a w hs (fun i hi => all_done hok hs hr (i + 1) i (by omega) hi) h, fun i hi => ?_⟩
    obtain ⟨h0, o, ho, hdep⟩ := mem_ready.1 hi
    have h1 := idx listed i h0
    have lt : i < listed.size := (Array.getElem?_eq_some_iff.1 h1).1
    have hd : doneOf pre.length listed i = false := by
      rw [doneOf_lt lt]
      rw [Array.getElem?_eq_getElem lt] at h1
      exact Option.some.inj h1
    have hdep' : ∀ e ∈ o.after, Region.binds .any e = true → doneOf pre.length listed e.on = true := fun e he hb => doneOf_of (hdep e he hb)
    have ho' : l[i]? = some o := by simpa using ho
    have D := hstep i o ho' (doneOf pre.length listed) own a w h hd hdep' (wpAny P .any l.toArray Q fuel (listed.setIfInBounds i true)) (fun p w' hl => by
      refine ih (listed.setIfInBounds i true) (fun j => if j = i then p else own j) _ w' (by simpa using hs) ?_ ?_
      · have := count_set listed.toList i (by simpa using h1)
        simp only [Array.toList_setIfInBounds]
        omega
      · have := come_step hok hpk hB hB0 hks h ho' hd hdep' hl
        have e : (fun j => if j = i then true else doneOf pre.length listed j) = doneOf pre.length (listed.setIfInBounds i true) := funext fun j => (doneOf_set lt j).symm
        rw [e] at this
        exact this)
    unfold wpOp
    simp only [ho]
    split at D
    · rename_i hw; simp only [hw, if_true]; exact .inl D
    · rename_i hw; simp only [hw]; exact D
/-- **The law**: each operation is looked at once. -/
theorem wp_region_each {id : Nat} (ks : List Kind) (val : Nat → Nat → Value) (obj : Nat → Obj) (pre : List Nat) (B : Nat) (hm : P.follows .mixedOrders = true) (hok : okFrom l.length ks 0 l = true) (hpk : okPre l.length pre.length ks = true) (hks : ks.length = l.length + pre.length)
    (hB : ∀ b ∈ pre, B ≤ b ∧ b < w0.heap.size) (hB0 : B ≤ w0.heap.size) (hnd : pre.Nodup) (hpre : ∀ k b, pre[k]? = some b → w0.heap[b]? = some (obj (l.length + k)))
    (hstep : ∀ i o, l[i]? = some o → ∀ D own a w, Come l (fun i => ks.getD i .gives) val obj pre B w0 a0 D own a w → D i = false → (∀ e ∈ o.after, Region.binds .any e = true → D e.on = true) → Does P l (fun i => ks.getD i .gives) val obj Q i o own a w)
    (hdone : ∀ own w, Whole l ks val obj pre B w0 a0 own w → Q .normal (putAll (fun i => val i (own i)) 0 l a0) w) : (Code.region id l.toArray true).wp P Q a0 w0 := by
  refine wp_region_any hm (each_any hok hpk hB hB0 hks hstep hdone _ _ (fun i => pre.getD (i - l.length) 0) a0 _ (by simp) ?_ ?_)
  · simp [List.countP_replicate]
  · have e0 : ∀ i, i < l.length → doneOf pre.length (Array.replicate l.toArray.size false) i = false := fun i hi => by rw [doneOf_lt (by simpa using hi)]; simp
    have ge : ∀ i, doneOf pre.length (Array.replicate l.toArray.size false) i = true → l.length ≤ i ∧ i < l.length + pre.length := fun i hi => by
      rcases Nat.lt_or_ge i l.length with g | g
      · rw [e0 i g] at hi; cases hi
      · rw [doneOf_ge (by simpa using g)] at hi
        exact ⟨g, by simpa using hi⟩
    have at' : ∀ i, doneOf pre.length (Array.replicate l.toArray.size false) i = true → ∃ k, i = l.length + k ∧ k < pre.length ∧ pre[k]? = some (pre.getD (i - l.length) 0) := fun i hi => by
      obtain ⟨g, g'⟩ := ge i hi
      refine ⟨i - l.length, by omega, by omega, ?_⟩
      rw [List.getD_eq_getElem?_getD, List.getElem?_eq_getElem (by omega)]
      rfl
    refine ⟨⟨rfl, rfl, rfl, Nat.le_refl _, fun _ _ => rfl⟩, fun _ _ _ => rfl, fun i hi hm => ?_, fun i hi _ hl => ?_, fun k b hk => ?_, fun i j hi hj _ _ hij => ?_, rfl, rfl, fun i _ _ h hi => ?_, fun _ _ => rfl, fun i hi => (ge i hi).2, fun i _ h hi => ?_⟩
    · obtain ⟨k, rfl, hk, hp⟩ := at' i hi
      refine (hpre k _ hp).trans ?_
      unfold contOf
      have := List.all_eq_true.1 hpk k (by simpa using hk)
      cases e : ks.getD (l.length + k) .gives with
      | gives => simp only [e]
      | stores m => simp only [e]
      | makes s =>
        cases s with
        | none => simp only [e]
        | some s =>
          rw [e] at this
          simp only [beq_iff_eq] at this
          have ds : doneOf pre.length (Array.replicate l.toArray.size false) s = false := by
            cases d : doneOf pre.length (Array.replicate l.toArray.size false) s
            · rfl
            · obtain ⟨m, rfl, hm', _⟩ := at' s d
              have := List.all_eq_true.1 hpk m (by simpa using hm')
              rw [‹ks.getD (l.length + m) .gives = _›] at this
              cases this
          simp only [e, ds]
          rfl
    · exact absurd (ge i hi).1 (by omega)
    · have hk' : k < pre.length := (List.getElem?_eq_some_iff.1 hk).1
      refine ⟨by rw [doneOf_ge (by simp)]; simp [hk'], ?_⟩
      rw [List.getD_eq_getElem?_getD, show l.length + k - l.length = k by omega, hk]
      rfl
    · obtain ⟨k, rfl, hk, hp⟩ := at' i hi
      obtain ⟨m, rfl, hm', hq⟩ := at' j hj
      intro e
      rw [e, ← hq] at hp
      exact hij (congrArg (l.length + ·) ((List.getElem?_inj hk hnd).1 hp))
    · have := (List.getElem?_eq_some_iff.1 h).1
      rw [e0 i this] at hi
      cases hi
    · have := (List.getElem?_eq_some_iff.1 h).1
      rw [e0 i this] at hi
      cases hi
end
/-- A fact of each operation of a row. -/
def EachOp (p : Nat → Oper → Prop) : Nat → List Oper → Prop
  | _, [] => True
  | i, o :: rest => p i o ∧ EachOp p (i + 1) rest
theorem EachOp.nil {p : Nat → Oper → Prop} {i : Nat} : EachOp p i [] := trivial
theorem EachOp.cons {p : Nat → Oper → Prop} {i : Nat} {o : Oper} {rest : List Oper} (h : p i o) (r : EachOp p (i + 1) rest) : EachOp p i (o :: rest) := ⟨h, r⟩
theorem EachOp.at {p : Nat → Oper → Prop} : ∀ {l : List Oper} {k : Nat}, EachOp p k l → ∀ i o, l[i]? = some o → p (k + i) o
  | [], _, _, _, _, h => by simp at h
  | x :: rest, k, h, 0, o, hi => by simp at hi; subst hi; exact h.1
  | x :: rest, k, h, i + 1, o, hi => by
    have := EachOp.at h.2 i o (by simpa using hi)
    rwa [show k + 1 + i = k + (i + 1) by omega] at this
section
variable {P : Program} {l : List Oper} {kd : Nat → Kind} {val : Nat → Nat → Value} {obj : Nat → Obj} {Q : Exit → Act → World → Prop} {w0 : World} {a0 : Act} {pre : List Nat} {B : Nat}
/-- What the law asks of operation i. -/
def Turn (P : Program) (l : List Oper) (ks : List Kind) (val : Nat → Nat → Value) (obj : Nat → Obj) (pre : List Nat) (B : Nat) (Q : Exit → Act → World → Prop) (w0 : World) (a0 : Act) (i : Nat) (o : Oper) : Prop :=
  ∀ D own a w, Come l (fun i => ks.getD i .gives) val obj pre B w0 a0 D own a w → D i = false → (∀ j, o.after.any (fun e => Region.binds .any e && e.on == j) = true → D j = true) → Does P l (fun i => ks.getD i .gives) val obj Q i o own a w
/-- **The law**, as it is used: no block that was there is stored into. -/
theorem wp_region_turns {id : Nat} (ks : List Kind) (val : Nat → Nat → Value) (obj : Nat → Obj) (hm : P.follows .mixedOrders = true) (hok : okFrom l.length ks 0 l = true) (hks : ks.length = l.length)
    (hstep : EachOp (Turn P l ks val obj [] w0.heap.size Q w0 a0) 0 l)
    (hdone : ∀ own w, Whole l ks val obj [] w0.heap.size w0 a0 own w → Q .normal (putAll (fun i => val i (own i)) 0 l a0) w) : (Code.region id l.toArray true).wp P Q a0 w0 :=
  wp_region_each ks val obj [] w0.heap.size hm hok rfl hks (fun _ h => by cases h) (Nat.le_refl _) .nil (fun _ _ h => by simp at h) (fun i o hi D own a w hI hn hd => by
    have := hstep.at i o hi
    rw [Nat.zero_add] at this
    exact this D own a w hI hn fun j hj => by
      obtain ⟨e, he, hb⟩ := Array.any_eq_true'.1 hj
      simp only [Bool.and_eq_true, beq_iff_eq] at hb
      exact hb.2 ▸ hd e he hb.1) hdone
/-- .. a result's own variable, in block r, is stored into. -/
theorem wp_region_turns_into {id : Nat} (r : Nat) (ks : List Kind) (val : Nat → Nat → Value) (obj : Nat → Obj) (hm : P.follows .mixedOrders = true) (hok : okFrom l.length ks 0 l = true) (hpk : okPre l.length 1 ks = true) (hks : ks.length = l.length + 1)
    (hr : w0.heap[r]? = some (obj l.length))
    (hstep : EachOp (Turn P l ks val obj [r] r Q w0 a0) 0 l)
    (hdone : ∀ own w, Whole l ks val obj [r] r w0 a0 own w → Q .normal (putAll (fun i => val i (own i)) 0 l a0) w) : (Code.region id l.toArray true).wp P Q a0 w0 := by
  have lt : r < w0.heap.size := by
    rcases Nat.lt_or_ge r w0.heap.size with g | g
    · exact g
    · rw [Array.getElem?_eq_none g] at hr; cases hr
  refine wp_region_each ks val obj [r] r hm hok hpk hks (fun b h => by simp at h; omega) (by omega) (by simp) (fun k b h => ?_) (fun i o hi D own a w hI hn hd => ?_) hdone
  · cases k with
    | zero => simp at h; subst h; exact hr
    | succ k => simp at h
  · have := hstep.at i o hi
    rw [Nat.zero_add] at this
    exact this D own a w hI hn fun j hj => by
      obtain ⟨e, he, hb⟩ := Array.any_eq_true'.1 hj
      simp only [Bool.and_eq_true, beq_iff_eq] at hb
      exact hb.2 ▸ hd e he hb.1
theorem Come.get {D : Nat → Bool} {own : Nat → Nat} {a : Act} {w : World} (h : Come l kd val obj pre B w0 a0 D own a w) {i : Nat} {o : Oper} {d : Nat} (hi : l[i]? = some o) (hD : D i = true) (hd : o.dst = some d) (hs : Nat.ble (d + 1) a0.tmps.size = true) :
    a.eval (.tmp d) = val i (own i) := by
  simp [Act.eval, h.put i o d hi hD hd (Nat.le_of_ble_eq_true hs)]
theorem Come.was {D : Nat → Bool} {own : Nat → Nat} {a : Act} {w : World} (h : Come l kd val obj pre B w0 a0 D own a w) {t : Nat} (ht : l.all (fun o => o.dst != some t) = true) : a.eval (.tmp t) = a0.eval (.tmp t) := by
  simp only [Act.eval, Array.getD_eq_getD_getElem?]
  rw [h.rest t fun i o hi _ => by simpa using List.all_eq_true.1 ht o (List.mem_of_getElem? hi)]
/-- What lies in a block that is not stored into yet. -/
theorem Come.fresh {D : Nat → Bool} {own : Nat → Nat} {a : Act} {w : World} (h : Come l kd val obj pre B w0 a0 D own a w) {i j : Nat} (hD : D j = true) (hk : kd j = .makes (some i)) (hn : D i = false) : w.heap[own j]? = some (obj j) := by
  have := h.made j hD (by rw [hk]; rfl)
  unfold contOf at this
  simpa [hk, hn] using this
theorem Come.blk {D : Nat → Bool} {own : Nat → Nat} {a : Act} {w : World} (h : Come l kd val obj pre B w0 a0 D own a w) {b : Nat} {ob : Obj} (hb : w0.heap[b]? = some ob) (hp : b ∉ pre := by first | (simp; done) | (simp; omega)) : w.heap[b]? = some ob := by
  have lt : b < w0.heap.size := by
    rcases Nat.lt_or_ge b w0.heap.size with g | g
    · exact g
    · rw [Array.getElem?_eq_none g] at hb; cases hb
  rw [h.keep b lt hp]; exact hb
section
variable {i : Nat} {o : Oper} {own : Nat → Nat} {a : Act} {w : World}
theorem wanted_plain (hg : o.guard = none) (ops : Array Oper) (ts : Array Value) : Region.wanted o (yielded ops ts) = true := by unfold Region.wanted; rw [hg]
theorem does_value (hg : o.guard = none) (hk : kd i = .gives) (h : (execOp a.eval o).run P w = .ok (.value (val i 0)) w) : Does P l kd val obj Q i o own a w := fun K hK => by
  rw [if_pos (wanted_plain hg _ _)]
  unfold Oper.wp
  rw [h]
  exact hK 0 w (by unfold Left; rw [hk]; exact Below.refl _ _)
theorem does_call (hg : o.guard = none) (hk : kd i = .gives) {f : FuncId} {args : Array Value} (h : (execOp a.eval o).run P w = .ok (.enter f args) w)
    (hc : Calls P f args w fun e w' => e = .returned (val i 0) ∧ Below w.heap.size w w') : Does P l kd val obj Q i o own a w := fun K hK => by
  rw [if_pos (wanted_plain hg _ _)]
  unfold Oper.wp
  rw [h]
  refine hc.mono ?_
  rintro e w' ⟨rfl, hb⟩
  exact hK 0 w' (by unfold Left; rw [hk]; exact hb)
theorem left_new {k : Option Nat} (hk : kd i = .makes k) {ob : Obj} (ho : ob = obj i) : Left kd obj own i w w.heap.size (w.alloc ob) := by
  unfold Left
  rw [hk]
  exact ⟨Nat.le_refl _, (Below.refl _ _).alloc (Nat.le_refl _) _, ho ▸ heap_alloc_new w ob⟩
theorem does_new_call (hg : o.guard = none) {k : Option Nat} (hk : kd i = .makes k) {f : FuncId} {args : Array Value} (h : (execOp a.eval o).run P w = .ok (.enter f args) w)
    (hc : Calls P f args w fun e w' => e = .returned (val i w.heap.size) ∧ w' = w.alloc (obj i)) : Does P l kd val obj Q i o own a w := fun K hK => by
  rw [if_pos (wanted_plain hg _ _)]
  unfold Oper.wp
  rw [h]
  refine hc.mono ?_
  rintro e w' ⟨rfl, rfl⟩
  exact hK w.heap.size _ (left_new hk rfl)
theorem run_enter {f : FuncId} {fn : Func} (hf : P.funcs[f]? = some fn) (hn : (fn.name == "runtime.NumGoroutine") = false) (hb : fn.body.isNone = false) (args : Array Value) (w : World) : (callFunc f args).run P w = .ok (.enter f args) w := by
  have h1 : fn.name ≠ "runtime.NumGoroutine" := by simpa using hn
  have h2 : fn.body ≠ none := by intro e; rw [e] at hb; cases hb
  simp [callFunc, hf, h1, h2]
theorem run_call_go {x : Operand} {as : Array Operand} {ts : Array TypeId} (ho : o.op = .call ⟨.value x, as, ts⟩) {f : FuncId} {fn : Func} {first cap : Array Value} (hx : a.eval x = .func (.func f) first cap)
    (hf : P.funcs[f]? = some fn) (hn : (fn.name == "runtime.NumGoroutine") = false) (hb : fn.body.isNone = false) : (execOp a.eval o).run P w = .ok (.enter f (first ++ as.map a.eval ++ cap)) w := by
  unfold execOp
  simp only [ho, resolve, hx, Deferred.ofValue, invoke, Sem.run_bind, Sem.run_pure, Result.andThen_ok]
  exact run_enter hf hn hb _ w
/-- A call of a Go function, by its contract. -/
theorem does_go (hg : o.guard = none) (hk : kd i = .gives) {x : Operand} {as : Array Operand} {ts : Array TypeId} (ho : o.op = .call ⟨.value x, as, ts⟩) {f : FuncId} {fn : Func} {first cap : Array Value} (hx : a.eval x = .func (.func f) first cap)
    (hf : P.funcs[f]? = some fn) (hn : (fn.name == "runtime.NumGoroutine") = false) (hb : fn.body.isNone = false) (vs : Array Value) (hv : first ++ as.map a.eval ++ cap = vs)
    (hc : Calls P f vs w fun e w' => e = .returned (val i 0) ∧ Below w.heap.size w w') : Does P l kd val obj Q i o own a w :=
  does_call hg hk (hv ▸ run_call_go ho hx hf hn hb) hc
theorem does_new_go (hg : o.guard = none) {k : Option Nat} (hk : kd i = .makes k) {x : Operand} {as : Array Operand} {ts : Array TypeId} (ho : o.op = .call ⟨.value x, as, ts⟩) {f : FuncId} {fn : Func} {first cap : Array Value} (hx : a.eval x = .func (.func f) first cap)
    (hf : P.funcs[f]? = some fn) (hn : (fn.name == "runtime.NumGoroutine") = false) (hb : fn.body.isNone = false) (vs : Array Value) (hv : first ++ as.map a.eval ++ cap = vs)
    (hc : Calls P f vs w fun e w' => e = .returned (val i w.heap.size) ∧ w' = w.alloc (obj i)) : Does P l kd val obj Q i o own a w :=
  does_new_call hg hk (hv ▸ run_call_go ho hx hf hn hb) hc
theorem does_alloc (hg : o.guard = none) {k : Option Nat} (hk : kd i = .makes k) (h : (execOp a.eval o).run P w = .ok (.value (val i w.heap.size)) (w.alloc (obj i))) : Does P l kd val obj Q i o own a w := fun K hK => by
  rw [if_pos (wanted_plain hg _ _)]
  unfold Oper.wp
  rw [h]
  exact hK w.heap.size _ (left_new hk rfl)
theorem does_load (hg : o.guard = none) (hk : kd i = .gives) (ty : TypeId) (x : Operand) (ho : o.op = .load ty x) (g : Nat) (hx : a.eval x = .pointer (some ⟨g, 0, none⟩)) (t : TypeId) (cs : Array Value) (fr : Nat × Nat) (d : TypeDesc)
    (hh : w.heap[g]? = some (.cells cs t fr)) (hu : P.underlying ty = some d) (hd : (match d with | .struct _ | .array _ _ => true | _ => false) = true) (hi : (P.info? ty).map (·.size) = some cs.size) (hv : val i 0 = .agg cs) :
    Does P l kd val obj Q i o own a w := fun K hK => by
  rw [if_pos (wanted_plain hg _ _)]
  exact wp_load_row ty x ho g hx t cs fr d hh hu hd hi (hv ▸ hK 0 w (by unfold Left; rw [hk]; exact Below.refl _ _))
theorem does_store (hg : o.guard = none) {j : Nat} (hk : kd i = .stores j) (hdst : o.dst = none) (ty : TypeId) (x y : Operand) (ho : o.op = .store ty x y) (cs : Array Value) (hx : a.eval x = .pointer (some ⟨own j, 0, none⟩)) (hy : a.eval y = .agg cs)
    (t : TypeId) (old : Array Value) (hh : w.heap[own j]? = some (.cells old t (0, 0))) (hi : (P.info? ty).map (·.size) = some cs.size) (hs : old.size = cs.size) (h1 : cs.all (·.oneCell') = true) (hob : obj i = .cells cs t (0, 0)) :
    Does P l kd val obj Q i o own a w := fun K hK => by
  rw [if_pos (wanted_plain hg _ _)]
  refine wp_store_row ty x y ho (own j) cs hx hy t old hh hi hs h1 ?_
  have := hK 0 (w.setRow (own j) cs) (by
    unfold Left
    rw [hk]
    exact ⟨rfl, rfl, rfl, by simp [World.setRow], fun b hb _ => setRow_other w (own j) b cs hb, by rw [hob]; exact setRow_heap w (own j) old cs t (0, 0) hh⟩)
  rw [hdst] at this ⊢
  exact this
end
end
end Go.Proofs.YthmkfkmcamjnoaaDoor
