/-
  errors.Is: whether an error is, or wraps, a sort, a fault, or an error of errors.New's make.
-/
import Derived.Test.YtjdnekkbmanmdaaDoorUnw
import Derived.Deep.LoopGhost
namespace Go.Proofs.YtjdnekkbmanmdaaDoor
open Go.RowKit Go.Sort Go.Extern
set_option maxRecDepth 8000
/-- Whether the two are the same value. -/
def Er.is : Er → Er → Bool
  | .sort k, .sort k' => k == k'
  | .fault k o, .fault k' o' => k == k' && o == o'
  | _, _ => false
/-- Whether it is found in the chain. -/
def Er.has : Er → Er → Bool
  | .sort k, t => (Er.sort k).is t
  | .fault k o, t => (Er.fault k o).is t || (Er.sort k).is t
  | .note _ e, t => e.has t
/-- What may be looked for. -/
def Er.leaf : Er → Bool
  | .sort _ => true
  | .fault _ _ => true
  | _ => false
section
variable (w : World)
theorem eq_iface (ti tx : TypeId) (ms : Array (String × TypeId)) (vx vy : Value) (hi : Tryd.prog.underlying ti = some (.interface ms)) (hc : (Tryd.prog.info? tx).map (·.comparable) = some true) (b : Bool)
    (h : ∀ d, (Op.equalIn (d + 5) tx vx vy).run Tryd.prog w = .ok b w) : (binOp .eql ti (.iface tx vx) (.iface tx vy)).run Tryd.prog w = .ok (.bool b) w := by
  obtain ⟨i, hi', hcmp⟩ := Option.map_eq_some_iff.1 hc
  have hI : ∀ d, (Op.equalIn (d + 5 + 1) ti (.iface tx vx) (.iface tx vy)).run Tryd.prog w = .ok b w := by
    intro d
    have hd := h d
    generalize d + 5 = e at *
    simp [Op.equalIn, run_underlying hi, typeInfo, hi', hcmp, hd]
  have := hI 9994
  simp only [binOp]
  simp [Op.equal, Op.maxDepth, this]
theorem eq_sort (k k' : Int) : (binOp .eql 32 (.iface 65 (.int .i64 k)) (.iface 65 (.int .i64 k'))).run Tryd.prog w = .ok (.bool (k == k')) w :=
  eq_iface w _ _ _ _ _ Tryd.underlying32 (by kernel_rfl) _ fun _ => run_equalIn_int w _ _ _ _ _ _ Tryd.underlying65
theorem eqI_fault (k o k' o' : Int) (d : Nat) : (Op.equalIn (d + 5) 69 (.agg #[.int .i64 k, .int .i64 o]) (.agg #[.int .i64 k', .int .i64 o'])).run Tryd.prog w = .ok (k == k' && o == o') w := by
  have e1 : ∀ d, (Op.equalIn (d + 1) 65 (.int .i64 k) (.int .i64 k')).run Tryd.prog w = .ok (k == k') w := fun d => run_equalIn_int w _ _ _ _ _ _ Tryd.underlying65
  have e2 : ∀ d, (Op.equalIn (d + 1) 2 (.int .i64 o) (.int .i64 o')).run Tryd.prog w = .ok (o == o') w := fun d => run_equalIn_int w _ _ _ _ _ _ Tryd.underlying2
  have p1 : ∀ (a b : Int), (part 65 #[.int .i64 a, .int .i64 b] 0).run Tryd.prog w = .ok (.int .i64 a) w := fun a b => by kernel_rfl
  have p2 : ∀ (a b : Int), (part 2 #[.int .i64 a, .int .i64 b] 1).run Tryd.prog w = .ok (.int .i64 b) w := fun a b => by kernel_rfl
  rw [run_equalIn_struct w _ 69 _ _ (by kernel_rfl) (by kernel_rfl)]
  have hf : ((Tryd.prog.fieldsOf 69).toList.map fun f => (f.name, f.type, f.offset)) = [("sort", 65, 0), ("off", 2, 1)] := by kernel_rfl
  generalize (Tryd.prog.fieldsOf 69).toList = fs at hf
  have hl : fs.length = 2 := by simpa using congrArg List.length hf
  obtain ⟨f, g, rfl⟩ : ∃ f g, fs = [f, g] := by
    cases fs with
    | nil => cases hl
    | cons f r =>
      cases r with
      | nil => cases hl
      | cons g r =>
        cases r with
        | nil => exact ⟨f, g, rfl⟩
        | cons h r => simp at hl
  simp only [List.map_cons, List.map_nil, List.cons.injEq, Prod.mk.injEq, and_true] at hf
  obtain ⟨⟨n1, t1, o1⟩, n2, t2, o2⟩ := hf
  have q1 : ∀ (a b : Int), (part f.type #[.int .i64 a, .int .i64 b] f.offset).run Tryd.prog w = .ok (.int .i64 a) w := by rw [t1, o1]; exact p1
  have q2 : ∀ (a b : Int), (part g.type #[.int .i64 a, .int .i64 b] g.offset).run Tryd.prog w = .ok (.int .i64 b) w := by rw [t2, o2]; exact p2
  have r1 : (Op.equalIn (d + 4) f.type (.int .i64 k) (.int .i64 k')).run Tryd.prog w = .ok (k == k') w := by rw [t1]; exact e1 _
  have r2 : (Op.equalIn (d + 4) g.type (.int .i64 o) (.int .i64 o')).run Tryd.prog w = .ok (o == o') w := by rw [t2]; exact e2 _
  have m1 : f.name ≠ "_" := by rw [n1]; decide
  have m2 : g.name ≠ "_" := by rw [n2]; decide
  generalize (k == k') = x at *
  generalize (o == o') = y at *
  simp only [Op.eqFields, m1, m2, ne_eq, not_false_eq_true, if_true, Sem.run_bind, q1, r1, Result.andThen_ok]
  cases x <;> cases y <;> simp [q2, r2]
theorem eq_fault (k o k' o' : Int) : (binOp .eql 32 (.iface 69 (.agg #[.int .i64 k, .int .i64 o])) (.iface 69 (.agg #[.int .i64 k', .int .i64 o']))).run Tryd.prog w = .ok (.bool (k == k' && o == o')) w :=
  eq_iface w _ _ _ _ _ Tryd.underlying32 (by kernel_rfl) _ fun d => eqI_fault w k o k' o' d
end
/-- The comparison in errors.is. -/
theorem eq_er (w : World) (e t : Er) (v tv : Value) (he : IsEr w e v) (ht : IsEr w t tv) (hl : t.leaf = true) : (binOp .eql 32 v tv).run Tryd.prog w = .ok (.bool (e.is t)) w := by
  have ne : ∀ {tx ty : TypeId} (vx vy : Value), tx ≠ ty → (binOp .eql 32 (.iface tx vx) (.iface ty vy)).run Tryd.prog w = .ok (.bool false) w := fun vx vy h => run_eql_iface_types _ _ vx vy Tryd.underlying32 h w
  cases t with
  | sort k =>
    cases ht
    cases e with
    | sort k' => cases he; exact eq_sort w _ _
    | fault k' o => cases he; exact ne _ _ (by decide)
    | note s e => obtain ⟨b, u, rfl, -⟩ := he; exact ne _ _ (by decide)
  | fault k o =>
    cases ht
    cases e with
    | sort k' => cases he; exact ne _ _ (by decide)
    | fault k' o => cases he; exact eq_fault w _ _ _ _
    | note s e => obtain ⟨b, u, rfl, -⟩ := he; exact ne _ _ (by decide)
  | note s e => cases hl
theorem Er.is_has {e t : Er} (h : e.is t = true) : e.has t = true := by
  cases e with
  | sort k => exact h
  | fault k o => simp [Er.has, h]
  | note s e => cases t <;> cases h
set_option maxHeartbeats 4000000 in
/-- errors.is. -/
theorem is_in (t : Er) (tv : Value) (hl : t.leaf = true) : ∀ (n : Nat) (e : Er) (v : Value) (w : World), e.size ≤ n → IsEr w e v → IsEr w t tv →
    Calls Tryd.prog 38 #[v, tv, .bool true] w fun ex w' => ex = .returned (.bool (e.has t)) ∧ Below w.heap.size w w' := by
  intro n
  induction n with
  | zero => intro e v w h; cases e <;> simp [Er.size] at h
  | succ n ih =>
    intro e v w hn he ht
    obtain ⟨r, hr⟩ : ∃ r, r = e.has t := ⟨_, rfl⟩
    rw [← hr]
    have IH := Lib.hid ih
    have HN := Lib.hid hn
    have HE := Lib.hid he
    have HT := Lib.hid ht
    have HR := Lib.hid hr
    have HL := Lib.hid hl
    clear ih hn he ht hr hl
    go_enter Tryd.func38, Tryd.ntmps38
    go_wp2
    go_loopg [0] (e.size) (fun k v' wr => ∃ e', IsEr wr e' v' ∧ e'.size ≤ k ∧ k ≤ n + 1 ∧ r = e'.has t ∧ Below w.heap.size w wr)
    case atStart => exact ⟨e, HE.out, Nat.le_refl _, HN.out, HR.out, Below.refl _ _⟩
    case round =>
      obtain ⟨e', he, hk, hkn, hr, hb⟩ := hrel
      have hq := eq_er wr e' t _ tv he (IsEr.on hb HT.out) HL.out
      obtain ⟨q, hqe⟩ : ∃ q, q = e'.is t := ⟨_, rfl⟩
      rw [← hqe] at hq
      have Q := Lib.hid hqe
      have K := Lib.hid (And.intro hk hkn)
      have R := Lib.hid hr
      clear hqe hk hkn hr
      cases e' with
      | sort k' =>
        cases he
        have a1 := isS
        have a2 := uwS
        have a3 := usS
        cases q with
        | true => go_wp2; go_ret; exact ⟨by rw [show r = true from R.out.trans (Er.is_has Q.out.symm)]; rfl, hb⟩
        | false => go_wp2; go_ret; exact ⟨by rw [show r = false from R.out.trans Q.out.symm]; rfl, hb⟩
      | fault k' o =>
        cases he
        have a1 := isF
        have a2 := uwF
        cases q with
        | true => go_wp2; go_ret; exact ⟨by rw [show r = true from R.out.trans (Er.is_has Q.out.symm)]; rfl, hb⟩
        | false =>
          go_wp2_with (go_at_call 63; refine (m_sort _ _ _).mono ?_; rintro e w1 ⟨rfl, hb1⟩)
          go_roundg 1
          case measure => have := K.out; simp [Er.size] at this; omega
          case rel => exact ⟨.sort k', rfl, Nat.le_refl _, by have := K.out; simp [Er.size] at this; omega, by rw [R.out]; simp only [Er.has]; rw [← Q.out]; rfl, hb.trans (hb1.mono hb.size)⟩
      | note s e' =>
        obtain ⟨b, u, rfl, h1, h2⟩ := he
        obtain ⟨ut, ux, rfl⟩ := h2.iface
        have H1 := Lib.hid h1
        have H2 := Lib.hid h2
        have a1 := isN
        have a2 := uwN
        clear h1 h2
        cases q with
        | true => have q2 := Q.out; cases t <;> cases q2
        | false =>
          go_wp2_with (go_at_call 65; refine (m_note _ _ _ _ H1.out).mono ?_; rintro e w1 ⟨rfl, hw⟩)
          subst hw
          go_roundg (e'.size)
          case measure => have := K.out; simp [Er.size] at this; omega
          case rel => exact ⟨e', H2.out, Nat.le_refl _, by have := K.out; simp [Er.size] at this; omega, R.out, hb⟩
end Go.Proofs.YtjdnekkbmanmdaaDoor
