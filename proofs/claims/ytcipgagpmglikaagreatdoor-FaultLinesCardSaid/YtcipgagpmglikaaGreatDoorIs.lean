/-
  errors.Is: whether an error is, or wraps, a sort, a fault, or an error of errors.New's make.
-/
import Derived.Test.YtcipgagpmglikaaGreatDoorUnw
import Derived.Deep.LoopGhost
namespace Go.Proofs.YtcipgagpmglikaaGreatDoor
open Go.RowKit Go.Sort Go.Extern
set_option maxRecDepth 8000
/-- Whether the two are the same value. -/
def Er.is : Er → Er → Bool
  | .sort k, .sort k' => k == k'
  | .fault k o, .fault k' o' => k == k' && o == o'
  | .own a, .own a' => a == a'
  | _, _ => false
/-- Whether it is found in the chain. -/
def Er.has : Er → Er → Bool
  | .sort k, t => (Er.sort k).is t
  | .own a, t => (Er.own a).is t
  | .fault k o, t => (Er.fault k o).is t || (Er.sort k).is t
  | .note _ e, t => e.has t
  | .around e, t => e.has t
  | .join a e, t => (Er.own a).is t || e.has t
/-- What may be looked for. -/
def Er.leaf : Er → Bool
  | .sort _ => true
  | .fault _ _ => true
  | .own _ => true
  | _ => false
section
variable (w : World)
theorem eq_iface (ti tx : TypeId) (ms : Array (String × TypeId)) (vx vy : Value) (hi : Tryz.prog.underlying ti = some (.interface ms)) (hc : (Tryz.prog.info? tx).map (·.comparable) = some true) (b : Bool)
    (h : ∀ d, (Op.equalIn (d + 5) tx vx vy).run Tryz.prog w = .ok b w) : (binOp .eql ti (.iface tx vx) (.iface tx vy)).run Tryz.prog w = .ok (.bool b) w := by
  obtain ⟨i, hi', hcmp⟩ := Option.map_eq_some_iff.1 hc
  have hI : ∀ d, (Op.equalIn (d + 5 + 1) ti (.iface tx vx) (.iface tx vy)).run Tryz.prog w = .ok b w := by
    intro d
    have hd := h d
    generalize d + 5 = e at *
    simp [Op.equalIn, run_underlying hi, typeInfo, hi', hcmp, hd]
  have := hI 9994
  simp only [binOp]
  simp [Op.equal, Op.maxDepth, this]
theorem eq_sort (k k' : Int) : (binOp .eql 27 (.iface 41 (.int .i64 k)) (.iface 41 (.int .i64 k'))).run Tryz.prog w = .ok (.bool (k == k')) w :=
  eq_iface w _ _ _ _ _ Tryz.underlying27 (by kernel_rfl) _ fun _ => run_equalIn_int w _ _ _ _ _ _ Tryz.underlying41
theorem eqI_fault (k o k' o' : Int) (d : Nat) : (Op.equalIn (d + 5) 63 (.agg #[.int .i64 k, .int .i64 o]) (.agg #[.int .i64 k', .int .i64 o'])).run Tryz.prog w = .ok (k == k' && o == o') w := by
  have e1 : ∀ d, (Op.equalIn (d + 1) 41 (.int .i64 k) (.int .i64 k')).run Tryz.prog w = .ok (k == k') w := fun d => run_equalIn_int w _ _ _ _ _ _ Tryz.underlying41
  have e2 : ∀ d, (Op.equalIn (d + 1) 2 (.int .i64 o) (.int .i64 o')).run Tryz.prog w = .ok (o == o') w := fun d => run_equalIn_int w _ _ _ _ _ _ Tryz.underlying2
  have p1 : ∀ (a b : Int), (part 41 #[.int .i64 a, .int .i64 b] 0).run Tryz.prog w = .ok (.int .i64 a) w := fun a b => by kernel_rfl
  have p2 : ∀ (a b : Int), (part 2 #[.int .i64 a, .int .i64 b] 1).run Tryz.prog w = .ok (.int .i64 b) w := fun a b => by kernel_rfl
  rw [run_equalIn_struct w _ 63 _ _ (by kernel_rfl) (by kernel_rfl)]
  have hf : ((Tryz.prog.fieldsOf 63).toList.map fun f => (f.name, f.type, f.offset)) = [("sort", 41, 0), ("off", 2, 1)] := by kernel_rfl
  generalize (Tryz.prog.fieldsOf 63).toList = fs at hf
  have hl : fs.length = 2 := by simpa using congrArg List.length hf
  obtain ⟨f, g, rfl⟩ : ∃ f g, fs = [f, g] := by
    cases fs with
    | nil => cases hl
    | cons f r =>
      cases r with
      | nil => cases hl
      | cons g r =>
        cases r with
        | nil => exact ⟨f, g, rfl⟩
        | cons h r => simp at hl
  simp only [List.map_cons, List.map_nil, List.cons.injEq, Prod.mk.injEq, and_true] at hf
  obtain ⟨⟨n1, t1, o1⟩, n2, t2, o2⟩ := hf
  have q1 : ∀ (a b : Int), (part f.type #[.int .i64 a, .int .i64 b] f.offset).run Tryz.prog w = .ok (.int .i64 a) w := by rw [t1, o1]; exact p1
  have q2 : ∀ (a b : Int), (part g.type #[.int .i64 a, .int .i64 b] g.offset).run Tryz.prog w = .ok (.int .i64 b) w := by rw [t2, o2]; exact p2
  have r1 : (Op.equalIn (d + 4) f.type (.int .i64 k) (.int .i64 k')).run Tryz.prog w = .ok (k == k') w := by rw [t1]; exact e1 _
  have r2 : (Op.equalIn (d + 4) g.type (.int .i64 o) (.int .i64 o')).run Tryz.prog w = .ok (o == o') w := by rw [t2]; exact e2 _
  have m1 : f.name ≠ "_" := by rw [n1]; decide
  have m2 : g.name ≠ "_" := by rw [n2]; decide
  generalize (k == k') = x at *
  generalize (o == o') = y at *
  simp only [Op.eqFields, m1, m2, ne_eq, not_false_eq_true, if_true, Sem.run_bind, q1, r1, Result.andThen_ok]
  cases x <;> cases y <;> simp [q2, r2]
theorem eq_fault (k o k' o' : Int) : (binOp .eql 27 (.iface 63 (.agg #[.int .i64 k, .int .i64 o])) (.iface 63 (.agg #[.int .i64 k', .int .i64 o']))).run Tryz.prog w = .ok (.bool (k == k' && o == o')) w :=
  eq_iface w _ _ _ _ _ Tryz.underlying27 (by kernel_rfl) _ fun d => eqI_fault w k o k' o' d
theorem eq_own (a b : Nat) (s s' : ByteArray) (ha : Blk w a 89 #[.string s]) (hb : Blk w b 89 #[.string s']) : (binOp .eql 27 (.iface 87 (.pointer (some ⟨a, 0, none⟩))) (.iface 87 (.pointer (some ⟨b, 0, none⟩)))).run Tryz.prog w = .ok (.bool (a == b)) w := by
  have hc : (Tryz.prog.info? 87).map (·.comparable) = some true := by kernel_rfl
  obtain ⟨i, hi, hcmp⟩ := Option.map_eq_some_iff.1 hc
  have hs : (Tryz.prog.info? 89).map (·.size) = some 1 := by kernel_rfl
  obtain ⟨j, hj, hjs⟩ := Option.map_eq_some_iff.1 hs
  by_cases h : a = b
  · subst h
    rw [run_eql_iface_ptr_same w _ Tryz.underlying27 Tryz.underlying87 hi hcmp hj]; simp
  · have hne : (⟨a, 0, none⟩ : Addr) ≠ ⟨b, 0, none⟩ := fun q => h (congrArg Addr.block q)
    have r := run_eql_iface_ptr_other w Tryz.underlying27 Tryz.underlying87 hi hcmp hj (by rw [hjs]; decide) hne (ca := #[.string s]) (cb := #[.string s']) (ta := 89) (tb := 89) ha hb
    rw [r]; simp [h]
end
/-- The comparison in errors.is. -/
theorem eq_er (w : World) (e t : Er) (v tv : Value) (he : IsEr w e v) (ht : IsEr w t tv) (hl : t.leaf = true) : (binOp .eql 27 v tv).run Tryz.prog w = .ok (.bool (e.is t)) w := by
  have ne : ∀ {tx ty : TypeId} (vx vy : Value), tx ≠ ty → (binOp .eql 27 (.iface tx vx) (.iface ty vy)).run Tryz.prog w = .ok (.bool false) w := fun vx vy h => run_eql_iface_types _ _ vx vy Tryz.underlying27 h w
  cases t with
  | sort k =>
    cases ht
    cases e with
    | sort k' => cases he; exact eq_sort w _ _
    | fault k' o => cases he; exact ne _ _ (by decide)
    | own a => cases he.1; exact ne _ _ (by decide)
    | note s e => obtain ⟨b, u, rfl, -⟩ := he; exact ne _ _ (by decide)
    | around e => obtain ⟨u, rfl, -⟩ := he; exact ne _ _ (by decide)
    | join a e => obtain ⟨b, g, c, u, s, rfl, -⟩ := he; exact ne _ _ (by decide)
  | fault k o =>
    cases ht
    cases e with
    | sort k' => cases he; exact ne _ _ (by decide)
    | fault k' o => cases he; exact eq_fault w _ _ _ _
    | own a => cases he.1; exact ne _ _ (by decide)
    | note s e => obtain ⟨b, u, rfl, -⟩ := he; exact ne _ _ (by decide)
    | around e => obtain ⟨u, rfl, -⟩ := he; exact ne _ _ (by decide)
    | join a e => obtain ⟨b, g, c, u, s, rfl, -⟩ := he; exact ne _ _ (by decide)
  | own b =>
    obtain ⟨rfl, s', hb⟩ := ht
    cases e with
    | sort k' => cases he; exact ne _ _ (by decide)
    | fault k' o => cases he; exact ne _ _ (by decide)
    | own a => obtain ⟨rfl, s, ha⟩ := he; exact eq_own w _ _ _ _ ha hb
    | note s e => obtain ⟨b, u, rfl, -⟩ := he; exact ne _ _ (by decide)
    | around e => obtain ⟨u, rfl, -⟩ := he; exact ne _ _ (by decide)
    | join a e => obtain ⟨b, g, c, u, s, rfl, -⟩ := he; exact ne _ _ (by decide)
  | note s e => cases hl
  | around e => cases hl
  | join a e => cases hl
theorem Er.is_has {e t : Er} (h : e.is t = true) : e.has t = true := by
  cases e with
  | sort k => exact h
  | own a => exact h
  | fault k o => simp [Er.has, h]
  | note s e => cases t <;> cases h
  | around e => cases t <;> cases h
  | join a e => cases t <;> cases h
set_option maxHeartbeats 4000000 in
/-- errors.is. -/
theorem is_in (t : Er) (tv : Value) (hl : t.leaf = true) : ∀ (n : Nat) (e : Er) (v : Value) (w : World), e.size ≤ n → IsEr w e v → IsEr w t tv →
    Calls Tryz.prog 39 #[v, tv, .bool true] w fun ex w' => ex = .returned (.bool (e.has t)) ∧ Below w.heap.size w w' := by
  intro n
  induction n with
  | zero => intro e v w h; cases e <;> simp [Er.size] at h
  | succ n ih =>
    intro e v w hn he ht
    obtain ⟨r, hr⟩ : ∃ r, r = e.has t := ⟨_, rfl⟩
    rw [← hr]
    have IH := Lib.hid ih
    have HN := Lib.hid hn
    have HE := Lib.hid he
    have HT := Lib.hid ht
    have HR := Lib.hid hr
    have HL := Lib.hid hl
    clear ih hn he ht hr hl
    go_enter Tryz.func39, Tryz.ntmps39
    go_wp2
    go_loopg [0] (e.size) (fun k v' wr => ∃ e', IsEr wr e' v' ∧ e'.size ≤ k ∧ k ≤ n + 1 ∧ r = e'.has t ∧ Below w.heap.size w wr)
    case atStart => exact ⟨e, HE.out, Nat.le_refl _, HN.out, HR.out, Below.refl _ _⟩
    case round =>
      obtain ⟨e', he, hk, hkn, hr, hb⟩ := hrel
      have hq := eq_er wr e' t _ tv he (IsEr.on hb HT.out) HL.out
      obtain ⟨q, hqe⟩ : ∃ q, q = e'.is t := ⟨_, rfl⟩
      rw [← hqe] at hq
      have Q := Lib.hid hqe
      have K := Lib.hid (And.intro hk hkn)
      have R := Lib.hid hr
      clear hqe hk hkn hr
      cases e' with
      | sort k' =>
        cases he
        have a1 := isS
        have a2 := uwS
        have a3 := usS
        cases q with
        | true => go_wp2; go_ret; exact ⟨by rw [show r = true from R.out.trans (Er.is_has Q.out.symm)]; rfl, hb⟩
        | false => go_wp2; go_ret; exact ⟨by rw [show r = false from R.out.trans Q.out.symm]; rfl, hb⟩
      | own k' =>
        obtain ⟨rfl, -⟩ := he
        have a1 := isO
        have a2 := uwO
        have a3 := usO
        cases q with
        | true => go_wp2; go_ret; exact ⟨by rw [show r = true from R.out.trans (Er.is_has Q.out.symm)]; rfl, hb⟩
        | false => go_wp2; go_ret; exact ⟨by rw [show r = false from R.out.trans Q.out.symm]; rfl, hb⟩
      | fault k' o =>
        cases he
        have a1 := isF
        have a2 := uwF
        cases q with
        | true => go_wp2; go_ret; exact ⟨by rw [show r = true from R.out.trans (Er.is_has Q.out.symm)]; rfl, hb⟩
        | false =>
          go_wp2_with (go_at_call 111; refine (m_sort _ _ _).mono ?_; rintro e w1 ⟨rfl, hb1⟩)
          go_roundg 1
          case measure => have := K.out; simp [Er.size] at this; omega
          case rel => exact ⟨.sort k', rfl, Nat.le_refl _, by have := K.out; simp [Er.size] at this; omega, by rw [R.out]; simp only [Er.has]; rw [← Q.out]; rfl, hb.trans (hb1.mono hb.size)⟩
      | note s e' =>
        obtain ⟨b, u, rfl, h1, h2⟩ := he
        obtain ⟨ut, ux, rfl⟩ := h2.iface
        have H1 := Lib.hid h1
        have H2 := Lib.hid h2
        have a1 := isN
        have a2 := uwN
        clear h1 h2
        cases q with
        | true => have q2 := Q.out; cases t <;> cases q2
        | false =>
          go_wp2_with (go_at_call 113; refine (m_note _ _ _ _ H1.out).mono ?_; rintro e w1 ⟨rfl, hw⟩)
          subst hw
          go_roundg (e'.size)
          case measure => have := K.out; simp [Er.size] at this; omega
          case rel => exact ⟨e', H2.out, Nat.le_refl _, by have := K.out; simp [Er.size] at this; omega, R.out, hb⟩
      | around e' =>
        obtain ⟨u, rfl, h2⟩ := he
        obtain ⟨ut, ux, rfl⟩ := h2.iface
        have H2 := Lib.hid h2
        have a1 := isA
        have a2 := uwA
        clear h2
        cases q with
        | true => have q2 := Q.out; cases t <;> cases q2
        | false =>
          go_wp2_with (go_at_call 109; refine (m_around _ _).mono ?_; rintro e w1 ⟨rfl, hb1⟩)
          go_roundg (e'.size)
          case measure => have := K.out; simp [Er.size] at this; omega
          case rel => exact ⟨e', IsEr.on hb1 H2.out, Nat.le_refl _, by have := K.out; simp [Er.size] at this; omega, R.out, hb.trans (hb1.mono hb.size)⟩
      | join k' e' =>
        obtain ⟨b, g, c, u, s, rfl, h1, h3, h4, h2⟩ := he
        obtain ⟨ut, ux, rfl⟩ := h2.iface
        have c0 := h3.2.1
        have c1 := h3.2.2
        have H1 := Lib.hid h1
        have H2 := Lib.hid h2
        have H3 := Lib.hid h3
        have H4 := Lib.hid h4
        have a1 := isJ
        have a2 := uwJ
        have a3 := usJ
        clear h1 h2 h3 h4
        cases q with
        | true => have q2 := Q.out; cases t <;> cases q2
        | false =>
          obtain ⟨q1, hq1⟩ : ∃ q1, q1 = (Er.own k').has t := ⟨_, rfl⟩
          obtain ⟨q2, hq2⟩ : ∃ q2, q2 = e'.has t := ⟨_, rfl⟩
          have X1 := Lib.hid (IH.out (.own k') _ _ (by have := K.out; simp [Er.size] at this ⊢; omega) ⟨rfl, s, H4.out⟩ (IsEr.on hb HT.out))
          have X2 := Lib.hid (fun w1 (h : Below wr.heap.size wr w1) => IH.out e' _ w1 (by have := K.out; simp [Er.size] at this ⊢; omega) (IsEr.on h H2.out) (IsEr.on (hb.trans (h.mono hb.size)) HT.out))
          have QQ := Lib.hid (show r = (q1 || q2) by rw [R.out, hq1, hq2]; rfl)
          rw [← hq1] at X1
          rw [← hq2] at X2
          clear hq1 hq2
          have c2 : ∀ w1, Below wr.heap.size wr w1 → w1.cell? ⟨g, 1, none⟩ = some (.iface ut ux) := fun w1 h => (h.cell (p := ⟨g, 1, none⟩) H3.out.1).trans c1
          cases q1 with
          | true =>
            go_wp2_with (go_at_call 115; refine (m_join _ _ _ H1.out).mono ?_; rintro e w1 ⟨rfl, hw⟩)
            subst hw
            refine wp_loop_rounds 3 ?_
            rw [rounds_succ]
            go_wp2_with (refine X1.out.mono ?_; rintro e w2 ⟨rfl, hb2⟩)
            go_ret
            exact ⟨by rw [QQ.out]; rfl, hb.trans (hb2.mono hb.size)⟩
          | false =>
            go_wp2_with (go_at_call 115; refine (m_join _ _ _ H1.out).mono ?_; rintro e w1 ⟨rfl, hw⟩)
            subst hw
            refine wp_loop_rounds 3 ?_
            rw [rounds_succ]
            go_wp2_with fail
            refine X1.out.mono ?_
            rintro e w2 ⟨rfl, hb2⟩
            have c3 := c2 _ hb2
            clear c2
            go_wp2
            rw [rounds_succ]
            cases q2 with
            | true =>
              go_wp2_with (refine (X2.out _ hb2).mono ?_; rintro e w3 ⟨rfl, hb3⟩)
              go_ret
              exact ⟨by rw [QQ.out]; rfl, hb.trans ((hb2.trans (hb3.mono hb2.size)).mono hb.size)⟩
            | false =>
              go_wp2_with fail
              refine (X2.out _ hb2).mono ?_
              rintro e w3 ⟨rfl, hb3⟩
              go_wp2
              rw [rounds_succ]
              go_wp2
              go_ret
              exact ⟨by rw [QQ.out]; rfl, hb.trans ((hb2.trans (hb3.mono hb2.size)).mono hb.size)⟩
end Go.Proofs.YtcipgagpmglikaaGreatDoor
