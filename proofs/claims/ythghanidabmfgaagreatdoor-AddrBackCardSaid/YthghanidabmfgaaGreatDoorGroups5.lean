/-
  May, Less; an IPv6 address's groups.
  The groups of an IPv6 address, and back.
-/
import Derived.Test.YthghanidabmfgaaGreatDoorStd5
import Derived.Lib.BytesEntry
import Derived.Lib.Bytealg
namespace Go.Proofs.YthghanidabmfgaaGreatDoor
open Go.RowKit Go.Sort
set_option maxRecDepth 8000
section
variable {ops : Array Oper} {rest : List Oper} {o : Oper} {a : Act} {w : World} {Q : Exit → Act → World → Prop}
/-- A load whose run is known. -/
theorem wl_load (hw : Region.wanted o (yielded ops a.tmps) = true) (ty : TypeId) (x : Operand) (ho : o.op = .load ty x) (p : Addr) (hx : a.eval x = .pointer (some p)) (V : Value) (hV : (Instr.loadAt ty (.pointer (some p))).run Tryz.prog w = .ok V w)
    (h : wpList Tryz.prog ops Q rest (a.put o.dst V) w) : wpList Tryz.prog ops Q (o :: rest) a w :=
  BigFrame.wpList_want hw fun _ hK => by
    unfold Oper.wp execOp
    simp only [ho, hx, Sem.run_bind, hV, Result.andThen_ok, Sem.run_pure]
    exact hK _ _ h
/-- A store whose run is known. -/
theorem wl_store (hw : Region.wanted o (yielded ops a.tmps) = true) (ty : TypeId) (x y : Operand) (ho : o.op = .store ty x y) (p : Addr) (hx : a.eval x = .pointer (some p)) (V : Value) (hy : a.eval y = V) (w' : World) (hV : (Instr.storeAt ty (.pointer (some p)) V).run Tryz.prog w = .ok () w')
    (h : wpList Tryz.prog ops Q rest (a.put o.dst undef) w') : wpList Tryz.prog ops Q (o :: rest) a w :=
  BigFrame.wpList_want hw fun _ hK => by
    unfold Oper.wp execOp
    simp only [ho, hx, hy, Sem.run_bind, hV, Result.andThen_ok, Sem.run_pure]
    exact hK _ _ h
end
/-! ### Rows of noughts, as the walk writes them -/
def n12 : List Int := List.replicate 12 0
def n16 : List Int := List.replicate 16 0
def n8 : List Int := List.replicate 8 0
def n4 : List Int := List.replicate 4 0
theorem z12 : u8C n12 = #[.int .u8 0, .int .u8 0, .int .u8 0, .int .u8 0, .int .u8 0, .int .u8 0, .int .u8 0, .int .u8 0, .int .u8 0, .int .u8 0, .int .u8 0, .int .u8 0] := rfl
theorem z4 : u8C n4 = #[.int .u8 0, .int .u8 0, .int .u8 0, .int .u8 0] := rfl
theorem z8 : u16C n8 = #[.int .u16 0, .int .u16 0, .int .u16 0, .int .u16 0, .int .u16 0, .int .u16 0, .int .u16 0, .int .u16 0] := rfl
theorem zA : adC false n16 = #[.bool false, .int .u8 0, .int .u8 0, .int .u8 0, .int .u8 0, .int .u8 0, .int .u8 0, .int .u8 0, .int .u8 0, .int .u8 0, .int .u8 0, .int .u8 0, .int .u8 0, .int .u8 0, .int .u8 0, .int .u8 0, .int .u8 0] := rfl
theorem zE : enC false n16 0 = #[.bool false, .int .u8 0, .int .u8 0, .int .u8 0, .int .u8 0, .int .u8 0, .int .u8 0, .int .u8 0, .int .u8 0, .int .u8 0, .int .u8 0, .int .u8 0, .int .u8 0, .int .u8 0, .int .u8 0, .int .u8 0, .int .u8 0, .int .u16 0] := rfl
theorem q12 (b : List Int) (hb : b.length = 12) (W : World) : (Op.equalIn 10000 61 (.agg (u8C b)) (.agg #[.int .u8 0, .int .u8 0, .int .u8 0, .int .u8 0, .int .u8 0, .int .u8 0, .int .u8 0, .int .u8 0, .int .u8 0, .int .u8 0, .int .u8 0, .int .u8 0])).run Tryz.prog W = .ok (decide (b = n12)) W := by
  rw [← z12]
  exact eq_rows .u8 5 9998 Tryz.underlying5 b n12 W 61 12 Tryz.underlying61 (by kernel_rfl) hb rfl
theorem qA (v v' : Bool) (b b' : List Int) (hb : b.length = 16) (hb' : b'.length = 16) (W : World) : (Op.equalIn 10000 24 (.agg (adC v b)) (.agg (adC v' b'))).run Tryz.prog W = .ok (decide (v = v' ∧ b = b')) W := in_addr 9996 v v' b b' hb hb' W
theorem qA0 (v : Bool) (b : List Int) (hb : b.length = 16) (W : World) : (Op.equalIn 10000 24 (.agg (adC v b)) (.agg #[.bool false, .int .u8 0, .int .u8 0, .int .u8 0, .int .u8 0, .int .u8 0, .int .u8 0, .int .u8 0, .int .u8 0, .int .u8 0, .int .u8 0, .int .u8 0, .int .u8 0, .int .u8 0, .int .u8 0, .int .u8 0, .int .u8 0])).run Tryz.prog W = .ok (decide (v = false ∧ b = n16)) W := by
  rw [← zA]; exact qA v false b n16 hb rfl W
theorem qE (v v' : Bool) (b b' : List Int) (p p' : Int) (hb : b.length = 16) (hb' : b'.length = 16) (W : World) : (Op.equalIn 10000 32 (.agg (enC v b p)) (.agg (enC v' b' p'))).run Tryz.prog W = .ok (decide ((v = v' ∧ b = b') ∧ p = p')) W := in_ends 9995 v v' b b' p p' hb hb' W
def mayB (v : Bool) (b : List Int) : Bool := v || decide (b.drop 4 = n12)
theorem arr_12 (g : Nat) (W : World) : (Instr.arrayAt 61 (.slice (some ⟨g, 5, none⟩) 12 12)).run Tryz.prog W = .ok (.pointer (some ⟨g, 5, none⟩)) W := by
  simp [Instr.arrayAt, run_underlying Tryz.underlying61]
theorem arr_4 (g : Nat) (W : World) : (Instr.arrayAt 57 (.slice (some ⟨g, 1, none⟩) 4 16)).run Tryz.prog W = .ok (.pointer (some ⟨g, 1, none⟩)) W := by
  simp [Instr.arrayAt, run_underlying Tryz.underlying57]
theorem t_may (v : Bool) (b : List Int) (hl : b.length = 16) (w : World) : Calls Tryz.prog 11 #[.agg (adC v b)] w fun e w' => e = .returned (.bool (mayB v b)) ∧ Below w.heap.size w w' := by
  have B0 : Hid (Blk (w.alloc (.cells (adC v b) 24)) w.heap.size 24 (adC v b)) := Lib.hid (Blk.new _ _ _ rfl)
  have S0 := Lib.hid (below_alloc w (.cells (adC v b) 24))
  have c0 := B0.out.cell (ad_head v b)
  have l0 := ld_part 4 Tryz.underlying61 rfl inf12 (by simp [hl]) B0.out
  rw [List.take_of_length_le (by simp [hl])] at l0
  have e0 := q12 (b.drop 4) (by simp [hl])
  have M := Lib.hid (show mayB false b = decide (b.drop 4 = n12) from Bool.false_or _)
  have a0 := arr_12 w.heap.size
  rw [show 1 + 4 = 5 from rfl] at l0
  generalize b.drop 4 = x at l0 e0 M
  generalize decide (x = n12) = r at *
  go_enter Tryz.func11, Tryz.ntmps11
  go_upto_region 1 with fail
  generalize w.alloc (.cells (adC v b) 24) = w1 at *
  cases v
  · go_wp2_with (refine wl_load rfl _ _ rfl _ rfl _ l0 ?_)
    rw [M.out]
    cases r
    all_goals
      go_ret
      exact ⟨rfl, S0.out⟩
  · go_wp2
    go_ret
    exact ⟨rfl, S0.out⟩
/-! ### Less -/
def lessB (v : Bool) (b : List Int) (v' : Bool) (b' : List Int) : Bool := if v = v' then decide (Lib.compareBytes (Lib.bytesOf b) (Lib.bytesOf b') < 0) else v'
theorem compare_any (xs ys : List Int) (n m : Nat) (hn : xs.length = n) (hm : ys.length = m) (p q : Addr) (w : World) (hx : ∀ j x, xs[j]? = some x → w.cell? (p.add j) = some (.int .u8 x)) (hy : ∀ j x, ys[j]? = some x → w.cell? (q.add j) = some (.int .u8 x)) :
    Calls Tryz.prog 24 #[.slice (some p) n n, .slice (some q) m m] w fun e w' => e = .returned (.int .i64 (Lib.compareBytes (Lib.bytesOf xs) (Lib.bytesOf ys))) ∧ w' = w := by
  have X := Lib.run_loadBytesX (P := Tryz.prog) w xs p .empty hx
  have Y := Lib.run_loadBytesX (P := Tryz.prog) w ys q .empty hy
  rw [hn] at X
  rw [hm] at Y
  have C : (Extern.BytealgCompare.compare #[.slice (some p) n n, .slice (some q) m m]).run Tryz.prog w = .ok (.int .i64 (Lib.compareBytes (Lib.bytesOf xs) (Lib.bytesOf ys))) w := by
    change Sem.run Tryz.prog (do pure (goInt (Extern.BytealgCompare.cmp (← Extern.Bytes.bytesOf (.slice (some p) n n)) (← Extern.Bytes.bytesOf (.slice (some q) m m))))) w = _
    simp only [Extern.Bytes.bytesOf, Sem.run_bind, X, Y, Sem.run_pure, Result.andThen]
    rw [Lib.cmp_eq]
    simp [goInt, ByteArray.empty, ByteArray.emptyWithCapacity]
    rfl
  generalize Lib.compareBytes (Lib.bytesOf xs) (Lib.bytesOf ys) = r at *
  clear X Y hx hy
  go_enter Tryz.func24, Tryz.ntmps24
  go_wp2
  rw [run_callFunc_extern Tryz.func48 (by kernel_rfl) (by kernel_rfl) (by kernel_rfl) (e := Extern.BytealgCompare.compare) (by kernel_rfl), C]
  simp only [Result.andThen]
  rw [Oper.upon_value]
  go_wp2
  go_ret
  exact ⟨rfl, rfl⟩
set_option maxHeartbeats 1000000 in
theorem t_less (v v' : Bool) (b b' : List Int) (hl : b.length = 16) (hl' : b'.length = 16) (w : World) : Calls Tryz.prog 10 #[.agg (adC v b), .agg (adC v' b')] w fun e w' => e = .returned (.bool (lessB v b v' b')) ∧ Below w.heap.size w w' := by
  have B0 : Hid (Blk ((w.alloc (.cells (adC v b) 24)).alloc (.cells (adC v' b') 24)) w.heap.size 24 (adC v b)) := Lib.hid ((Blk.new _ _ _ rfl).alloc _)
  have B1 : Hid (Blk ((w.alloc (.cells (adC v b) 24)).alloc (.cells (adC v' b') 24)) (w.heap.size + 1) 24 (adC v' b')) := Lib.hid (Blk.new _ _ _ (by simp))
  have S0 : Hid (Below w.heap.size w ((w.alloc (.cells (adC v b) 24)).alloc (.cells (adC v' b') 24))) := Lib.hid (by (repeat (first | (with_reducible exact Below.refl _ _) | (with_reducible assumption) | (with_reducible refine Below.drew ?_) | (with_reducible refine below_drewN ?_ _) | ((with_reducible refine Below.alloc ?_ ?_ _); rotate_left; (focus (first | (simp; done) | (simp; omega) | omega))) | ((with_reducible refine Below.setCell ?_ ?_ _); rotate_left; (focus (first | (simp; done) | (simp; omega) | omega))) | ((with_reducible refine Below.trans ?_ (Below.mono (by assumption) ?_)); rotate_left; (focus (first | (simp; done) | (simp; omega) | omega))))))
  go_enter Tryz.func10, Tryz.ntmps10
  go_upto_region 1 with fail
  generalize (w.alloc (.cells (adC v b) 24)).alloc (.cells (adC v' b') 24) = w1 at *
  have c0 := B0.out.cell (ad_head v b)
  have c1 := B1.out.cell (ad_head v' b')
  by_cases hv : v = v'
  · subst hv
    have L := Lib.hid (show lessB v b v b' = decide (Lib.compareBytes (Lib.bytesOf b) (Lib.bytesOf b') < 0) from if_pos rfl)
    have CQ := Lib.hid (fun d os => Calls.regrown_of (os := os) (d := d) ((compare_any b b' 16 16 hl hl' ⟨w.heap.size, 1, none⟩ ⟨w.heap.size + 1, 1, none⟩ (grow (redrawn w1 d) os) (fun j x hj => by
        rw [Lib.add_plain]; exact (B0.out.on (below_quiet d os)).cell (by rw [Nat.add_comm]; exact ad_get hj)) (fun j x hj => by
        rw [Lib.add_plain]; exact (B1.out.on (below_quiet d os)).cell (by rw [Nat.add_comm]; exact ad_get hj))).mono fun e w' ⟨he, hw⟩ => ⟨he, by subst hw; exact Below.refl _ _⟩))
    generalize Lib.compareBytes (Lib.bytesOf b) (Lib.bytesOf b') = r at *
    go_upto_region 3 with fail
    refine wp_region_quiet_below (by kernel_rfl) (by kernel_rfl) ?_
    repeat (go_big_quiet_step (with_reducible exact (CQ.out _ _)))
    (refine wpQuiet_nil ?_; intro _ hw'; obtain ⟨⟨dq, osq⟩, hw''⟩ := hw'; subst hw'')
    go_wp2
    rw [L.out]
    go_ret
    exact ⟨rfl, S0.out.trans ((below_quiet dq osq).mono S0.out.size)⟩
  · have L := Lib.hid (show lessB v b v' b' = v' from if_neg hv)
    cases v <;> cases v'
    · exact absurd rfl hv
    · go_wp2; rw [L.out]; go_ret; exact ⟨rfl, S0.out⟩
    · go_wp2; rw [L.out]; go_ret; exact ⟨rfl, S0.out⟩
    · exact absurd rfl hv
end Go.Proofs.YthghanidabmfgaaGreatDoor
namespace Go.Proofs.YthghanidabmfgaaGreatDoor
open Go.RowKit Go.Sort
set_option maxRecDepth 8000
/-- The groups of bytes. -/
def b2g : List Int → List Nat
  | x :: y :: r => (256 * x + y).toNat :: b2g r
  | _ => []
def nats (g : List Nat) : List Int := g.map fun (n : Nat) => (n : Int)
theorem b2g_length : ∀ (k : Nat) (b : List Int), b.length = 2 * k → (b2g b).length = k
  | 0, b, h => by obtain rfl := List.length_eq_zero_iff.1 (by omega : b.length = 0); rfl
  | k + 1, x :: y :: r, h => by simp [b2g, b2g_length k r (by simp at h; omega)]
  | k + 1, [x], h => by simp at h; omega
  | k + 1, [], h => by simp at h
theorem b2g_get : ∀ (k : Nat) (b : List Int) (x y : Int), b[2 * k]? = some x → b[2 * k + 1]? = some y → (b2g b)[k]? = some (256 * x + y).toNat
  | 0, x' :: y' :: r, x, y, h1, h2 => by simp at h1 h2; subst h1 h2; rfl
  | 0, [_], _, _, _, h2 => by simp at h2
  | _, [], _, _, h1, _ => by simp at h1
  | k + 1, [_], _, _, h1, _ => by simp at h1
  | k + 1, x' :: y' :: r, x, y, h1, h2 => by
    have := b2g_get k r x y (by simpa [Nat.mul_add] using h1) (by simpa [Nat.mul_add] using h2)
    simpa [b2g] using this
theorem b2g_lt {b : List Int} (hb : ∀ n ∈ b, Byte n) : ∀ n ∈ b2g b, n < 65536 := by
  have h : ∀ (k : Nat) (b : List Int), b.length ≤ k → (∀ n ∈ b, Byte n) → ∀ n ∈ b2g b, n < 65536 := by
    intro k
    induction k with
    | zero => intro b hl _ n hn; obtain rfl := List.length_eq_zero_iff.1 (by omega : b.length = 0); cases hn
    | succ k ih =>
      intro b hl hb n hn
      match b, hl, hn with
      | [], _, hn => cases hn
      | [x], _, hn => cases hn
      | x :: y :: r, hl, hn =>
        rcases List.mem_cons.1 hn with rfl | hn
        · have h1 := hb x (by simp); have h2 := hb y (by simp); unfold Byte at *; omega
        · exact ih r (by simp at hl; omega) (fun m hm => hb m (by simp [hm])) n hn
  exact h _ b (Nat.le_refl _) hb
/-- Numbers in a row, the first k of them laid. -/
def upto (l : List Int) (k n : Nat) : List Int := l.take k ++ List.replicate (n - k) 0
theorem upto_zero (l : List Int) (n : Nat) : upto l 0 n = List.replicate n 0 := by simp [upto]
theorem upto_all {l : List Int} {n : Nat} (h : l.length = n) : upto l n n = l := by simp [upto, List.take_of_length_le (by omega : l.length ≤ n)]
theorem upto_length {l : List Int} {k n : Nat} (h : l.length = n) (hk : k ≤ n) : (upto l k n).length = n := by simp [upto]; omega
theorem upto_put {l : List Int} {k n : Nat} {x : Int} (h : l.length = n) (hx : l[k]? = some x) : (upto l k n).set k x = upto l (k + 1) n := by
  have hk : k < l.length := (List.getElem?_eq_some_iff.1 hx).1
  have e : l[k] = x := (List.getElem?_eq_some_iff.1 hx).2
  unfold upto
  rw [List.set_append_right _ _ (by simp; omega), List.length_take, Nat.min_eq_left (by omega), Nat.sub_self, show n - k = (n - (k + 1)) + 1 by omega, List.replicate_succ, List.set_cons_zero, List.take_succ_eq_append_getElem hk, e]
  simp
theorem set_ints (k : IntKind) (l : List Int) (i : Nat) (x : Int) : ((ints k l).toArray).setIfInBounds i (.int k x) = (ints k (l.set i x)).toArray := by
  simp [ints, List.map_set]
theorem join_bits : ∀ x y : Fin 256, bits BinOp.or IntKind.u16 ((x.val : Int) * 256) (y.val : Int) = 256 * (x.val : Int) + (y.val : Int) := by decide +kernel
theorem or_bytes (x y : Int) (hx : Byte x) (hy : Byte y) : bits BinOp.or IntKind.u16 (x * 256) y = 256 * x + y := by
  unfold Byte at *
  have := join_bits ⟨x.toNat, by omega⟩ ⟨y.toNat, by omega⟩
  simp only [Int.toNat_of_nonneg hx.1, Int.toNat_of_nonneg hy.1] at this
  exact this
def Spl (w wr : World) (b : List Int) (k : Nat) : Prop := Blk wr w.heap.size 22 (u8C b) ∧ Blk wr (w.heap.size + 1 + 1) 54 (u16C (upto (nats (b2g b)) k 8)) ∧ (∃ cs, Blk wr (w.heap.size + 1) 54 cs ∧ cs.size = 8) ∧ Below w.heap.size w wr
theorem Spl.put {w wr : World} {b : List Int} {k : Nat} {x : Nat} (h : Spl w wr b k) (hl : b.length = 16) (hx : (b2g b)[k]? = some x) : Spl w (wr.setCell ⟨w.heap.size + 1 + 1, k, none⟩ (.int .u16 (x : Int))) b (k + 1) := by
  obtain ⟨h1, h2, ⟨cs, h3, h4⟩, h5⟩ := h
  refine ⟨h1.other (by dsimp only; omega) _, ?_, ⟨cs, h3.other (by dsimp only; omega) _, h4⟩, h5.setCell (by dsimp only; omega) _⟩
  have := h2.put k (.int .u16 (x : Int))
  unfold u16C at this
  rw [set_ints, upto_put (x := (x : Int)) (by simp [nats, b2g_length 8 b hl]) (by simp [nats, hx])] at this
  exact this
theorem Spl.drew {w wr : World} {b : List Int} {k : Nat} (h : Spl w wr b k) : Spl w wr.drew b k := ⟨h.1, h.2.1, h.2.2.1, h.2.2.2.drew⟩
/-! ### .. and back -/
def g2b : List Nat → List Int
  | n :: r => (n / 256 : Nat) :: (n % 256 : Nat) :: g2b r
  | [] => []
theorem g2b_length (g : List Nat) : (g2b g).length = 2 * g.length := by
  induction g with
  | nil => rfl
  | cons n r ih => simp [g2b, ih]; omega
theorem g2b_get : ∀ (k : Nat) (g : List Nat) (n : Nat), g[k]? = some n → (g2b g)[2 * k]? = some ((n / 256 : Nat) : Int) ∧ (g2b g)[2 * k + 1]? = some ((n % 256 : Nat) : Int)
  | _, [], _, h => by simp at h
  | 0, m :: r, n, h => by simp at h; subst h; exact ⟨rfl, rfl⟩
  | k + 1, m :: r, n, h => by
    have := g2b_get k r n (by simpa using h)
    simpa [g2b, Nat.mul_add] using this
theorem g2b_byte {g : List Nat} (h : ∀ n ∈ g, n < 65536) : ∀ x ∈ g2b g, Byte x := by
  induction g with
  | nil => intro x hx; cases hx
  | cons n r ih =>
    intro x hx
    have hn := h n List.mem_cons_self
    simp only [g2b, List.mem_cons] at hx
    rcases hx with rfl | rfl | hx
    · unfold Byte; omega
    · unfold Byte; omega
    · exact ih (fun m hm => h m (List.mem_cons_of_mem _ hm)) x hx
theorem b2g_g2b (g : List Nat) : b2g (g2b g) = g := by
  induction g with
  | nil => rfl
  | cons n r ih => simp only [g2b, b2g, ih]; congr 1; omega
theorem g2b_b2g {b : List Int} (k : Nat) (hl : b.length = 2 * k) (hb : ∀ n ∈ b, Byte n) : g2b (b2g b) = b := by
  induction k generalizing b with
  | zero => obtain rfl := List.length_eq_zero_iff.1 (by omega : b.length = 0); rfl
  | succ k ih =>
    match b, hl with
    | x :: y :: r, hl =>
      have h1 := hb x (by simp); have h2 := hb y (by simp)
      unfold Byte at h1 h2
      simp only [b2g, g2b]
      rw [ih (by simp at hl; omega) fun n hn => hb n (by simp [hn])]
      congr 1
      · omega
      · congr 1; omega
theorem run_arr (T : TypeId) {k : IntKind} {e : TypeId} {len : Nat} {l : List Int} {i : Nat} {n : Int} (hT : Tryz.prog.underlying T = some (.array len e)) (he : Tryz.prog.underlying e = some (.int k)) (hs : (Tryz.prog.info? e).map (·.size) = some 1) (hl : l.length = len) (h : l[i]? = some n) (W : World) :
    (Instr.index T (.agg (ints k l).toArray) (.int .i64 (i : Int))).run Tryz.prog W = .ok (.int k n) W := by
  have lt := (List.getElem?_eq_some_iff.1 h).1
  cases hq : Tryz.prog.info? e with
  | none => simp [hq] at hs
  | some q =>
    have h1 : q.size = 1 := by simpa [hq] using hs
    simp [Instr.index, asIntOf, run_underlying hT, sizeOf, typeInfo, hq, h1, run_part_int he h]
    intro c; omega
theorem idx8 {l : List Int} {i : Nat} {n : Int} (hl : l.length = 8) (h : l[i]? = some n) (W : World) : (Instr.index 54 (.agg (u16C l)) (.int .i64 (i : Int))).run Tryz.prog W = .ok (.int .u16 n) W :=
  run_arr 54 Tryz.underlying54 Tryz.underlying25 (by kernel_rfl) hl h W
theorem idx4 {l : List Int} {i : Nat} {n : Int} (hl : l.length = 4) (h : l[i]? = some n) (W : World) : (Instr.index 57 (.agg (u8C l)) (.int .i64 (i : Int))).run Tryz.prog W = .ok (.int .u8 n) W :=
  run_arr 57 Tryz.underlying57 Tryz.underlying5 (by kernel_rfl) hl h W
def Joi (w wr : World) (g : List Nat) (k : Nat) : Prop := Blk wr (w.heap.size + 1 + 1) 22 (u8C (upto (g2b g) (2 * k) 16)) ∧ (∃ cs, Blk wr (w.heap.size + 1) 22 cs ∧ cs.size = 16) ∧ Below w.heap.size w wr
theorem Joi.put {w wr : World} {g : List Nat} {k n : Nat} (h : Joi w wr g k) (hl : g.length = 8) (hx : g[k]? = some n) : Joi w ((wr.setCell ⟨w.heap.size + 1 + 1, 2 * k, none⟩ (.int .u8 ((n / 256 : Nat) : Int))).setCell ⟨w.heap.size + 1 + 1, 2 * k + 1, none⟩ (.int .u8 ((n % 256 : Nat) : Int))) g (k + 1) := by
  obtain ⟨h2, ⟨cs, h3, h4⟩, h5⟩ := h
  refine ⟨?_, ⟨cs, (h3.other (by dsimp only; omega) _).other (by dsimp only; omega) _, h4⟩, (h5.setCell (by dsimp only; omega) _).setCell (by dsimp only; omega) _⟩
  obtain ⟨g1, g2⟩ := g2b_get k g n hx
  have := (h2.put (2 * k) (.int .u8 ((n / 256 : Nat) : Int))).put (2 * k + 1) (.int .u8 ((n % 256 : Nat) : Int))
  unfold u8C at this
  rw [set_ints, set_ints, upto_put (by rw [g2b_length, hl]) g1, upto_put (by rw [g2b_length, hl]) g2] at this
  exact this
set_option maxHeartbeats 1000000 in
theorem t_joinG (g : List Nat) (hl : g.length = 8) (hg : ∀ n ∈ g, n < 65536) (w : World) : Calls Tryz.prog 29 #[.agg (u16C (nats g))] w fun e w' => e = .returned (.agg (u8C (g2b g))) ∧ Below w.heap.size w w' := by
  have HG := Lib.hid hg
  have hl2 : (nats g).length = 8 := by simp [nats, hl]
  clear hg
  have B0 : Hid (Blk ((w.alloc (.cells (u16C (nats g)) 54)).alloc (.cells #[.int .u8 0, .int .u8 0, .int .u8 0, .int .u8 0, .int .u8 0, .int .u8 0, .int .u8 0, .int .u8 0, .int .u8 0, .int .u8 0, .int .u8 0, .int .u8 0, .int .u8 0, .int .u8 0, .int .u8 0, .int .u8 0] 22) |>.alloc (.cells #[.int .u8 0, .int .u8 0, .int .u8 0, .int .u8 0, .int .u8 0, .int .u8 0, .int .u8 0, .int .u8 0, .int .u8 0, .int .u8 0, .int .u8 0, .int .u8 0, .int .u8 0, .int .u8 0, .int .u8 0, .int .u8 0] 22)) w.heap.size 54 (u16C (nats g))) := Lib.hid (((Blk.new _ _ _ rfl).alloc _).alloc _)
  have D0 : Hid (Joi w ((w.alloc (.cells (u16C (nats g)) 54)).alloc (.cells #[.int .u8 0, .int .u8 0, .int .u8 0, .int .u8 0, .int .u8 0, .int .u8 0, .int .u8 0, .int .u8 0, .int .u8 0, .int .u8 0, .int .u8 0, .int .u8 0, .int .u8 0, .int .u8 0, .int .u8 0, .int .u8 0] 22) |>.alloc (.cells #[.int .u8 0, .int .u8 0, .int .u8 0, .int .u8 0, .int .u8 0, .int .u8 0, .int .u8 0, .int .u8 0, .int .u8 0, .int .u8 0, .int .u8 0, .int .u8 0, .int .u8 0, .int .u8 0, .int .u8 0, .int .u8 0] 22)) g 0) := Lib.hid ⟨(by rw [upto_zero]; exact Blk.new _ _ _ (by simp)), ⟨_, (Blk.new _ _ _ (by simp)).alloc _, rfl⟩, (by (repeat (first | (with_reducible exact Below.refl _ _) | (with_reducible assumption) | (with_reducible refine Below.drew ?_) | (with_reducible refine below_drewN ?_ _) | ((with_reducible refine Below.alloc ?_ ?_ _); rotate_left; (focus (first | (simp; done) | (simp; omega) | omega))) | ((with_reducible refine Below.setCell ?_ ?_ _); rotate_left; (focus (first | (simp; done) | (simp; omega) | omega))) | ((with_reducible refine Below.trans ?_ (Below.mono (by assumption) ?_)); rotate_left; (focus (first | (simp; done) | (simp; omega) | omega))))))⟩
  go_enter Tryz.func29, Tryz.ntmps29
  go_upto_region 2 with fail
  generalize ((w.alloc (.cells (u16C (nats g)) 54)).alloc (.cells #[.int .u8 0, .int .u8 0, .int .u8 0, .int .u8 0, .int .u8 0, .int .u8 0, .int .u8 0, .int .u8 0, .int .u8 0, .int .u8 0, .int .u8 0, .int .u8 0, .int .u8 0, .int .u8 0, .int .u8 0, .int .u8 0] 22) |>.alloc (.cells #[.int .u8 0, .int .u8 0, .int .u8 0, .int .u8 0, .int .u8 0, .int .u8 0, .int .u8 0, .int .u8 0, .int .u8 0, .int .u8 0, .int .u8 0, .int .u8 0, .int .u8 0, .int .u8 0, .int .u8 0, .int .u8 0] 22)) = w1 at *
  have l0 := ld_8 hl2 B0.out
  go_wp2_with (refine wl_load rfl _ _ rfl _ rfl _ l0 ?_)
  clear l0 B0
  go_loopw [7] (fun i wr => ∃ k : Nat, k ≤ 8 ∧ i = .int .i64 k ∧ Hid (Joi w wr g k)) (fun i _ => 8 - (intOf i).toNat)
  case atStart => exact ⟨0, by omega, rfl, D0⟩
  case round =>
    clear D0
    obtain ⟨k, hk, rfl, D⟩ := hrel
    by_cases hlt : k < 8
    · have e1 : g[k]? = some (g[k]'(by omega)) := List.getElem?_eq_getElem _
      have y1 := HG.out _ (List.getElem_mem (show k < g.length by omega))
      generalize g[k]'(by omega) = n at *
      have X := idx8 hl2 (show (nats g)[k]? = some (n : Int) by simp [nats, e1])
      have DP := Lib.hid (D.out.put hl e1)
      have hs : (u8C (upto (g2b g) (2 * k) 16)).size = 16 := by rw [u8C_size, upto_length (by rw [g2b_length, hl]) (by omega)]
      obtain ⟨z1, c1⟩ : ∃ z, wr.cell? ⟨w.heap.size + 1 + 1, 2 * k, none⟩ = some z := ⟨_, D.out.1.cell (Array.getElem?_eq_getElem (by rw [hs]; omega))⟩
      obtain ⟨z2, c2⟩ : ∃ z, wr.cell? ⟨w.heap.size + 1 + 1, 2 * k + 1, none⟩ = some z := ⟨_, D.out.1.cell (Array.getElem?_eq_getElem (by rw [hs]; omega))⟩
      have f1 := D.out.1.free (2 * k)
      have f2 := D.out.1.free (2 * k + 1)
      clear D e1 hs
      go_wp2
      go_roundw
      case rel => exact ⟨k + 1, by omega, by go_num, DP⟩
      case measure => simp [intOf]; omega
    · obtain rfl : k = 8 := by omega
      obtain ⟨h2, ⟨cs, h3, h4⟩, h5⟩ := D.out
      have hz : (g2b g).length = 16 := by rw [g2b_length, hl]
      rw [upto_all hz] at h2
      have l2 := ld_16 hz h2
      have s2 := st_row 22 h3 (cells := u8C (g2b g)) (by rw [inf16, u8C_size, hz]) (by rw [h4, u8C_size, hz]) (u8C_ok _)
      have R := Lib.hid (h3.row (u8C (g2b g)))
      have S := Lib.hid (below_setRow h5 (g := w.heap.size + 1) (by omega) (u8C (g2b g)))
      have Z := Lib.hid (show (Tryz.prog.info? 22).map (·.size) = some (u8C (g2b g)).size by rw [inf16, u8C_size, hz])
      clear D h2 h3 h4 h5 hz
      go_wp2_with (first | (refine wl_load rfl _ _ rfl _ rfl _ l2 ?_) | (refine wl_store rfl _ _ _ rfl _ rfl _ rfl _ s2 ?_))
      exact bodyPost_ret (results_cell_row (p := 2) rfl _ _ (w.heap.size + 1) 22 (u8C (g2b g)) (0, 0) _ rfl R.out Tryz.underlying22 rfl Z.out) rfl ⟨rfl, S.out⟩
set_option maxHeartbeats 1000000 in
theorem t_split (b : List Int) (hl : b.length = 16) (hb : ∀ n ∈ b, Byte n) (w : World) : Calls Tryz.prog 21 #[.agg (u8C b)] w fun e w' => e = .returned (.agg (u16C (nats (b2g b)))) ∧ Below w.heap.size w w' := by
  have HB := Lib.hid hb
  clear hb
  go_enter Tryz.func21, Tryz.ntmps21
  go_upto_region 2 with fail
  have D0 : Hid (Spl w (((w.alloc (.cells (u8C b) 22)).alloc (.cells #[.int .u16 0, .int .u16 0, .int .u16 0, .int .u16 0, .int .u16 0, .int .u16 0, .int .u16 0, .int .u16 0] 54)).alloc (.cells #[.int .u16 0, .int .u16 0, .int .u16 0, .int .u16 0, .int .u16 0, .int .u16 0, .int .u16 0, .int .u16 0] 54)) b 0) := Lib.hid ⟨((Blk.new _ _ _ rfl).alloc _).alloc _, (by rw [upto_zero]; exact Blk.new _ _ _ (by simp)), ⟨_, (Blk.new _ _ _ (by simp)).alloc _, rfl⟩, (by (repeat (first | (with_reducible exact Below.refl _ _) | (with_reducible assumption) | (with_reducible refine Below.drew ?_) | (with_reducible refine below_drewN ?_ _) | ((with_reducible refine Below.alloc ?_ ?_ _); rotate_left; (focus (first | (simp; done) | (simp; omega) | omega))) | ((with_reducible refine Below.setCell ?_ ?_ _); rotate_left; (focus (first | (simp; done) | (simp; omega) | omega))) | ((with_reducible refine Below.trans ?_ (Below.mono (by assumption) ?_)); rotate_left; (focus (first | (simp; done) | (simp; omega) | omega))))))⟩
  generalize ((w.alloc (.cells (u8C b) 22)).alloc (.cells #[.int .u16 0, .int .u16 0, .int .u16 0, .int .u16 0, .int .u16 0, .int .u16 0, .int .u16 0, .int .u16 0] 54)).alloc (.cells #[.int .u16 0, .int .u16 0, .int .u16 0, .int .u16 0, .int .u16 0, .int .u16 0, .int .u16 0, .int .u16 0] 54) = w1 at *
  go_wp2
  go_loopw [5] (fun i wr => ∃ k : Nat, k ≤ 8 ∧ i = .int .i64 k ∧ Hid (Spl w wr b k)) (fun i _ => 8 - (intOf i).toNat)
  case atStart => exact ⟨0, by omega, rfl, D0⟩
  case round =>
    clear D0
    obtain ⟨k, hk, rfl, D⟩ := hrel
    by_cases hlt : k < 8
    · have e1 : b[2 * k]? = some (b[2 * k]'(by omega)) := List.getElem?_eq_getElem _
      have e2 : b[2 * k + 1]? = some (b[2 * k + 1]'(by omega)) := List.getElem?_eq_getElem _
      have y1 := HB.out _ (List.getElem_mem (show 2 * k < b.length by omega))
      have y2 := HB.out _ (List.getElem_mem (show 2 * k + 1 < b.length by omega))
      generalize b[2 * k]'(by omega) = x at *
      generalize b[2 * k + 1]'(by omega) = y at *
      have OB := or_bytes x y y1 y2
      have DP := Lib.hid (D.out.put hl (b2g_get k b x y e1 e2))
      obtain ⟨y10, y11⟩ := y1
      obtain ⟨y20, y21⟩ := y2
      rw [Int.toNat_of_nonneg (by omega)] at DP
      have c1 := D.out.1.cell (j := 2 * k) (v := .int .u8 x) (by simpa [u8C] using ints_get e1)
      have c2 := D.out.1.cell (j := 2 * k + 1) (v := .int .u8 y) (by simpa [u8C] using ints_get e2)
      obtain ⟨z, c3⟩ : ∃ z, wr.cell? ⟨w.heap.size + 1 + 1, k, none⟩ = some z := ⟨_, D.out.2.1.cell (Array.getElem?_eq_getElem (by rw [u16C_size, upto_length (by simp [nats, b2g_length 8 b hl]) hk]; exact hlt))⟩
      have f3 := D.out.2.1.free k
      clear D e1 e2
      go_upto_region 5 with fail
      go_region
      go_wp2
      go_roundw
      case rel => exact ⟨k + 1, by omega, by go_num, DP.out.drew⟩
      case measure => simp [intOf]; omega
    · obtain rfl : k = 8 := by omega
      obtain ⟨-, h2, ⟨cs, h3, h4⟩, h5⟩ := D.out
      rw [upto_all (by simp [nats, b2g_length 8 b hl])] at h2
      have l2 := ld_8 (by simp [nats, b2g_length 8 b hl]) h2
      have s2 := st_row 54 h3 (cells := u16C (nats (b2g b))) (by rw [inf8, u16C_size]; simp [nats, b2g_length 8 b hl]) (by rw [h4, u16C_size]; simp [nats, b2g_length 8 b hl]) (u16C_ok _)
      have R := Lib.hid (h3.row (u16C (nats (b2g b))))
      have S := Lib.hid (below_setRow h5 (g := w.heap.size + 1) (by omega) (u16C (nats (b2g b))))
      have Z := Lib.hid (show (Tryz.prog.info? 54).map (·.size) = some (u16C (nats (b2g b))).size by rw [inf8, u16C_size]; simp [nats, b2g_length 8 b hl])
      clear D h2 h3 h4 h5
      go_wp2_with (first | (refine wl_load rfl _ _ rfl _ rfl _ l2 ?_) | (refine wl_store rfl _ _ _ rfl _ rfl _ rfl _ s2 ?_))
      exact bodyPost_ret (results_cell_row (p := 2) rfl _ _ (w.heap.size + 1) 54 (u16C (nats (b2g b))) (0, 0) _ rfl R.out Tryz.underlying54 rfl Z.out) rfl ⟨rfl, S.out⟩
end Go.Proofs.YthghanidabmfgaaGreatDoor
