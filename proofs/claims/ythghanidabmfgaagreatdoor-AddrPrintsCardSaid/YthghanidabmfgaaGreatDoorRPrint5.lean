/-
  The document's text of an address (horologeref05).
-/
import Derived.Test.YthghanidabmfgaaGreatDoorRDig5
import Derived.Test.YthghanidabmfgaaGreatDoorRun5
namespace Go.Proofs.YthghanidabmfgaaGreatDoor
open Go.RowKit Go.Sort
set_option maxRecDepth 100000
theorem q_load {ops : Array Oper} {C : World → Prop} {Q : Act → Prop} {a : Act} {o : Oper} {rest : List Oper} (hw : Region.wanted o (yielded ops a.tmps) = true) (ty : TypeId) (x : Operand) (ho : o.op = .load ty x)
    (p : Addr) (hx : a.eval x = .pointer (some p)) (V : Value) (hS : ∀ w, C w → (Instr.loadAt ty (.pointer (some p))).run Tryz.prog w = .ok V w) (h : wpQuiet Tryz.prog ops C Q rest (a.put o.dst V)) : wpQuiet Tryz.prog ops C Q (o :: rest) a :=
  BigFrame.wpQuiet_want hw fun K hK => ⟨V, fun w hw => by
    have e : (execOp a.eval o).run Tryz.prog w = .ok (.value V) w := by
      unfold execOp
      simp only [ho, hx, Sem.run_bind, hS w hw, Result.andThen_ok, Sem.run_pure]
    unfold Oper.quietAt
    rw [e]
    exact ⟨rfl, rfl⟩, hK _ h⟩
theorem Blk.q_u8 {w : World} {g : Nat} {t : TypeId} {cs : Array Value} {j : Nat} {n : Int} (h : Blk w g t cs) (hj : cs[j]? = some (.int .u8 n)) : ∀ w', (∃ p : Regrown, w' = grow (redrawn w p.d) p.os) → (Instr.loadAt 5 (.pointer (some ⟨g, j, none⟩))).run Tryz.prog w' = .ok (.int .u8 n) w' := by
  rintro w' ⟨p, rfl⟩
  have c := (h.on (below_regrown w p.d p.os)).cell hj
  generalize grow (redrawn w p.d) p.os = w1 at *
  clear h hj
  simp [Instr.loadAt, go_sem, c]
/-- An address in its variable. -/
def Adr (w wr : World) (v : Bool) (b : List Int) : Prop := Blk wr w.heap.size 24 (adC v b) ∧ Below w.heap.size w wr
theorem Adr.on {w w1 w2 : World} {v : Bool} {b : List Int} (h : Adr w w1 v b) (hb : Below w1.heap.size w1 w2) : Adr w w2 v b := ⟨h.1.on hb, h.2.trans (hb.mono h.2.size)⟩
set_option maxHeartbeats 1000000 in
theorem r_print4 (b : List Int) (h : IsA b) (w : World) : Calls Tryz.prog 13 #[.agg (adC false b)] w fun e w' => e = .returned (.string (str (tx false b))) ∧ Below w.heap.size w w' := by
  obtain ⟨hl, hb⟩ := h
  have A0 : Hid (Adr w (w.alloc (.cells (adC false b) 24)) false b) := Lib.hid ⟨Blk.new _ _ _ rfl, below_alloc _ _⟩
  obtain ⟨x0, x1, x2, x3, r, rfl⟩ : ∃ x0 x1 x2 x3 r, b = x0 :: x1 :: x2 :: x3 :: r := by
    match b, hl with
    | x0 :: x1 :: x2 :: x3 :: r, _ => exact ⟨x0, x1, x2, x3, r, rfl⟩
  have d := fun n (hn : 0 ≤ n ∧ n ≤ 255) => Lib.hid (r_dec n (by omega))
  have D0 := d x0 (hb _ (by simp))
  have D1 := d x1 (hb _ (by simp))
  have D2 := d x2 (hb _ (by simp))
  have D3 := d x3 (hb _ (by simp))
  obtain ⟨y00, y01⟩ := hb x0 (by simp)
  obtain ⟨y10, y11⟩ := hb x1 (by simp)
  obtain ⟨y20, y21⟩ := hb x2 (by simp)
  obtain ⟨y30, y31⟩ := hb x3 (by simp)
  have sz := fun n (hn : 0 ≤ n ∧ n ≤ 255) => (show (str (Lib.itoa n)).size ≤ 4 by rw [str_size]; exact itoa_length n 3 (by omega) (by decide))
  have s0 := sz x0 ⟨y00, y01⟩
  have s1 := sz x1 ⟨y10, y11⟩
  have s2 := sz x2 ⟨y20, y21⟩
  have s3 := sz x3 ⟨y30, y31⟩
  have T : Hid (str (tx false (x0 :: x1 :: x2 :: x3 :: r)) = str (Lib.itoa x0) ++ ⟨#[46]⟩ ++ str (Lib.itoa x1) ++ ⟨#[46]⟩ ++ str (Lib.itoa x2) ++ ⟨#[46]⟩ ++ str (Lib.itoa x3)) := Lib.hid (bytes_eq (by simp [str, tx, t4, joinC]))
  clear hb d sz
  generalize str (Lib.itoa x0) = t0 at *
  generalize str (Lib.itoa x1) = t1 at *
  generalize str (Lib.itoa x2) = t2 at *
  generalize str (Lib.itoa x3) = t3 at *
  go_enter Tryz.func13, Tryz.ntmps13
  go_upto_region 1 with fail
  generalize w.alloc (.cells (adC false (x0 :: x1 :: x2 :: x3 :: r)) 24) = w1 at *
  have c0 := A0.out.1.cell (ad_head false _)
  go_upto_region 2 with fail
  have q0 := A0.out.1.q_u8 (show (adC false (x0 :: x1 :: x2 :: x3 :: r))[1]? = some (.int .u8 x0) from rfl)
  have q1 := A0.out.1.q_u8 (show (adC false (x0 :: x1 :: x2 :: x3 :: r))[2]? = some (.int .u8 x1) from rfl)
  have q2 := A0.out.1.q_u8 (show (adC false (x0 :: x1 :: x2 :: x3 :: r))[3]? = some (.int .u8 x2) from rfl)
  have q3 := A0.out.1.q_u8 (show (adC false (x0 :: x1 :: x2 :: x3 :: r))[4]? = some (.int .u8 x3) from rfl)
  refine wp_region_quiet_below (by kernel_rfl) (by kernel_rfl) ?_
  repeat (first
    | ((first | refine q_load rfl _ _ rfl _ rfl _ q0 ?_ | refine q_load rfl _ _ rfl _ rfl _ q1 ?_ | refine q_load rfl _ _ rfl _ rfl _ q2 ?_ | refine q_load rfl _ _ rfl _ rfl _ q3 ?_); (try simp only [Act.put, List.setIfInBounds_toArray, List.set_cons_zero, List.set_cons_succ]))
    | (go_big_quiet_step (first | (with_reducible exact (Calls.regrown_of (D0.out _))) | (with_reducible exact (Calls.regrown_of (D1.out _))) | (with_reducible exact (Calls.regrown_of (D2.out _))) | (with_reducible exact (Calls.regrown_of (D3.out _))))))
  (refine wpQuiet_nil ?_; intro _ hw'; obtain ⟨⟨dq, osq⟩, hw''⟩ := hw'; subst hw'')
  go_wp2
  go_ret
  exact ⟨by rw [T.out]; rfl, A0.out.2.trans ((below_quiet dq osq).mono A0.out.2.size)⟩
theorem isZ_get {g : List Nat} {i n : Nat} (h : g[i]? = some n) : (isZ g)[i]? = some (decide (n = 0)) := by simp [isZ, h]; rfl
/-- The loop that looks for the run. -/
def Fnd (w wr : World) (b : List Int) (g : List Nat) (k p q : Nat) : Prop := Adr w wr true b ∧ rrun (isZ g) k = (p, q) ∧ p ≤ 8 ∧ q ≤ 8
def Cnt (w wr : World) (b : List Int) (g : List Nat) (k d : Nat) : Prop := Adr w wr true b ∧ ∀ j, j < d → (isZ g)[k + j]? = some true
theorem Fnd.next {w wr w' : World} {b : List Int} {g : List Nat} {k d p q : Nat} (F : Fnd w wr b g k p q) (C : Cnt w w' b g k d) (h : (isZ g)[k + d]? ≠ some true) (hd : k + d ≤ 8) : Fnd w w' b g (k + 1) (if q < d then k else p) (if q < d then d else q) := by
  have e := rlen_is C.2 h
  refine ⟨C.1, ?_, ?_, ?_⟩
  · rw [rrun_succ, F.2.1]
    unfold rstep
    rw [e]
    by_cases c : q < d
    · rw [if_pos c, if_pos c, if_pos c]
    · rw [if_neg c, if_neg c, if_neg c]
  · have := F.2.2.1; split <;> omega
  · have := F.2.2.2; split <;> omega
/-- The loop that writes. -/
def Wrt (w wr : World) (b : List Int) (g : List Nat) (s e k : Nat) (x : List UInt8) : Prop := Adr w wr true b ∧ outK g s e k = x ∧ x.length ≤ 90
theorem Wrt.on {w w1 w2 : World} {b : List Int} {g : List Nat} {s e k : Nat} {x : List UInt8} (h : Wrt w w1 b g s e k x) (hb : Below w1.heap.size w1 w2) : Wrt w w2 b g s e k x := ⟨h.1.on hb, h.2⟩
theorem str_index (y : List UInt8) (c : UInt8) : 0 < (str (y ++ [c])).size ∧ ∀ h : (str (y ++ [c])).size - 1 < (str (y ++ [c])).size, (str (y ++ [c]))[(str (y ++ [c])).size - 1]'h = c := by
  have hs : (str (y ++ [c])).size = y.length + 1 := by rw [str_size]; simp
  refine ⟨by omega, fun h => ?_⟩
  have k : ∀ (i : Nat) (h : i < (str (y ++ [c])).size), i = y.length → (str (y ++ [c]))[i]'h = c := by
    rintro i h rfl
    show (str (y ++ [c])).data[y.length]'h = c
    simp [str]
  exact k _ h (by omega)
theorem nil_snoc {α : Type} (t : List α) : t = [] ∨ ∃ y c, t = y ++ [c] := by
  cases h : t.reverse with
  | nil => exact Or.inl (by simpa using h)
  | cons c r => exact Or.inr ⟨r.reverse, c, by have := congrArg List.reverse h; simpa using this⟩
theorem snoc_facts (y : List UInt8) (c : UInt8) : ∃ sx, str (y ++ [c]) = sx ∧ ∃ h : 0 < sx.size, (((sx[sx.size - 1]'(by omega)).toNat : Int) != 58) = decide (c ≠ 58) := by
  obtain ⟨h, ix⟩ := str_index y c
  refine ⟨_, rfl, h, ?_⟩
  rw [ix]
  by_cases hc : c = 58
  · subst hc; rfl
  · have : c.toNat ≠ 58 := fun q => hc (UInt8.toNat_inj.1 q)
    rw [decide_eq_true hc]
    simp; omega
set_option maxHeartbeats 2000000 in
theorem r_print6 (b : List Int) (h : IsA b) (w : World) : Calls Tryz.prog 13 #[.agg (adC true b)] w fun e w' => e = .returned (.string (str (tx true b))) ∧ Below w.heap.size w w' := by
  have hl := h.1
  have GR := Lib.hid (fun i hi n hn w => r_group true b h i hi n hn w)
  have hg := b2g_lt h.2
  have hgl := b2g_length 8 b hl
  rw [show tx true b = t6 (b2g b) from rfl]
  have A0 : Hid (Adr w (w.alloc (.cells (adC true b) 24)) true b) := Lib.hid ⟨Blk.new _ _ _ rfl, below_alloc _ _⟩
  clear h
  generalize b2g b = g at *
  have HG := Lib.hid hg
  clear hg
  go_enter Tryz.func13, Tryz.ntmps13
  go_upto_region 1 with fail
  generalize w.alloc (.cells (adC true b) 24) = w1 at *
  have c0 := A0.out.1.cell (ad_head true _)
  go_upto_region 5 with fail
  clear c0
  go_loopw [3, 4, 5] (fun a m i wr => ∃ k p q : Nat, k ≤ 8 ∧ a = .int .i64 p ∧ m = .int .i64 q ∧ i = .int .i64 k ∧ Hid (Fnd w wr b g k p q)) (fun _ _ i _ => 8 - (intOf i).toNat)
  case atStart => exact ⟨0, 0, 1, by omega, rfl, rfl, rfl, Lib.hid ⟨A0.out, rfl, by omega, by omega⟩⟩
  case round =>
    clear A0
    obtain ⟨k, p, q, hk, rfl, rfl, rfl, F⟩ := hrel
    have p8 := F.out.2.2.1
    have q8 := F.out.2.2.2
    by_cases hlt : k < 8
    · have hk8 : decide ((k : Int) < 8) = true := decide_eq_true (by omega)
      go_upto_region 8 with fail
      try simp only [hk8]
      clear hk8
      go_loopw [6] (fun n wr => ∃ d : Nat, k + d ≤ 8 ∧ n = .int .i64 d ∧ Hid (Cnt w wr b g k d)) (fun n _ => 8 - (intOf n).toNat)
      case atStart => exact ⟨0, by omega, rfl, Lib.hid ⟨F.out.1, fun j hj => by omega⟩⟩
      case round =>
        rename_i wq
        obtain ⟨d, hd, rfl, C⟩ := hrel
        by_cases hlt2 : k + d < 8
        · have e1 : g[k + d]? = some (g[k + d]'(by omega)) := List.getElem?_eq_getElem _
          have n1 := HG.out _ (List.getElem_mem (show k + d < g.length by omega))
          generalize g[k + d]'(by omega) = n at *
          have G1 := Lib.hid (GR.out (k + d) hlt2 n e1)
          have IZ := Lib.hid (isZ_get e1)
          have ec : ((k + d : Nat) : Int) = (k : Int) + (d : Int) := by omega
          rw [ec] at G1
          have hd1 : decide ((k : Int) + (d : Int) < 8) = true := decide_eq_true (by omega)
          have l0 := ld_addr hl C.out.1.1
          clear e1 ec
          by_cases hn : n = 0
          · subst hn
            have Z := Lib.hid (fun wr (h : Adr w wr true b) => (show Cnt w wr b g k (d + 1) from ⟨h, fun j hj => by
              by_cases e : j = d
              · subst e; exact IZ.out
              · exact C.out.2 j (by omega)⟩))
            clear IZ
            go_wp2_with (first
              | (refine wl_load rfl _ _ rfl _ rfl _ l0 ?_)
              | (go_at_call 26; refine (G1.out _).mono ?_; rintro e w4 ⟨rfl, hb⟩; have A4 := Lib.hid (C.out.1.on hb); clear hb l0))
            go_roundw
            case rel => exact ⟨d + 1, by omega, by go_num, Lib.hid (Z.out _ A4.out)⟩
            case measure => simp [intOf]; omega
          · have Z := Lib.hid (fun wr (h : Adr w wr true b) => F.out.next (show Cnt w wr b g k d from ⟨h, C.out.2⟩) (by rw [IZ.out]; simp [hn]) hd)
            have hn' : ((n : Int) == 0) = false := by simpa using hn
            clear IZ F
            by_cases c : q < d
            · rw [if_pos c, if_pos c] at Z
              have c' : (q : Int) < d := by omega
              go_wp2_with (first
                | (refine wl_load rfl _ _ rfl _ rfl _ l0 ?_)
                | (go_at_call 26; refine (G1.out _).mono ?_; rintro e w4 ⟨rfl, hb⟩; have A4 := Lib.hid (C.out.1.on hb); clear hb l0))
              go_roundw
              case rel => exact ⟨k + 1, k, d, by omega, rfl, rfl, by go_num, Lib.hid (Z.out _ A4.out)⟩
              case measure => simp [intOf]; omega
            · rw [if_neg c, if_neg c] at Z
              have c' : ¬ (q : Int) < d := by omega
              go_wp2_with (first
                | (refine wl_load rfl _ _ rfl _ rfl _ l0 ?_)
                | (go_at_call 26; refine (G1.out _).mono ?_; rintro e w4 ⟨rfl, hb⟩; have A4 := Lib.hid (C.out.1.on hb); clear hb l0))
              go_roundw
              case rel => exact ⟨k + 1, p, q, by omega, rfl, rfl, by go_num, Lib.hid (Z.out _ A4.out)⟩
              case measure => simp [intOf]; omega
        · have e8 : k + d = 8 := by omega
          have e8' : (k : Int) + d = 8 := by omega
          have Z := Lib.hid (F.out.next C.out (by rw [e8, List.getElem?_eq_none (by simp [isZ, hgl])]; simp) hd)
          clear F C
          by_cases c : q < d
          · rw [if_pos c, if_pos c] at Z
            have c' : (q : Int) < d := by omega
            go_wp2
            go_roundw
            case rel => exact ⟨k + 1, k, d, by omega, rfl, rfl, by go_num, Z⟩
            case measure => simp [intOf]; omega
          · rw [if_neg c, if_neg c] at Z
            have c' : ¬ (q : Int) < d := by omega
            go_wp2
            go_roundw
            case rel => exact ⟨k + 1, p, q, by omega, rfl, rfl, by go_num, Z⟩
            case measure => simp [intOf]; omega
    · obtain rfl : k = 8 := by omega
      have R := rrun_ok (bs := isZ g) (by simp [isZ, hgl])
      rw [F.out.2.1] at R
      have O := Lib.hid (outK_all hgl)
      have Z0 := zrun_ok (bs := isZ g) (by simp [isZ, hgl])
      generalize (zrun (isZ g)).1 = s at *
      generalize (zrun (isZ g)).2 = e at *
      have A := Lib.hid F.out.1
      clear F
      rcases R with ⟨rfl, rfl⟩ | ⟨ne, q2, rfl, rfl⟩
      · go_upto_region 15 with fail
        simp only [show ((1 : Nat) : Int) = 1 from rfl, show ((8 : Nat) : Int) = 8 from rfl]
        go_loopw [7, 8] (fun x i wr => ∃ (k : Nat) (t : List UInt8), k ≤ 8 ∧ x = .string (str t) ∧ i = .int .i64 k ∧ Hid (Wrt w wr b g e e k t)) (fun _ i _ => 8 - (intOf i).toNat)
        case atStart => exact ⟨0, [], by omega, rfl, rfl, Lib.hid ⟨A.out, outK_zero _ _ _, by simp⟩⟩
        case round =>
          obtain ⟨k, t, hk, rfl, rfl, W⟩ := hrel
          by_cases hlt : k < 8
          · have e1 : g[k]? = some (g[k]'(by omega)) := List.getElem?_eq_getElem _
            have n1 := HG.out _ (List.getElem_mem (show k < g.length by omega))
            generalize g[k]'(by omega) = n at *
            have G1 := Lib.hid (GR.out k hlt n e1)
            have D1 := Lib.hid (r_hexs n n1)
            have l0 := ld_addr hl W.out.1.1
            have N := Lib.hid (fun wr (h : Adr w wr true b) => (show Wrt w wr b g e e (k + 1) (addG t n) from ⟨h, by rw [outK_add (Nat.le_refl _) e1 (by omega), W.out.2.1], by rw [← W.out.2.1, ← outK_add (Nat.le_refl _) e1 (by omega)]; exact outK_length HG.out _ _ _ (by omega)⟩))
            have hz : (str (hexs n)).size ≤ 4 := by rw [str_size]; exact hexs_length 4 n (by omega) (by decide)
            have t90 : (str t).size ≤ 90 := by rw [str_size]; exact W.out.2.2
            clear e1
            rcases nil_snoc t with rfl | ⟨y, c, rfl⟩
            · have E : Hid (str (addG [] n) = str [] ++ str (hexs n)) := Lib.hid (bytes_eq (by simp [str, addG]))
              rw [show str [] = (⟨#[]⟩ : ByteArray) from rfl] at E t90
              simp only [show str [] = (⟨#[]⟩ : ByteArray) from rfl]
              generalize addG [] n = t' at *
              generalize str (hexs n) = sh at *
              go_upto_region 20 with fail
              go_wp2_with (first
                | (refine wl_load rfl _ _ rfl _ rfl _ l0 ?_)
                | (go_at_call 26; refine (G1.out _).mono ?_; rintro e w4 ⟨rfl, hb⟩; have A4 := Lib.hid (W.out.1.on hb); clear hb l0)
                | (go_at_call 25; refine (D1.out _).mono ?_; rintro e w5 ⟨rfl, hb⟩; have A5 := Lib.hid (A4.out.on hb); clear hb A4))
              go_roundw
              case rel => exact ⟨k + 1, t', by omega, by first | (rw [E.out]; done) | (rw [E.out]; rfl), by go_num, Lib.hid (N.out _ A5.out)⟩
              case measure => simp [intOf]; omega
            · obtain ⟨sx, hsx, h0, hix⟩ := snoc_facts y c
              by_cases hc : c = 58
              · have E : Hid (str (addG (y ++ [c]) n) = str (y ++ [c]) ++ str (hexs n)) := Lib.hid (by
                  unfold addG; rw [if_neg (fun q => q.2 (by rw [hc]; simp))]; exact bytes_eq (by simp [str]))
                rw [decide_eq_false (fun q => q hc)] at hix
                rw [hsx] at E t90
                simp only [hsx]
                generalize addG (y ++ [c]) n = t' at *
                generalize str (hexs n) = sh at *
                go_upto_region 20 with fail
                go_wp2_with (first
                  | (refine wl_load rfl _ _ rfl _ rfl _ l0 ?_)
                  | (go_at_call 26; refine (G1.out _).mono ?_; rintro e w4 ⟨rfl, hb⟩; have A4 := Lib.hid (W.out.1.on hb); clear hb l0)
                  | (go_at_call 25; refine (D1.out _).mono ?_; rintro e w5 ⟨rfl, hb⟩; have A5 := Lib.hid (A4.out.on hb); clear hb A4))
                go_roundw
                case rel => exact ⟨k + 1, t', by omega, by first | (rw [E.out]; done) | (rw [E.out]; rfl), by go_num, Lib.hid (N.out _ A5.out)⟩
                case measure => simp [intOf]; omega
              · have E : Hid (str (addG (y ++ [c]) n) = str (y ++ [c]) ++ ⟨#[58]⟩ ++ str (hexs n)) := Lib.hid (by
                  unfold addG; rw [if_pos ⟨by simp, by simpa using hc⟩]; exact bytes_eq (by simp [str]))
                rw [decide_eq_true hc] at hix
                rw [hsx] at E t90
                simp only [hsx]
                generalize addG (y ++ [c]) n = t' at *
                generalize str (hexs n) = sh at *
                go_upto_region 20 with fail
                go_wp2_with (first
                  | (refine wl_load rfl _ _ rfl _ rfl _ l0 ?_)
                  | (go_at_call 26; refine (G1.out _).mono ?_; rintro e w4 ⟨rfl, hb⟩; have A4 := Lib.hid (W.out.1.on hb); clear hb l0)
                  | (go_at_call 25; refine (D1.out _).mono ?_; rintro e w5 ⟨rfl, hb⟩; have A5 := Lib.hid (A4.out.on hb); clear hb A4))
                go_roundw
                case rel => exact ⟨k + 1, t', by omega, by first | (rw [E.out]; done) | (rw [E.out]; rfl), by go_num, Lib.hid (N.out _ A5.out)⟩
                case measure => simp [intOf]; omega
          · obtain rfl : k = 8 := by omega
            have E := Lib.hid (W.out.2.1.symm.trans O.out)
            rw [E.out]
            go_wp2
            go_ret
            exact ⟨rfl, W.out.1.2⟩
      · go_upto_region 15 with fail
        try simp only [show ((8 : Nat) : Int) = 8 from rfl]
        have hq1 : decide ((1 : Int) < (q : Int)) = true := decide_eq_true (by omega)
        go_loopw [7, 8] (fun x i wr => ∃ (k : Nat) (t : List UInt8), k ≤ 8 ∧ x = .string (str t) ∧ i = .int .i64 k ∧ Hid (Wrt w wr b g p (p + q) k t)) (fun _ i _ => 8 - (intOf i).toNat)
        case atStart => exact ⟨0, [], by omega, rfl, rfl, Lib.hid ⟨A.out, outK_zero _ _ _, by simp⟩⟩
        case round =>
          obtain ⟨k, t, hk, rfl, rfl, W⟩ := hrel
          by_cases hlt : k < 8
          · rcases Nat.lt_trichotomy k p with h1 | h1 | h1
            · have f1 : ((k : Int) == (p : Int)) = false := by simp; omega
              have f2 : decide ((p : Int) ≤ (k : Int)) = false := decide_eq_false (by omega)
              have e1 : g[k]? = some (g[k]'(by omega)) := List.getElem?_eq_getElem _
              have n1 := HG.out _ (List.getElem_mem (show k < g.length by omega))
              generalize g[k]'(by omega) = n at *
              have G1 := Lib.hid (GR.out k hlt n e1)
              have D1 := Lib.hid (r_hexs n n1)
              have l0 := ld_addr hl W.out.1.1
              have N := Lib.hid (fun wr (h : Adr w wr true b) => (show Wrt w wr b g p (p + q) (k + 1) (addG t n) from ⟨h, by rw [outK_add (Nat.le_add_right _ _) e1 (by omega), W.out.2.1], by rw [← W.out.2.1, ← outK_add (Nat.le_add_right _ _) e1 (by omega)]; exact outK_length HG.out _ _ _ (by omega)⟩))
              have hz : (str (hexs n)).size ≤ 4 := by rw [str_size]; exact hexs_length 4 n (by omega) (by decide)
              have t90 : (str t).size ≤ 90 := by rw [str_size]; exact W.out.2.2
              clear e1
              rcases nil_snoc t with rfl | ⟨y, c, rfl⟩
              · have E : Hid (str (addG [] n) = str [] ++ str (hexs n)) := Lib.hid (bytes_eq (by simp [str, addG]))
                rw [show str [] = (⟨#[]⟩ : ByteArray) from rfl] at E t90
                simp only [show str [] = (⟨#[]⟩ : ByteArray) from rfl]
                generalize addG [] n = t' at *
                generalize str (hexs n) = sh at *
                go_upto_region 20 with fail
                go_wp2_with (first
                  | (refine wl_load rfl _ _ rfl _ rfl _ l0 ?_)
                  | (go_at_call 26; refine (G1.out _).mono ?_; rintro e w4 ⟨rfl, hb⟩; have A4 := Lib.hid (W.out.1.on hb); clear hb l0)
                  | (go_at_call 25; refine (D1.out _).mono ?_; rintro e w5 ⟨rfl, hb⟩; have A5 := Lib.hid (A4.out.on hb); clear hb A4))
                go_roundw
                case rel => exact ⟨k + 1, t', by omega, by first | (rw [E.out]; done) | (rw [E.out]; rfl), by go_num, Lib.hid (N.out _ A5.out)⟩
                case measure => simp [intOf]; omega
              · obtain ⟨sx, hsx, h0, hix⟩ := snoc_facts y c
                by_cases hc : c = 58
                · have E : Hid (str (addG (y ++ [c]) n) = str (y ++ [c]) ++ str (hexs n)) := Lib.hid (by
                    unfold addG; rw [if_neg (fun q => q.2 (by rw [hc]; simp))]; exact bytes_eq (by simp [str]))
                  rw [decide_eq_false (fun q => q hc)] at hix
                  rw [hsx] at E t90
                  simp only [hsx]
                  generalize addG (y ++ [c]) n = t' at *
                  generalize str (hexs n) = sh at *
                  go_upto_region 20 with fail
                  go_wp2_with (first
                    | (refine wl_load rfl _ _ rfl _ rfl _ l0 ?_)
                    | (go_at_call 26; refine (G1.out _).mono ?_; rintro e w4 ⟨rfl, hb⟩; have A4 := Lib.hid (W.out.1.on hb); clear hb l0)
                    | (go_at_call 25; refine (D1.out _).mono ?_; rintro e w5 ⟨rfl, hb⟩; have A5 := Lib.hid (A4.out.on hb); clear hb A4))
                  go_roundw
                  case rel => exact ⟨k + 1, t', by omega, by first | (rw [E.out]; done) | (rw [E.out]; rfl), by go_num, Lib.hid (N.out _ A5.out)⟩
                  case measure => simp [intOf]; omega
                · have E : Hid (str (addG (y ++ [c]) n) = str (y ++ [c]) ++ ⟨#[58]⟩ ++ str (hexs n)) := Lib.hid (by
                    unfold addG; rw [if_pos ⟨by simp, by simpa using hc⟩]; exact bytes_eq (by simp [str]))
                  rw [decide_eq_true hc] at hix
                  rw [hsx] at E t90
                  simp only [hsx]
                  generalize addG (y ++ [c]) n = t' at *
                  generalize str (hexs n) = sh at *
                  go_upto_region 20 with fail
                  go_wp2_with (first
                    | (refine wl_load rfl _ _ rfl _ rfl _ l0 ?_)
                    | (go_at_call 26; refine (G1.out _).mono ?_; rintro e w4 ⟨rfl, hb⟩; have A4 := Lib.hid (W.out.1.on hb); clear hb l0)
                    | (go_at_call 25; refine (D1.out _).mono ?_; rintro e w5 ⟨rfl, hb⟩; have A5 := Lib.hid (A4.out.on hb); clear hb A4))
                  go_roundw
                  case rel => exact ⟨k + 1, t', by omega, by first | (rw [E.out]; done) | (rw [E.out]; rfl), by go_num, Lib.hid (N.out _ A5.out)⟩
                  case measure => simp [intOf]; omega
            · have f1 : ((k : Int) == (p : Int)) = true := by simp; omega
              have f2 : decide ((p : Int) ≤ (k : Int)) = true := decide_eq_true (by omega)
              have f3 : decide ((k : Int) < (p : Int) + (q : Int)) = true := decide_eq_true (by omega)
              have t90 : (str t).size ≤ 90 := by rw [str_size]; exact W.out.2.2
              have OS : outK g p (p + q) (k + 1) = t ++ [58, 58] := by
                have := outK_start (g := g) (s := p) (e := p + q) (by omega) (by omega)
                rw [← h1] at this ⊢
                rw [this]
                have k2 := W.out.2.1
                rw [← h1] at k2
                rw [k2]
              have N := Lib.hid (show Wrt w wr b g p (p + q) (k + 1) (t ++ [58, 58]) from ⟨W.out.1, OS, by rw [← OS]; exact outK_length HG.out _ _ _ (by omega)⟩)
              clear OS
              have E : Hid (str (t ++ [58, 58]) = str t ++ ⟨#[58, 58]⟩) := Lib.hid (bytes_eq (by simp [str]))
              generalize str t = st at *
              clear h1
              go_wp2
              go_roundw
              case rel => exact ⟨k + 1, t ++ [58, 58], by omega, by first | (rw [E.out]; done) | (rw [E.out]; rfl), by go_num, N⟩
              case measure => simp [intOf]; omega
            · by_cases h2 : k < p + q
              · have f1 : ((k : Int) == (p : Int)) = false := by simp; omega
                have f2 : decide ((p : Int) ≤ (k : Int)) = true := decide_eq_true (by omega)
                have f3 : decide ((k : Int) < (p : Int) + (q : Int)) = true := decide_eq_true (by omega)
                have N := Lib.hid (show Wrt w wr b g p (p + q) (k + 1) t from ⟨W.out.1, by rw [outK_skip h1 h2, W.out.2.1], W.out.2.2⟩)
                go_wp2
                go_roundw
                case rel => exact ⟨k + 1, t, by omega, rfl, by go_num, N⟩
                case measure => simp [intOf]; omega
              · have f1 : ((k : Int) == (p : Int)) = false := by simp; omega
                have f2 : decide ((p : Int) ≤ (k : Int)) = true := decide_eq_true (by omega)
                have f3 : decide ((k : Int) < (p : Int) + (q : Int)) = false := decide_eq_false (by omega)
                have e1 : g[k]? = some (g[k]'(by omega)) := List.getElem?_eq_getElem _
                have n1 := HG.out _ (List.getElem_mem (show k < g.length by omega))
                generalize g[k]'(by omega) = n at *
                have G1 := Lib.hid (GR.out k hlt n e1)
                have D1 := Lib.hid (r_hexs n n1)
                have l0 := ld_addr hl W.out.1.1
                have N := Lib.hid (fun wr (h : Adr w wr true b) => (show Wrt w wr b g p (p + q) (k + 1) (addG t n) from ⟨h, by rw [outK_add (Nat.le_add_right _ _) e1 (by omega), W.out.2.1], by rw [← W.out.2.1, ← outK_add (Nat.le_add_right _ _) e1 (by omega)]; exact outK_length HG.out _ _ _ (by omega)⟩))
                have hz : (str (hexs n)).size ≤ 4 := by rw [str_size]; exact hexs_length 4 n (by omega) (by decide)
                have t90 : (str t).size ≤ 90 := by rw [str_size]; exact W.out.2.2
                clear e1
                rcases nil_snoc t with rfl | ⟨y, c, rfl⟩
                · have E : Hid (str (addG [] n) = str [] ++ str (hexs n)) := Lib.hid (bytes_eq (by simp [str, addG]))
                  rw [show str [] = (⟨#[]⟩ : ByteArray) from rfl] at E t90
                  simp only [show str [] = (⟨#[]⟩ : ByteArray) from rfl]
                  generalize addG [] n = t' at *
                  generalize str (hexs n) = sh at *
                  go_upto_region 20 with fail
                  go_wp2_with (first
                    | (refine wl_load rfl _ _ rfl _ rfl _ l0 ?_)
                    | (go_at_call 26; refine (G1.out _).mono ?_; rintro e w4 ⟨rfl, hb⟩; have A4 := Lib.hid (W.out.1.on hb); clear hb l0)
                    | (go_at_call 25; refine (D1.out _).mono ?_; rintro e w5 ⟨rfl, hb⟩; have A5 := Lib.hid (A4.out.on hb); clear hb A4))
                  go_roundw
                  case rel => exact ⟨k + 1, t', by omega, by first | (rw [E.out]; done) | (rw [E.out]; rfl), by go_num, Lib.hid (N.out _ A5.out)⟩
                  case measure => simp [intOf]; omega
                · obtain ⟨sx, hsx, h0, hix⟩ := snoc_facts y c
                  by_cases hc : c = 58
                  · have E : Hid (str (addG (y ++ [c]) n) = str (y ++ [c]) ++ str (hexs n)) := Lib.hid (by
                      unfold addG; rw [if_neg (fun q => q.2 (by rw [hc]; simp))]; exact bytes_eq (by simp [str]))
                    rw [decide_eq_false (fun q => q hc)] at hix
                    rw [hsx] at E t90
                    simp only [hsx]
                    generalize addG (y ++ [c]) n = t' at *
                    generalize str (hexs n) = sh at *
                    go_upto_region 20 with fail
                    go_wp2_with (first
                      | (refine wl_load rfl _ _ rfl _ rfl _ l0 ?_)
                      | (go_at_call 26; refine (G1.out _).mono ?_; rintro e w4 ⟨rfl, hb⟩; have A4 := Lib.hid (W.out.1.on hb); clear hb l0)
                      | (go_at_call 25; refine (D1.out _).mono ?_; rintro e w5 ⟨rfl, hb⟩; have A5 := Lib.hid (A4.out.on hb); clear hb A4))
                    go_roundw
                    case rel => exact ⟨k + 1, t', by omega, by first | (rw [E.out]; done) | (rw [E.out]; rfl), by go_num, Lib.hid (N.out _ A5.out)⟩
                    case measure => simp [intOf]; omega
                  · have E : Hid (str (addG (y ++ [c]) n) = str (y ++ [c]) ++ ⟨#[58]⟩ ++ str (hexs n)) := Lib.hid (by
                      unfold addG; rw [if_pos ⟨by simp, by simpa using hc⟩]; exact bytes_eq (by simp [str]))
                    rw [decide_eq_true hc] at hix
                    rw [hsx] at E t90
                    simp only [hsx]
                    generalize addG (y ++ [c]) n = t' at *
                    generalize str (hexs n) = sh at *
                    go_upto_region 20 with fail
                    go_wp2_with (first
                      | (refine wl_load rfl _ _ rfl _ rfl _ l0 ?_)
                      | (go_at_call 26; refine (G1.out _).mono ?_; rintro e w4 ⟨rfl, hb⟩; have A4 := Lib.hid (W.out.1.on hb); clear hb l0)
                      | (go_at_call 25; refine (D1.out _).mono ?_; rintro e w5 ⟨rfl, hb⟩; have A5 := Lib.hid (A4.out.on hb); clear hb A4))
                    go_roundw
                    case rel => exact ⟨k + 1, t', by omega, by first | (rw [E.out]; done) | (rw [E.out]; rfl), by go_num, Lib.hid (N.out _ A5.out)⟩
                    case measure => simp [intOf]; omega
          · obtain rfl : k = 8 := by omega
            have E := Lib.hid (W.out.2.1.symm.trans O.out)
            rw [E.out]
            go_wp2
            go_ret
            exact ⟨rfl, W.out.1.2⟩
/-! ### Print, Ends -/
theorem r_print (v : Bool) (b : List Int) (h : IsA b) (w : World) : Calls Tryz.prog 13 #[.agg (adC v b)] w fun e w' => e = .returned (.string (str (tx v b))) ∧ Below w.heap.size w w' := by
  cases v
  · exact r_print4 b h w
  · exact r_print6 b h w
theorem Blk.q_u16 {w : World} {g : Nat} {t : TypeId} {cs : Array Value} {j : Nat} {n : Int} (h : Blk w g t cs) (hj : cs[j]? = some (.int .u16 n)) : ∀ w', (∃ p : Regrown, w' = grow (redrawn w p.d) p.os) → (Instr.loadAt 25 (.pointer (some ⟨g, j, none⟩))).run Tryz.prog w' = .ok (.int .u16 n) w' := by
  rintro w' ⟨p, rfl⟩
  have c := (h.on (below_regrown w p.d p.os)).cell hj
  generalize grow (redrawn w p.d) p.os = w1 at *
  clear h hj
  simp [Instr.loadAt, go_sem, c]
theorem Blk.q_endsAddr {w : World} {g : Nat} {t : TypeId} {v : Bool} {b : List Int} {p : Int} (h : Blk w g t (enC v b p)) (hl : b.length = 16) : ∀ w', (∃ p : Regrown, w' = grow (redrawn w p.d) p.os) → (Instr.loadAt 24 (.pointer (some ⟨g, 0, none⟩))).run Tryz.prog w' = .ok (.agg (adC v b)) w' := by
  rintro w' ⟨p, rfl⟩
  exact ld_endsAddr hl (h.on (below_regrown w p.d p.os))
set_option maxHeartbeats 1000000 in
theorem r_ends (v : Bool) (b : List Int) (p : Int) (h : IsA b) (hp : 0 ≤ p ∧ p ≤ 65535) (w : World) : Calls Tryz.prog 14 #[.agg (enC v b p)] w fun e w' => e = .returned (.string (str (te v b p))) ∧ Below w.heap.size w w' := by
  have hl := h.1
  have P := Lib.hid (fun w => r_print v b h w)
  have D := Lib.hid (fun w => r_dec p hp w)
  have B0 : Hid (Blk (w.alloc (.cells (enC v b p) 32)) w.heap.size 32 (enC v b p)) := Lib.hid (Blk.new _ _ _ rfl)
  have S0 := Lib.hid (below_alloc w (.cells (enC v b p) 32))
  have k1 : (str (tx v b)).size ≤ 90 := by rw [str_size]; exact tx_bound h
  have k2 : (str (Lib.itoa p)).size ≤ 6 := by rw [str_size]; exact itoa_length p 5 (by omega) (by decide)
  obtain ⟨p0, p1⟩ := hp
  have TE : Hid (str (te v b p) = if v then ⟨#[91]⟩ ++ str (tx v b) ++ ⟨#[93, 58]⟩ ++ str (Lib.itoa p) else str (tx v b) ++ ⟨#[58]⟩ ++ str (Lib.itoa p)) := Lib.hid (by
    cases v <;> exact bytes_eq (by simp [str, te]))
  clear h
  generalize str (Lib.itoa p) = sp at *
  generalize str (tx v b) = s at *
  generalize str (te v b p) = q at *
  go_enter Tryz.func14, Tryz.ntmps14
  go_upto_region 1 with fail
  generalize w.alloc (.cells (enC v b p) 32) = w1 at *
  have c0 := B0.out.cell (en_head v b p)
  have q0 := B0.out.q_endsAddr hl
  have q1 := B0.out.q_u16 (en_port hl)
  cases v
  · go_upto_region 3 with fail
    clear c0
    refine wp_region_quiet_below (by kernel_rfl) (by kernel_rfl) ?_
    repeat (first
      | ((first | refine q_load rfl _ _ rfl _ rfl _ q0 ?_ | refine q_load rfl _ _ rfl _ rfl _ q1 ?_); (try simp only [Act.put, List.setIfInBounds_toArray, List.set_cons_zero, List.set_cons_succ]))
      | (go_big_quiet_step (first | (with_reducible exact (Calls.regrown_of (P.out _))) | (with_reducible exact (Calls.regrown_of (D.out _))))))
    (refine wpQuiet_nil ?_; intro _ hw'; obtain ⟨⟨dq, osq⟩, hw''⟩ := hw'; subst hw'')
    go_wp2
    go_ret
    exact ⟨by rw [TE.out]; rfl, S0.out.trans ((below_quiet dq osq).mono S0.out.size)⟩
  · go_upto_region 2 with fail
    clear c0
    refine wp_region_quiet_below (by kernel_rfl) (by kernel_rfl) ?_
    repeat (first
      | ((first | refine q_load rfl _ _ rfl _ rfl _ q0 ?_ | refine q_load rfl _ _ rfl _ rfl _ q1 ?_); (try simp only [Act.put, List.setIfInBounds_toArray, List.set_cons_zero, List.set_cons_succ]))
      | (go_big_quiet_step (first | (with_reducible exact (Calls.regrown_of (P.out _))) | (with_reducible exact (Calls.regrown_of (D.out _))))))
    (refine wpQuiet_nil ?_; intro _ hw'; obtain ⟨⟨dq, osq⟩, hw''⟩ := hw'; subst hw'')
    go_wp2
    go_ret
    exact ⟨by rw [TE.out]; rfl, S0.out.trans ((below_quiet dq osq).mono S0.out.size)⟩
end Go.Proofs.YthghanidabmfgaaGreatDoor
