/-
  The calls of package text in one shape; the calls that print integers.
-/
import Derived.Test.YtcipgagpmglikaaGreatDoorUint
import Derived.Test.YtcipgagpmglikaaGreatDoorBoxes
import Derived.Lib.AppendIntMem
namespace Go.Proofs.YtcipgagpmglikaaGreatDoor
open Go.RowKit Go.Sort
/-- What the library's table of powers holds. -/
def Tab (w : World) : Prop := Lib.TabIs Tryz.prog w "internal/strconv.uint64pow10" .u64 Lib.pow10Tab
theorem Tab.below {w w' : World} (h : Tab w) (hb : Below w.heap.size w w') : Tab w' := Lib.tabBelow_of_tabIs h w' hb
def Env (w : World) : Prop := Glob w ∧ Tab w
theorem Env.below {w w' : World} (h : Env w) (hb : Below w.heap.size w w') : Env w' := ⟨h.1.below hb, h.2.below hb⟩
theorem Env.regrown {w : World} (h : Env w) (d : Nat) (os : Array Obj) : Env (grow (redrawn w d) os) := h.below (below_regrown w d os)
/-- What a call answers, in whatever later world. -/
def Says (f : FuncId) (args : Array Value) (v : Value) : Prop := ∀ w, Env w → Calls Tryz.prog f args w fun e w' => e = .returned v ∧ Below w.heap.size w w'
theorem Says.as {f : FuncId} {args args' : Array Value} {v v' : Value} (h : Says f args v) (ha : args = args') (hv : v = v') : Says f args' v' := by subst ha hv; exact h
theorem Gives.says {f : FuncId} {args : Array Value} {v : Value} (h : Gives f args v) : Says f args v := fun w hw => h w hw.1
theorem Says.quiet {f : FuncId} {args : Array Value} {v : Value} (h : Says f args v) {w : World} (hg : Env w) (d : Nat) (os : Array Obj) :
    Calls Tryz.prog f args (grow (redrawn w d) os) fun e w'' => e = .returned v ∧ ∃ p : Regrown, w'' = grow (redrawn w p.d) p.os :=
  Calls.regrown_of (h _ (hg.regrown d os))
/-- A number's text. -/
def txt (n : Int) : ByteArray := ⟨(Lib.itoa n).toArray⟩
theorem txt_list (n : Int) : (txt n).data.toList = Lib.itoa n := by simp [txt]
theorem txt_size (n : Int) : (txt n).size = (Lib.itoa n).length := by show (Lib.itoa n).toArray.size = _; simp
theorem bytes_eq {a b : ByteArray} (h : a.data.toList = b.data.toList) : a = b := by
  cases a; cases b; congr 1; exact Array.toList_inj.1 h
theorem txt_eq {n : Int} {s : ByteArray} : txt n = s ↔ Lib.itoa n = s.data.toList := by
  constructor
  · rintro rfl; rw [txt_list]
  · intro h; exact bytes_eq (by rw [txt_list, h])
theorem below_grown (w : World) (k : Nat) (os : Array Obj) : Below w.heap.size w (grow (w.drewN k) os) := Lib.below_grow _ _ (Nat.le_refl _) _ _
theorem x_format (n : Int) (h : -9223372036854775808 ≤ n ∧ n ≤ 9223372036854775807) : Says 44 #[.int .i64 n, .int .i64 10] (.string (txt n)) := fun w hw =>
  (Tryz.strconv_FormatInt_10 n h.1 h.2 w hw.2).mono fun e w' ⟨he, k, os, hw'⟩ => ⟨he, by subst hw'; exact below_grown _ _ _⟩
theorem itoa_nat (u : Int) (h : 0 ≤ u) : Lib.itoa u = Lib.decDigits u.toNat := by unfold Lib.itoa; rw [if_neg (by omega)]
theorem x_unsigned (n : Int) (h : 0 ≤ n ∧ n ≤ 18446744073709551615) : Says 85 #[.int .u64 n, .int .i64 10] (.string (txt n)) := fun w hw => by
  obtain ⟨u, rfl⟩ : ∃ u : Nat, n = u := ⟨n.toNat, by omega⟩
  exact (format_uint u (by omega) w hw.2).mono fun e w' ⟨he, k, os, hw'⟩ => ⟨by rw [he, txt, itoa_nat _ h.1]; rfl, by subst hw'; exact below_grown _ _ _⟩
theorem t_dec (n : Int) (h : -9223372036854775808 ≤ n ∧ n ≤ 9223372036854775807) : Says 29 #[.int .i64 n] (.string (txt n)) := fun w hw => by
  have X := Lib.hid (x_format n h)
  have W := Lib.hid hw
  generalize txt n = s at *
  clear hw h
  go_enter Tryz.func29, Tryz.ntmps29
  go_wp2_with fail
  refine (X.out _ W.out).mono ?_
  rintro e w1 ⟨rfl, hb⟩
  go_wp2
  go_ret
  exact ⟨rfl, hb⟩
theorem t_unsigned (n : Int) (h : 0 ≤ n ∧ n ≤ 18446744073709551615) : Says 75 #[.int .u64 n] (.string (txt n)) := fun w hw => by
  have X := Lib.hid (x_unsigned n h)
  have W := Lib.hid hw
  generalize txt n = s at *
  clear hw h
  go_enter Tryz.func75, Tryz.ntmps75
  go_wp2_with fail
  refine (X.out _ W.out).mono ?_
  rintro e w1 ⟨rfl, hb⟩
  go_wp2
  go_ret
  exact ⟨rfl, hb⟩
/-- The value of a hexadecimal digit. -/
def digV (c : Int) : Int := if 97 ≤ c ∧ c ≤ 102 then c - 87 else if 48 ≤ c ∧ c ≤ 57 then c - 48 else 0
def digB (c : Int) : Bool := decide ((97 ≤ c ∧ c ≤ 102) ∨ (48 ≤ c ∧ c ≤ 57))
theorem t_digit (c : Int) (h : -2147483648 ≤ c ∧ c ≤ 2147483647) : Says 55 #[.int .i32 c] (.tuple #[.int .u8 (digV c), .bool (digB c)]) := fun w _ => by
  by_cases h1 : 97 ≤ c ∧ c ≤ 102
  · have v : digV c = c - 87 := by simp [digV, h1]
    have b : digB c = true := by simp [digB, h1]
    rw [v, b]
    have k1 := h1.1
    have k2 := h1.2
    go_enter Tryz.func55, Tryz.ntmps55
    go_wp2
    exact bodyPost_ret (v := .tuple #[.int .u8 (c + -39 - 48), .bool true]) (by simp [results, Tryz.results55, go_sem]) rfl ⟨by rw [show c + -39 - 48 = c - 87 by omega], Below.refl _ _⟩
  · by_cases h2 : 48 ≤ c ∧ c ≤ 57
    · have v : digV c = c - 48 := by unfold digV; rw [if_neg h1, if_pos h2]
      have b : digB c = true := by simp [digB, h2]
      rw [v, b]
      have k1 := h2.1
      have k2 := h2.2
      go_enter Tryz.func55, Tryz.ntmps55
      go_wp2
      exact bodyPost_ret (v := .tuple #[.int .u8 (c - 48), .bool true]) (by simp [results, Tryz.results55, go_sem]) rfl ⟨rfl, Below.refl _ _⟩
    · have v : digV c = 0 := by unfold digV; rw [if_neg h1, if_neg h2]
      have b : digB c = false := by unfold digB; simp; omega
      rw [v, b]
      go_enter Tryz.func55, Tryz.ntmps55
      go_wp2
      all_goals first | (exfalso; omega) | exact bodyPost_ret (v := .tuple #[.int .u8 0, .bool false]) (by simp [results, Tryz.results55, go_sem]) rfl ⟨rfl, Below.refl _ _⟩
end Go.Proofs.YtcipgagpmglikaaGreatDoor
