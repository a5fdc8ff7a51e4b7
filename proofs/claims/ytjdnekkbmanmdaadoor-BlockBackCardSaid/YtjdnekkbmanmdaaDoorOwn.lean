/-
  Rows that a call owns, of whatever type: what is appended to them.
-/
import Derived.Test.YtjdnekkbmanmdaaDoorLow
import Derived.OwnWalk
import Derived.Maps.AppendAt
namespace Go.Proofs.YtjdnekkbmanmdaaDoor
open Go.RowKit Go.Sort
set_option maxRecDepth 8000
def Own (w wr : World) (e : TypeId) (vs : List Value) (v : Value) : Prop := wr.ownsRow w.heap.size e 1 v vs.length vs ∧ Below w.heap.size w wr
theorem Own.nil (w : World) (e : TypeId) : Own w w e [] (.slice none 0 0) := ⟨World.ownsRow_nil _ _ _ _, Below.refl _ _⟩
theorem Own.on {w w1 w2 : World} {e : TypeId} {vs : List Value} {v : Value} (h : Own w w1 e vs v) (hb : Below w1.heap.size w1 w2) : Own w w2 e vs v := by
  obtain ⟨⟨a, h⟩, hs⟩ := h
  refine ⟨⟨a, h.imp id ?_⟩, hs.trans (hb.mono hs.size)⟩
  rintro ⟨g, cap, cur, e1, e2, hg, r⟩
  exact ⟨g, cap, cur, e1, e2, (hb.block g (Array.getElem?_eq_some_iff.1 hg).1).trans hg, r⟩
/-- A slice that holds these values, one cell each. -/
def RowV (B : Nat) (w : World) (v : Value) (vs : List Value) : Prop := ∃ a c, v = .slice a vs.length c ∧ vs.length ≤ c ∧ (vs = [] ∨ ∃ g, a = some ⟨g, 0, none⟩ ∧ B ≤ g ∧ g < w.heap.size ∧ ∀ j u, vs[j]? = some u → w.cell? ⟨g, j, none⟩ = some u)
theorem RowV.on {B : Nat} {w w' : World} {v : Value} {vs : List Value} (h : RowV B w v vs) (hb : Below w.heap.size w w') : RowV B w' v vs := by
  obtain ⟨a, c, e, hc, h⟩ := h
  refine ⟨a, c, e, hc, h.imp id ?_⟩
  rintro ⟨g, ea, hB, hl, hx⟩
  exact ⟨g, ea, hB, Nat.lt_of_lt_of_le hl hb.size, fun j x hj => (hb.cell (by exact hl)).trans (hx j x hj)⟩
theorem Own.row {w wr : World} {e : TypeId} {vs : List Value} {v : Value} (h : Own w wr e vs v) : RowV w.heap.size wr v vs := by
  obtain ⟨⟨_, ⟨rfl, h0⟩ | ⟨g, cap, cur, rfl, hB, hg, hn, _, hs, ht⟩⟩, _⟩ := h
  · have : vs = [] := List.length_eq_zero_iff.1 h0
    subst this
    exact ⟨none, 0, rfl, Nat.le_refl _, Or.inl rfl⟩
  · refine ⟨some ⟨g, 0, none⟩, cap, rfl, hn, Or.inr ⟨g, rfl, hB, (Array.getElem?_eq_some_iff.1 hg).1, fun j u hj => ?_⟩⟩
    have hl : j < vs.length := (List.getElem?_eq_some_iff.1 hj).1
    have e : cur[j]? = vs[j]? := by
      rw [Nat.mul_one] at ht
      conv => rhs; rw [← ht]
      rw [List.getElem?_take_of_lt (by omega)]; simp
    rw [cell_of_row wr g j cur _ _ hg, e, hj]
theorem wp_append_any {ops : Array Oper} {rest : List Oper} {o : Oper} {a : Act} {Q : Exit → Act → World → Prop} (hgd : o.guard = none) (s x : Operand) (t e : TypeId) (z : Value) (by_ : Nat)
    (hu : Tryd.prog.underlying t = some (.slice e)) (hin : (Tryd.prog.info? e).map (fun i => (i.zero, i.size, i.bytes)) = some (some z, 1, by_)) (hz : z.cells.size = 1) (hby : by_ ≤ 24)
    (ho : o.op = .call { callee := .builtin .append, args := #[s, x], argTypes := #[t, t] }) (w W : World) (L : List Value) (v : Value) (hs : a.eval s = v) (R : Own w W e L v)
    (ad : Addr) (m c : Nat) (news : List Value) (hx : a.eval x = .slice (some ad) m c) (hl : news.length = m) (hn : ∀ j u, news[j]? = some u → W.cell? (ad.add j) = some u) (h1 : ∀ u ∈ news, u.oneCell' = true) (hb : L.length + m ≤ 4000000)
    (h : ∀ v' w', Own w w' e (L ++ news) v' → W.grownBy w' v.ownBlock → (v'.ownBlock = v.ownBlock ∨ v'.ownBlock = some W.heap.size) → wpList Tryd.prog ops Q rest (a.put o.dst v') w') : wpList Tryd.prog ops Q (o :: rest) a W := by
  obtain ⟨i0, hi, hz0, hz1, hz2⟩ := info_parts hin
  have lo := R.1.lt
  have sz := R.2.size
  refine wpList_append_own_at _ hgd s x t ho w.heap.size e i0 z 1 by_ hu hi hz0 hz1 hz2 hz (by decide) v L.length _ hs R.1 ad m c news hx (by rw [hl, Nat.mul_one]) hn h1 (by simp only [maxLen]; omega) ?_ sz (fun v' w' hown hgrow _ hat => h v' w' ⟨?_, R.2.grown hgrow sz (fun k hk => (lo k hk).1)⟩ hgrow hat)
  · have : (L.length + m) * by_ ≤ 4000000 * 24 := Nat.mul_le_mul hb hby
    omega
  · rw [List.length_append, hl]; exact hown
end Go.Proofs.YtjdnekkbmanmdaaDoor
