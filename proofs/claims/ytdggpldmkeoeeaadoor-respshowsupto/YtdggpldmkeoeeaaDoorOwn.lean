/- Rows of bytes that a call builds by append. -/
import Derived.Test.YtdggpldmkeoeeaaDoorShow
import Derived.Deep.RegionLaw
import Derived.Laws.IdiomStrings
namespace Go.Proofs.YtdggpldmkeoeeaaDoor.Own
open Go.RowKit
open Go.Proofs.YtdggpldmkeoeeaaDoor.TextMath
open Go.Proofs.YtdggpldmkeoeeaaDoor.RepMath
open Go.Proofs.YtdggpldmkeoeeaaDoor.Cut
open Go.Proofs.YtdggpldmkeoeeaaDoor.Builder
set_option linter.unusedVariables false

def Own (B : Nat) (v : Value) (l : List UInt8) (w : World) : Prop := w.ownsRow B 5 1 v l.length (Lib.byteCells l) ∧ B ≤ w.heap.size
theorem own_nil (w : World) (B : Nat) (h : B ≤ w.heap.size) : Own B (.slice none 0 0) [] w := ⟨World.ownsRow_nil _ _ _ _, h⟩
theorem own_after {B : Nat} {v : Value} {l : List UInt8} {w w' : World} (h : Own B v l w) (hb : Below w.heap.size w w') : Own B v l w' := by
  refine ⟨⟨h.1.1, ?_⟩, Nat.le_trans h.2 hb.size⟩
  rcases h.1.2 with x | ⟨g, cp, cur, x1, x2, x3, x4⟩
  · exact Or.inl x
  · exact Or.inr ⟨g, cp, cur, x1, x2, (hb.block g (Array.getElem?_eq_some_iff.1 x3).1).trans x3, x4⟩
theorem conv_own {B : Nat} {wx : World} {v : Value} {l : List UInt8} (h : Own B v l wx) : (convert 57 9 v).run Tryd.prog wx = .ok (.string ⟨l.toArray⟩) wx := by
  rcases h.1.2 with ⟨e, hn⟩ | ⟨g, cap, cur, e, _⟩
  · rw [List.length_eq_zero_iff] at hn
    subst e; subst hn
    exact run_convert_bytes_nil wx 57 5 Tryd.underlying57 Tryd.underlying5 0 0 9 Tryd.underlying9
  · have h1 := h.1
    subst e
    exact run_convert_bytes_back (P := Tryd.prog) wx 57 9 5 ⟨g, 0, none⟩ cap l Tryd.underlying57 Tryd.underlying5 Tryd.underlying9 (fun j hj => by
      have e : (⟨g, 0, none⟩ : Addr).add j = ⟨g, j, none⟩ := by
        by_cases h0 : j = 0
        · subst h0; rfl
        · simp [Addr.add, h0]
      rw [e]
      rw [World.ownsRow.cellAt h1 j (by omega)]
      simp [Lib.byteCells, hj])
section
variable {ops : Array Oper} {rest : List Oper} {o : Oper} {a : Act} {Q : Exit → Act → World → Prop}
theorem new_cells (W : World) (cs : List Value) (j : Nat) (u : Value) (h : cs[j]? = some u) : (W.alloc (.cells cs.toArray 5)).cell? ((⟨W.heap.size, 0, none⟩ : Addr).add j) = some u := by
  have e : (⟨W.heap.size, 0, none⟩ : Addr).add j = ⟨W.heap.size, j, none⟩ := by
    by_cases h0 : j = 0
    · subst h0; rfl
    · simp [Addr.add, h0]
  rw [e, Lib.cell_of_heap (heap_alloc_new W _)]
  simpa using h
theorem one_cells (l : List UInt8) : ∀ u, u ∈ Lib.byteCells l → u.oneCell' = true := by
  intro u hu
  obtain ⟨c, _, rfl⟩ := List.mem_map.1 hu
  rfl
/- append(b, x, y, ..) onto an owned row, the new bytes in a new block -/
theorem wp_put (s x : Operand) (ho : o.op = .call { callee := .builtin .append, args := #[s, x], argTypes := #[57, 57] }) (B : Nat) (v : Value) (l news : List UInt8) (W : World) (cs : Array Value) (hcs : cs = (Lib.byteCells news).toArray) (c : Nat) {K : Act → World → Prop}
    (h : Own B v l W) (hs : a.eval s = v) (hx : a.eval x = .slice (some ⟨W.heap.size, 0, none⟩) news.length c) (hlen : l.length + news.length ≤ 1000000000)
    (hK : ∀ v' w', Own B v' (l ++ news) w' → Below B W w' → K (a.put o.dst v') w') : o.wp Tryd.prog a (W.alloc (.cells cs 5)) K Q := by
  subst hcs
  obtain ⟨i0, hi0, hz0, hz1, hz2⟩ := info_parts info5
  have hsz := h.2
  refine wp_append_own _ s x 57 ho B 5 i0 (.int .u8 0) 1 1 Tryd.underlying57 hi0 hz0 hz1 hz2 rfl (by decide) v _ _ hs (h.1.alloc _) ⟨W.heap.size, 0, none⟩ news.length c (Lib.byteCells news) hx (by rw [Lib.byteCells_length, Nat.mul_one])
    (fun j u hj => new_cells W _ j u hj) (one_cells news) (by unfold maxLen; omega) (by omega) (by simp; omega) ?_
  intro v' w' hown hgrow _
  refine hK v' w' ⟨?_, Nat.le_trans hsz (Nat.le_trans (by simp) hgrow.size)⟩ ?_
  · rw [List.length_append, Lib.byteCells_append]; exact hown
  · exact ((Below.refl B W).alloc hsz _).grown hgrow (by simp; omega) (fun j hj => (h.1.lt j hj).1)
theorem wpl_put (hgd : o.guard = none) (s x : Operand) (ho : o.op = .call { callee := .builtin .append, args := #[s, x], argTypes := #[57, 57] }) (B : Nat) (v : Value) (l news : List UInt8) (W : World) (cs : Array Value) (hcs : cs = (Lib.byteCells news).toArray) (c : Nat)
    (h : Own B v l W) (hs : a.eval s = v) (hx : a.eval x = .slice (some ⟨W.heap.size, 0, none⟩) news.length c) (hlen : l.length + news.length ≤ 1000000000)
    (hK : ∀ v' w', Own B v' (l ++ news) w' → Below B W w' → wpList Tryd.prog ops Q rest (a.put o.dst v') w') : wpList Tryd.prog ops Q (o :: rest) a (W.alloc (.cells cs 5)) :=
  wpList_plain hgd fun _ hK2 => wp_put s x ho B v l news W cs hcs c h hs hx hlen fun v' w' h1 h2 => hK2 _ _ (hK v' w' h1 h2)
theorem step_put {E : Prop} {K : Act → World → Prop} (hg : o.guard = none) (s x : Operand) (ho : o.op = .call { callee := .builtin .append, args := #[s, x], argTypes := #[57, 57] }) (B : Nat) (v : Value) (l news : List UInt8) (W : World) (cs : Array Value) (hcs : cs = (Lib.byteCells news).toArray) (c : Nat)
    (h : Own B v l W) (hs : a.eval s = v) (hx : a.eval x = .slice (some ⟨W.heap.size, 0, none⟩) news.length c) (hlen : l.length + news.length ≤ 1000000000)
    (hK : ∀ v' w', Own B v' (l ++ news) w' → Below B W w' → K (a.put o.dst v') w') :
    if Region.wanted o (yielded ops a.tmps) = true then Oper.wp Tryd.prog o a (W.alloc (.cells cs 5)) K Q else E := by
  have hw : Region.wanted o (yielded ops a.tmps) = true := by simp [Region.wanted, hg]
  rw [if_pos hw]
  exact wp_put s x ho B v l news W cs hcs c h hs hx hlen hK
/- append(b, s...) -/
theorem wpl_str (hgd : o.guard = none) (s x : Operand) (ho : o.op = .call { callee := .builtin .append, args := #[s, x], argTypes := #[57, 9] }) (B : Nat) (v : Value) (l : List UInt8) (t : ByteArray) (W : World)
    (h : Own B v l W) (hs : a.eval s = v) (hx : a.eval x = .string t) (hlen : l.length + t.size ≤ 1000000000)
    (hK : ∀ v' w', Own B v' (l ++ bs t) w' → Below B W w' → wpList Tryd.prog ops Q rest (a.put o.dst v') w') : wpList Tryd.prog ops Q (o :: rest) a W := by
  obtain ⟨i0, hi0, hz0, hz1, hz2⟩ := info_parts info5
  have hsz := h.2
  refine Lib.wpList_append_own_string _ hgd s x 57 9 ho B 5 i0 Tryd.underlying57 Tryd.underlying9 hi0 hz0 hz1 hz2 v _ _ hs h.1 t hx (by unfold maxLen; omega) (by omega) hsz ?_
  intro v' w' hown hgrow _
  refine hK v' w' ⟨?_, Nat.le_trans hsz hgrow.size⟩ ?_
  · rw [List.length_append, Lib.byteCells_append, len_bs]; exact hown
  · exact (Below.refl B W).grown hgrow hsz (fun j hj => (h.1.lt j hj).1)
end
end Go.Proofs.YtdggpldmkeoeeaaDoor.Own
