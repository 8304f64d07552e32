/- From what the script reads as to rows of calls in memory, and how much they hold. -/
import Derived.Test.YthmfgnagpifnlaaDone
import Derived.Test.YthmfgnagpifnlaaRows
import Derived.ChangeSlices
import Derived.Deep.Slices
namespace Go.Proofs.Ythmfgnagpifnlaa.Ops
open Go.ChangeShapes Go.WideShapes Go.RowKit
open Go.Proofs.Ythmfgnagpifnlaa.PipeMath
open Go.Proofs.Ythmfgnagpifnlaa.Base
open Go.Proofs.Ythmfgnagpifnlaa.Queue
set_option linter.unusedVariables false
abbrev POp := Go.Proofs.Ythmfgnagpifnlaa.PipeMath.Op
instance : Inhabited POp := ⟨⟨0, 0, 0, []⟩⟩
theorem cells3 : Try.prog.cellsOf 3 = 1 := by kernel_rfl
theorem cells9 : Try.prog.cellsOf 9 = 1 := by kernel_rfl
theorem cells35 : Try.prog.cellsOf 35 = 4 := by kernel_rfl
theorem bulk_sum {H : Type} : ∀ (l : List (DataW H)) (f : Nat → Nat), (∀ i (h : i < l.length), f i ≤ Rows.uptoBulk l[i]) → ((List.range l.length).map f).sum ≤ Rows.uptoBulkAll l
  | [], f, h => Nat.zero_le _
  | d :: l, f, h => by
    have ih := bulk_sum l (fun i => f (i + 1)) (fun i hi => h (i + 1) (Nat.succ_lt_succ hi))
    have h0 : f 0 ≤ Rows.uptoBulk d := h 0 (Nat.succ_pos _)
    rw [List.length_cons, List.range_succ_eq_map, List.map_cons, List.sum_cons, List.map_map, Rows.uptoBulkAll]
    have e : (List.range l.length).map (f ∘ Nat.succ) = (List.range l.length).map (fun i => f (i + 1)) := rfl
    rw [e]
    omega
theorem spot_none {w : World} {a : Addr} {v : Value} (h : w.cell? a = some v) : a.spot = none := by
  unfold World.cell? at h
  rcases hh : w.heap[a.block]? with _ | o
  · rw [hh] at h; cases h
  · rw [hh] at h
    cases o with
    | cells c ty fz =>
      cases hs : a.spot with
      | none => rfl
      | some s => simp [hs] at h
    | _ => cases h
theorem add_of {a : Addr} (h : a.spot = none) (k : Nat) : a.add k = ⟨a.block, a.off + k, none⟩ := by
  obtain ⟨b, o, s⟩ := a
  obtain rfl : s = none := h
  exact add_off b o k
theorem four_of {α : Type} (l : List α) (h : l.length = 4) : ∃ a b c d, l = [a, b, c, d] := by
  match l, h with
  | [a, b, c, d], _ => exact ⟨a, b, c, d, rfl⟩
theorem cells_four {w : World} {a : Addr} {cs : List Value} (h : w.cells? 0 a 4 = some cs) : ∃ v0 v1 v2 v3, cs = [v0, v1, v2, v3] ∧ w.cell? (a.add 0) = some v0 ∧ w.cell? (a.add 1) = some v1 ∧ w.cell? (a.add 2) = some v2 ∧ w.cell? (a.add 3) = some v3 := by
  unfold World.cells? at h
  rw [if_pos (Nat.zero_le _)] at h
  simp only [List.range_succ, List.range_zero, List.nil_append, List.cons_append, List.mapM_cons, List.mapM_nil] at h
  cases h0 : w.cell? (a.add 0) with
  | none => rw [h0] at h; simp at h
  | some v0 =>
    cases h1 : w.cell? (a.add 1) with
    | none => rw [h0, h1] at h; simp at h
    | some v1 =>
      cases h2 : w.cell? (a.add 2) with
      | none => rw [h0, h1, h2] at h; simp at h
      | some v2 =>
        cases h3 : w.cell? (a.add 3) with
        | none => rw [h0, h1, h2, h3] at h; simp at h
        | some v3 => rw [h0, h1, h2, h3] at h; simp at h; exact ⟨v0, v1, v2, v3, h.symm, rfl, rfl, rfl, rfl⟩
/- a slice of calls, to be read -/
def OpAt (w : World) (g o : Nat) (l : List POp) : Prop := ∀ i (h : i < l.length), w.cell? ⟨g, o + i * 4, none⟩ = some (.int .i64 (l[i]).kind) ∧ w.cell? ⟨g, o + i * 4 + 1, none⟩ = some (.int .i64 (l[i]).conn) ∧ w.cell? ⟨g, o + i * 4 + 2, none⟩ = some (.int .i64 (l[i]).num) ∧ w.cell? ⟨g, o + i * 4 + 3, none⟩ = some (.string (mk (l[i]).data))
def OpSl (w : World) (v : Value) (l : List POp) : Prop := ∃ a cap, v = .slice a l.length cap ∧ (l = [] ∨ ∃ g o, a = some ⟨g, o, none⟩ ∧ OpAt w g o l)
def wt (l : List POp) : Nat := (l.map fun o => o.data.length + 1).sum
theorem open_ops {H : Type} {enc : TypeId × Value → H} {w : World} {fuel : Nat} {c : Value} {x : DataW H × List MemPlace} (h : DataW.trod enc Try.prog w 0 (fun _ => true) true fuel 22 [c] = some x) :
    ∃ l : List POp, OpSl w c l ∧ wt l ≤ Rows.uptoBulk x.1 := by
  rcases DataW.trod_slice Try.underlying22 h with ⟨e3, rfl⟩ | ⟨a, len, cap, elems, rest, m, rfl, e3, rfl, -, hlc, hcm, hel, hat, -, -⟩
  · cases e3; exact ⟨[], ⟨none, 0, rfl, Or.inl rfl⟩, Nat.zero_le _⟩
  · cases e3
    have hch : ∀ i, i < len → ∃ o : POp, ∃ hi : i < elems.length, w.cell? ((a.add (i * 4)).add 0) = some (.int .i64 o.kind) ∧ w.cell? ((a.add (i * 4)).add 1) = some (.int .i64 o.conn) ∧ w.cell? ((a.add (i * 4)).add 2) = some (.int .i64 o.num) ∧ w.cell? ((a.add (i * 4)).add 3) = some (.string (mk o.data)) ∧ o.data.length + 1 ≤ Rows.uptoBulk (elems[i]).1 := by
      intro i hi
      have hi2 : i < elems.length := by omega
      have h1 := hat i hi
      rw [List.getElem?_eq_getElem hi2, cells35] at h1
      obtain ⟨cs', h2, h3⟩ := Option.bind_eq_some_iff.1 h1
      obtain ⟨v0, v1, v2, v3, rfl, q0, q1, q2, q3⟩ := cells_four h2
      obtain ⟨xs, n, -, hx, hl, hlen, hfd⟩ := DataW.trod_struct Try.underlying35 h3
      obtain ⟨y0, y1, y2, y3, rfl⟩ := four_of xs hlen
      have g0 : DataW.trod enc Try.prog w 0 (fun _ => true) true n 3 (([v0, v1, v2, v3].drop 0).take (Try.prog.cellsOf 3)) = some y0 := hfd 0 _ rfl
      rw [cells3] at g0
      have g1 : DataW.trod enc Try.prog w 0 (fun _ => true) true n 3 (([v0, v1, v2, v3].drop 1).take (Try.prog.cellsOf 3)) = some y1 := hfd 1 _ rfl
      rw [cells3] at g1
      have g2 : DataW.trod enc Try.prog w 0 (fun _ => true) true n 3 (([v0, v1, v2, v3].drop 2).take (Try.prog.cellsOf 3)) = some y2 := hfd 2 _ rfl
      rw [cells3] at g2
      have g3 : DataW.trod enc Try.prog w 0 (fun _ => true) true n 9 (([v0, v1, v2, v3].drop 3).take (Try.prog.cellsOf 9)) = some y3 := hfd 3 _ rfl
      rw [cells9] at g3
      obtain ⟨k0, e0, -, -⟩ := DataW.trod_int Try.underlying3 (g0 : DataW.trod enc Try.prog w 0 (fun _ => true) true n 3 [v0] = some y0)
      obtain ⟨k1, e1, -, -⟩ := DataW.trod_int Try.underlying3 (g1 : DataW.trod enc Try.prog w 0 (fun _ => true) true n 3 [v1] = some y1)
      obtain ⟨k2, e2, -, -⟩ := DataW.trod_int Try.underlying3 (g2 : DataW.trod enc Try.prog w 0 (fun _ => true) true n 3 [v2] = some y2)
      obtain ⟨t, e4, e5, _⟩ := DataW.trod_string Try.underlying9 (g3 : DataW.trod enc Try.prog w 0 (fun _ => true) true n 9 [v3] = some y3)
      cases e0; cases e1; cases e2; cases e4
      refine ⟨⟨k0, k1, k2, bs t⟩, hi2, q0, q1, q2, by rw [mk_bs]; exact q3, ?_⟩
      rw [hx]
      subst e5
      simp only [Rows.uptoBulk, Rows.uptoBulkAll, List.map_cons, List.map_nil]
      show t.data.toList.length + 1 ≤ _
      omega
    obtain ⟨T, hT⟩ := Deep.choose_lt hch
    refine ⟨(List.range len).map T, ⟨some a, cap, by simp, ?_⟩, ?_⟩
    · rcases Nat.eq_zero_or_pos len with h0 | hp
      · left; rw [h0]; rfl
      · right
        have hs : a.spot = none := by
          obtain ⟨_, h1, _⟩ := hT 0 hp
          have := spot_none h1
          simpa [Addr.add] using this
        refine ⟨a.block, a.off, ?_, fun k hk => ?_⟩
        · obtain ⟨b, o, s⟩ := a; obtain rfl : s = none := hs; rfl
        · have hk' : k < len := by simpa using hk
          obtain ⟨_, h1, h2, h3, h4, _⟩ := hT k hk'
          rw [add_of hs, add_off] at h1 h2 h3 h4
          simp only [List.getElem_map, List.getElem_range]
          exact ⟨h1, h2, h3, h4⟩
    · have := bulk_sum (elems.map (·.1)) (fun i => (T i).data.length + 1) (fun i hi => by
        have hi' : i < len := by rw [List.length_map, hel] at hi; exact hi
        obtain ⟨_, _, _, _, _, h2⟩ := hT i hi'
        rw [List.getElem_map]
        exact h2)
      rw [List.length_map, hel] at this
      have e : wt ((List.range len).map T) = ((List.range len).map fun i => (T i).data.length + 1).sum := by
        unfold wt
        rw [List.map_map]
        rfl
      rw [e]
      simp only [Rows.uptoBulk]
      omega
theorem wt_len : ∀ l : List POp, l.length ≤ wt l
  | [] => Nat.zero_le _
  | o :: l => by
    have := wt_len l
    unfold wt at this ⊢
    rw [List.map_cons, List.sum_cons, List.length_cons]
    omega
def dt (l : List POp) : Nat := (l.map fun o => o.data.length).sum
theorem dt_le : ∀ l : List POp, dt l ≤ wt l
  | [] => Nat.zero_le _
  | o :: l => by
    have := dt_le l
    unfold wt dt at this ⊢
    rw [List.map_cons, List.sum_cons, List.map_cons, List.sum_cons]
    omega
theorem dt_take (l : List POp) (k : Nat) (h : k < l.length) : dt (l.take (k + 1)) = dt (l.take k) + (l[k]).data.length := by
  rw [List.take_add_one, List.getElem?_eq_getElem h]
  unfold dt
  rw [List.map_append, List.sum_append]
  simp
theorem dt_le_all (l : List POp) (k : Nat) : dt (l.take k) ≤ dt l := by
  have : dt l = dt (l.take k) + dt (l.drop k) := by
    conv => lhs; rw [← List.take_append_drop k l]
    unfold dt
    rw [List.map_append, List.sum_append]
  omega
theorem op_later {w w' : World} {g o : Nat} {l : List POp} (h : OpAt w g o l) (hk : w'.heap[g]? = w.heap[g]?) : OpAt w' g o l := fun i hi => by
  obtain ⟨h0, h1, h2, h3⟩ := h i hi
  exact ⟨(World.cell?_of_block (a := ⟨g, _, none⟩) hk).trans h0, (World.cell?_of_block (a := ⟨g, _, none⟩) hk).trans h1, (World.cell?_of_block (a := ⟨g, _, none⟩) hk).trans h2, (World.cell?_of_block (a := ⟨g, _, none⟩) hk).trans h3⟩
end Go.Proofs.Ythmfgnagpifnlaa.Ops
