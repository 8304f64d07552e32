/- From what an argument reads as to a reply in memory, and how much it holds. -/
import Derived.Test.YtdggpldmkeoeeaaDoorShown
import Derived.Deep.Slices
namespace Go.Proofs.YtdggpldmkeoeeaaDoor.Datum
open Go.ChangeShapes Go.WideShapes Go.RowKit
open Go.Proofs.YtdggpldmkeoeeaaDoor.TextMath
open Go.Proofs.YtdggpldmkeoeeaaDoor.RepMath
open Go.Proofs.YtdggpldmkeoeeaaDoor.Rep
open Go.Proofs.YtdggpldmkeoeeaaDoor.Shown
set_option linter.unusedVariables false

theorem in_of {n : Int} (h : (Lit.int .i64 n).wf = true) : InI n := by
  simp only [Lit.wf, IntKind.min, IntKind.max, IntKind.signed, IntKind.bits, Bool.and_eq_true, decide_eq_true_eq, if_true] at h
  unfold InI; omega
theorem cells24 : Tryd.prog.cellsOf 24 = 4 := by kernel_rfl
theorem cells3 : Tryd.prog.cellsOf 3 = 1 := by kernel_rfl
theorem cells9 : Tryd.prog.cellsOf 9 = 1 := by kernel_rfl
theorem cells22 : Tryd.prog.cellsOf 22 = 1 := by kernel_rfl

theorem bulk_pos {H : Type} : ∀ d : DataW H, 1 ≤ Rows.uptoBulk d
  | .lit (.string b) => by simp [Rows.uptoBulk]
  | .lit (.bool _) => by simp [Rows.uptoBulk]
  | .lit (.int _ _) => by simp [Rows.uptoBulk]
  | .lit (.float _ _) => by simp [Rows.uptoBulk]
  | .lit .nil => by simp [Rows.uptoBulk]
  | .nil => by simp [Rows.uptoBulk]
  | .ptr d => by simp [Rows.uptoBulk]
  | .slice a b => by simp [Rows.uptoBulk]
  | .agg a => by simp [Rows.uptoBulk]
  | .iface _ d => by simp [Rows.uptoBulk]
  | .map _ => by simp [Rows.uptoBulk]
  | .held _ => by simp [Rows.uptoBulk]
theorem bulk_len {H : Type} : ∀ l : List (DataW H), l.length ≤ Rows.uptoBulkAll l
  | [] => Nat.zero_le _
  | d :: l => by
    have := bulk_len l
    have := bulk_pos d
    rw [Rows.uptoBulkAll, List.length_cons]; omega
theorem bulk_at {H : Type} : ∀ (l : List (DataW H)) (i : Nat) (h : i < l.length), Rows.uptoBulk l[i] ≤ Rows.uptoBulkAll l
  | d :: l, 0, h => by rw [Rows.uptoBulkAll]; show Rows.uptoBulk d ≤ _; omega
  | d :: l, i + 1, h => by
    have := bulk_at l i (Nat.lt_of_succ_lt_succ h)
    rw [Rows.uptoBulkAll]
    show Rows.uptoBulk (l[i]'(Nat.lt_of_succ_lt_succ h)) ≤ _
    omega
theorem bulk_sum {H : Type} : ∀ (l : List (DataW H)) (f : Nat → Nat), (∀ i (h : i < l.length), f i ≤ Rows.uptoBulk l[i]) → ((List.range l.length).map f).sum ≤ Rows.uptoBulkAll l
  | [], f, h => Nat.zero_le _
  | d :: l, f, h => by
    have ih := bulk_sum l (fun i => f (i + 1)) (fun i hi => h (i + 1) (Nat.succ_lt_succ hi))
    have h0 : f 0 ≤ Rows.uptoBulk d := h 0 (Nat.succ_pos _)
    rw [List.length_cons, List.range_succ_eq_map, List.map_cons, List.sum_cons, List.map_map, Rows.uptoBulkAll]
    have e : (List.range l.length).map (f ∘ Nat.succ) = (List.range l.length).map (fun i => f (i + 1)) := rfl
    rw [e]
    omega
instance : Inhabited Rp := ⟨.mk 0 ⟨#[]⟩ 0 []⟩

theorem cells_four {w : World} {b o : Nat} {v0 v1 v2 v3 : Value} (h : w.cells? 0 ⟨b, o, none⟩ 4 = some [v0, v1, v2, v3]) :
    w.cell? ⟨b, o, none⟩ = some v0 ∧ w.cell? ⟨b, o + 1, none⟩ = some v1 ∧ w.cell? ⟨b, o + 2, none⟩ = some v2 ∧ w.cell? ⟨b, o + 3, none⟩ = some v3 := by
  unfold World.cells? at h
  rw [if_pos (Nat.zero_le _)] at h
  have key : ∀ i, i < 4 → ([v0, v1, v2, v3] : List Value)[i]? = w.cell? ((⟨b, o, none⟩ : Addr).add i) := by
    intro i hi
    obtain ⟨x, hx, hy⟩ := Lib.mapM_at h i i (by simp [hi])
    rw [hx, hy]
  have h0 := key 0 (by decide)
  have h1 := key 1 (by decide)
  have h2 := key 2 (by decide)
  have h3 := key 3 (by decide)
  exact ⟨h0.symm, h1.symm, h2.symm, h3.symm⟩

theorem add_at (b o n : Nat) : (⟨b, o, none⟩ : Addr).add n = ⟨b, o + n, none⟩ := by
  by_cases h : n = 0
  · subst h; rfl
  · simp [Addr.add, h]

theorem four_of {α : Type} (l : List α) (h : l.length = 4) : ∃ a b c d, l = [a, b, c, d] := by
  match l, h with
  | [a, b, c, d], _ => exact ⟨a, b, c, d, rfl⟩

theorem open_rep {H : Type} {enc : TypeId × Value → H} {w : World} : ∀ (fuel : Nat) (cs : List Value) (x : DataW H × List MemPlace), DataW.trod enc Tryd.prog w 0 (fun _ => true) true fuel 24 cs = some x →
    ∃ (r : Rp) (a : Option Addr) (cap : Nat), cs = [.int .i64 (Rp.kind r), .string (Rp.text r), .int .i64 (Rp.num r), .slice a (Rp.list r).length cap] ∧ IsL (· < w.heap.size) w (Rp.list r) a (Rp.list r).length cap
      ∧ (Rows.uptoBulk x.1 ≤ 1048576 → Ok r) ∧ (∀ d, wt d r ≤ Rows.uptoBulk x.1) := by
  intro fuel
  induction fuel using Nat.strongRecOn with
  | ind fuel ih =>
    intro cs x h
    obtain ⟨xs, n, rfl, rfl, hl, hlen, hf⟩ := DataW.trod_struct Tryd.underlying24 h
    rw [cells24] at hl
    obtain ⟨c0, c1, c2, c3, rfl⟩ := four_of cs hl
    obtain ⟨y0, y1, y2, y3, rfl⟩ := four_of xs hlen
    have g0 : DataW.trod enc Tryd.prog w 0 (fun _ => true) true n 3 (([c0, c1, c2, c3].drop 0).take (Tryd.prog.cellsOf 3)) = some y0 := hf 0 _ rfl
    rw [cells3] at g0
    have g1 : DataW.trod enc Tryd.prog w 0 (fun _ => true) true n 9 (([c0, c1, c2, c3].drop 1).take (Tryd.prog.cellsOf 9)) = some y1 := hf 1 _ rfl
    rw [cells9] at g1
    have g2 : DataW.trod enc Tryd.prog w 0 (fun _ => true) true n 3 (([c0, c1, c2, c3].drop 2).take (Tryd.prog.cellsOf 3)) = some y2 := hf 2 _ rfl
    rw [cells3] at g2
    have g3 : DataW.trod enc Tryd.prog w 0 (fun _ => true) true n 22 (([c0, c1, c2, c3].drop 3).take (Tryd.prog.cellsOf 22)) = some y3 := hf 3 _ rfl
    rw [cells22] at g3
    obtain ⟨k, e0, rfl, w0⟩ := DataW.trod_int Tryd.underlying3 (g0 : DataW.trod enc Tryd.prog w 0 (fun _ => true) true n 3 [c0] = some y0)
    obtain ⟨t, e1, rfl, m1⟩ := DataW.trod_string Tryd.underlying9 (g1 : DataW.trod enc Tryd.prog w 0 (fun _ => true) true n 9 [c1] = some y1)
    obtain ⟨z, e2, rfl, w2⟩ := DataW.trod_int Tryd.underlying3 (g2 : DataW.trod enc Tryd.prog w 0 (fun _ => true) true n 3 [c2] = some y2)
    cases e0; cases e1; cases e2
    have hb0 : t.data.toList.length = t.size := Array.length_toList
    rcases DataW.trod_slice Tryd.underlying22 (g3 : DataW.trod enc Tryd.prog w 0 (fun _ => true) true n 22 [c3] = some y3) with ⟨e3, rfl⟩ | ⟨a, len, cap, elems, rest, m, rfl, e3, rfl, -, hlc, hcm, hel, hat, -, -⟩
    · cases e3
      refine ⟨.mk k t z [], none, 0, rfl, .none _ _, fun hb => .mk k t z [] (in_of w0) (in_of w2) ?_ (Nat.zero_le _) (fun x hx => by cases hx), fun d => ?_⟩
      · simp only [List.map, Rows.uptoBulk, Rows.uptoBulkAll] at hb
        omega
      · have : wt d (.mk k t z []) = t.size + 5 := by cases d <;> simp [wt]
        rw [this]
        simp only [List.map, Rows.uptoBulk, Rows.uptoBulkAll]
        omega
    · cases e3
      have hch : ∀ i, i < len → ∃ q : Rp × Option Addr × Nat, (∃ hi : i < elems.length, (w.cells? 0 (a.add (i * 4)) 4 = some [.int .i64 (Rp.kind q.1), .string (Rp.text q.1), .int .i64 (Rp.num q.1), .slice q.2.1 (Rp.list q.1).length q.2.2]) ∧ IsL (· < w.heap.size) w (Rp.list q.1) q.2.1 (Rp.list q.1).length q.2.2
          ∧ (Rows.uptoBulk (elems[i]).1 ≤ 1048576 → Ok q.1) ∧ (∀ d, wt d q.1 ≤ Rows.uptoBulk (elems[i]).1)) := by
        intro i hi
        have hi2 : i < elems.length := by omega
        have h1 := hat i hi
        rw [List.getElem?_eq_getElem hi2, cells24] at h1
        obtain ⟨cs', h2, h3⟩ := Option.bind_eq_some_iff.1 h1
        obtain ⟨r, a', cap', rfl, hL, hO, hW⟩ := ih m (by omega) cs' _ h3
        exact ⟨(r, a', cap'), hi2, h2, hL, hO, hW⟩
      obtain ⟨Q, hQ⟩ := Deep.choose_lt hch
      have hll : ((List.range len).map fun i => (Q i).1).length = len := by simp
      have hge : ∀ i (h : i < ((List.range len).map fun i => (Q i).1).length), ((List.range len).map fun i => (Q i).1)[i] = (Q i).1 := by intro i h; simp
      have hbulk : Rows.uptoBulk ((DataW.agg ([(DataW.lit (.int .i64 k), []), (DataW.lit (.string t.data.toList), []), (DataW.lit (.int .i64 z), []), (DataW.slice (elems.map (·.1)) (rest.map (·.1)), MemPlace.row a ((elems.length + rest.length) * Tryd.prog.cellsOf 24) ++ (elems ++ rest).flatMap (·.2))].map (·.1)) : DataW H)) = t.size + 5 + Rows.uptoBulkAll (elems.map (·.1)) + Rows.uptoBulkAll (rest.map (·.1)) := by
        simp only [List.map, Rows.uptoBulk, Rows.uptoBulkAll]
        omega
      have hsum : ∀ d, (((List.range len).map fun i => (Q i).1).map (wt d)).sum ≤ Rows.uptoBulkAll (elems.map (·.1)) := by
        intro d
        have := bulk_sum (elems.map (·.1)) (fun i => wt d (Q i).1) (fun i hi => by
          obtain ⟨hi2, -, -, -, hW⟩ := hQ i (by simpa [hel] using hi)
          simpa using hW d)
        rw [List.length_map, hel] at this
        rw [List.map_map]
        exact this
      refine ⟨.mk k t z ((List.range len).map fun i => (Q i).1), some a, cap, ?_, ?_, ?_, ?_⟩
      · show _ = [_, _, _, Value.slice (some a) ((List.range len).map fun i => (Q i).1).length cap]
        rw [hll]; rfl
      · show IsL _ w ((List.range len).map fun i => (Q i).1) (some a) ((List.range len).map fun i => (Q i).1).length cap
        rcases Nat.eq_zero_or_pos len with h0 | hpos
        · subst h0; exact .none _ _
        · obtain ⟨hi2, hc, -⟩ := hQ 0 hpos
          have hspot : a.spot = none ∧ a.block < w.heap.size := by
            have e : a.add (0 * 4) = a := by simp [Addr.add]
            rw [e] at hc
            unfold World.cells? at hc
            rw [if_pos (Nat.zero_le _)] at hc
            obtain ⟨x, -, hy⟩ := Lib.mapM_at hc 0 0 rfl
            have e2 : a.add 0 = a := by simp [Addr.add]
            rw [e2] at hy
            unfold World.cell? at hy
            rcases hh : w.heap[a.block]? with _ | o
            · rw [hh] at hy; cases hy
            · refine ⟨?_, (Array.getElem?_eq_some_iff.1 hh).1⟩
              rw [hh] at hy
              cases o with
              | cells c ty fz =>
                cases hs : a.spot with
                | none => rfl
                | some s => simp [hs] at hy
              | _ => cases hy
          obtain ⟨b, o, sp⟩ := a
          obtain ⟨rfl, hbl⟩ := hspot
          refine .some _ b o cap (fun i => (Q i).2.1) (fun i => (Rp.list (Q i).1).length) (fun i => (Q i).2.2) hbl ?_ ?_
          · intro i hi
            rw [hge i hi]
            obtain ⟨hi3, hc, -⟩ := hQ i (by simpa using hi)
            rw [add_at] at hc
            exact cells_four hc
          · intro i hi
            rw [hge i hi]
            obtain ⟨hi3, -, hL, -⟩ := hQ i (by simpa using hi)
            exact hL
      · intro hb
        rw [hbulk] at hb
        refine .mk k t z _ (in_of w0) (in_of w2) (by omega) ?_ ?_
        · rw [hll]
          have := bulk_len (elems.map (·.1))
          rw [List.length_map, hel] at this
          omega
        · intro x hx
          obtain ⟨i, hi, rfl⟩ := List.mem_map.1 hx
          obtain ⟨hi3, -, -, hO, -⟩ := hQ i (List.mem_range.1 hi)
          refine hO ?_
          have := bulk_at (elems.map (·.1)) i (by simpa using hi3)
          rw [List.getElem_map] at this
          omega
      · intro d
        rw [hbulk]
        cases d with
        | zero => show t.size + 5 ≤ _; omega
        | succ d =>
          have := hsum d
          show t.size + 5 + (((List.range len).map fun i => (Q i).1).map (wt d)).sum ≤ _
          omega
end Go.Proofs.YtdggpldmkeoeeaaDoor.Datum
