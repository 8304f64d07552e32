/- From what an argument reads as to rows of texts in memory, and how much they hold. -/
import Derived.Test.YtfkilbhhpipjbaaGreatDoorLists
import Derived.Test.YtfkilbhhpipjbaaGreatDoorRows
import Derived.Deep.Slices
namespace Go.Proofs.YtfkilbhhpipjbaaGreatDoor.Data
open Go.ChangeShapes Go.WideShapes Go.RowKit
open Go.Proofs.YtfkilbhhpipjbaaGreatDoor.ReqMath
open Go.Proofs.YtfkilbhhpipjbaaGreatDoor.Base
open Go.Proofs.YtfkilbhhpipjbaaGreatDoor.Lists
set_option linter.unusedVariables false
theorem cells3 : Tryz.prog.cellsOf 3 = 1 := by kernel_rfl
theorem cells9 : Tryz.prog.cellsOf 9 = 1 := by kernel_rfl
theorem cells33 : Tryz.prog.cellsOf 33 = 1 := by kernel_rfl
theorem cells23 : Tryz.prog.cellsOf 23 = 3 := by kernel_rfl
theorem bulk_sum {H : Type} : ∀ (l : List (DataW H)) (f : Nat → Nat), (∀ i (h : i < l.length), f i ≤ Rows.uptoBulk l[i]) → ((List.range l.length).map f).sum ≤ Rows.uptoBulkAll l
  | [], f, h => Nat.zero_le _
  | d :: l, f, h => by
    have ih := bulk_sum l (fun i => f (i + 1)) (fun i hi => h (i + 1) (Nat.succ_lt_succ hi))
    have h0 : f 0 ≤ Rows.uptoBulk d := h 0 (Nat.succ_pos _)
    rw [List.length_cons, List.range_succ_eq_map, List.map_cons, List.sum_cons, List.map_map, Rows.uptoBulkAll]
    have e : (List.range l.length).map (f ∘ Nat.succ) = (List.range l.length).map (fun i => f (i + 1)) := rfl
    rw [e]
    omega
theorem spot_none {w : World} {a : Addr} {v : Value} (h : w.cell? a = some v) : a.spot = none := by
  unfold World.cell? at h
  rcases hh : w.heap[a.block]? with _ | o
  · rw [hh] at h; cases h
  · rw [hh] at h
    cases o with
    | cells c ty fz =>
      cases hs : a.spot with
      | none => rfl
      | some s => simp [hs] at h
    | _ => cases h
theorem cells_one {w : World} {a : Addr} {cs : List Value} (h : w.cells? 0 a 1 = some cs) : ∃ v, cs = [v] ∧ w.cell? a = some v := by
  unfold World.cells? at h
  rw [if_pos (Nat.zero_le _)] at h
  simp only [List.range_succ, List.range_zero, List.nil_append, List.mapM_cons, List.mapM_nil] at h
  have e : a.add 0 = a := by simp [Addr.add]
  rw [e] at h
  cases hc : w.cell? a with
  | none => rw [hc] at h; simp at h
  | some v => rw [hc] at h; simp at h; exact ⟨v, h.symm, rfl⟩
theorem bulk_pos {H : Type} : ∀ d : DataW H, 1 ≤ Rows.uptoBulk d
  | .lit (.string b) => by simp [Rows.uptoBulk]
  | .lit (.bool _) => by simp [Rows.uptoBulk]
  | .lit (.int _ _) => by simp [Rows.uptoBulk]
  | .lit (.float _ _) => by simp [Rows.uptoBulk]
  | .lit .nil => by simp [Rows.uptoBulk]
  | .nil => by simp [Rows.uptoBulk]
  | .ptr d => by simp [Rows.uptoBulk]
  | .slice a b => by simp [Rows.uptoBulk]
  | .agg a => by simp [Rows.uptoBulk]
  | .iface _ d => by simp [Rows.uptoBulk]
  | .map _ => by simp [Rows.uptoBulk]
  | .held _ => by simp [Rows.uptoBulk]
theorem bulk_len {H : Type} : ∀ l : List (DataW H), l.length ≤ Rows.uptoBulkAll l
  | [] => Nat.zero_le _
  | d :: l => by
    have := bulk_len l
    have := bulk_pos d
    rw [Rows.uptoBulkAll, List.length_cons]; omega
/- a slice whose elements are one cell each -/
theorem open_row {H : Type} {enc : TypeId × Value → H} {w : World} {fuel : Nat} {t e : TypeId} {c : Value} {x : DataW H × List MemPlace} (ht : Tryz.prog.underlying t = some (.slice e)) (hc : Tryz.prog.cellsOf e = 1) (h : DataW.trod enc Tryz.prog w 0 (fun _ => true) true fuel t [c] = some x) :
    c = .slice none 0 0 ∨ ∃ (a : Addr) (cap : Nat) (elems : List (DataW H × List MemPlace)) (V : Nat → Value) (n : Nat), c = .slice (some a) elems.length cap ∧ n < fuel ∧ Rows.uptoBulkAll (elems.map (·.1)) + 1 ≤ Rows.uptoBulk x.1 ∧ ∀ i (hi : i < elems.length), w.cell? (a.add i) = some (V i) ∧ DataW.trod enc Tryz.prog w 0 (fun _ => true) true n e [V i] = some elems[i] := by
  rcases DataW.trod_slice ht h with ⟨e3, rfl⟩ | ⟨a, len, cap, elems, rest, m, rfl, e3, rfl, -, hlc, hcm, hel, hat, -, -⟩
  · cases e3; exact Or.inl rfl
  · cases e3
    right
    have hch : ∀ i, i < len → ∃ v : Value, ∃ hi : i < elems.length, w.cell? (a.add i) = some v ∧ DataW.trod enc Tryz.prog w 0 (fun _ => true) true m e [v] = some elems[i] := by
      intro i hi
      have hi2 : i < elems.length := by omega
      have h1 := hat i hi
      rw [List.getElem?_eq_getElem hi2, hc, Nat.mul_one] at h1
      obtain ⟨cs', h2, h3⟩ := Option.bind_eq_some_iff.1 h1
      obtain ⟨v, rfl, hv⟩ := cells_one h2
      exact ⟨v, hi2, hv, h3⟩
    obtain ⟨V, hV⟩ := Deep.choose_lt hch
    refine ⟨a, cap, elems, V, m, by rw [hel], by omega, ?_, fun i hi => ?_⟩
    · simp only [Rows.uptoBulk]; omega
    · obtain ⟨_, h1, h2⟩ := hV i (by omega)
      exact ⟨h1, h2⟩
def wt1 (l : List (List UInt8)) : Nat := (l.map (fun x => x.length + 1)).sum
theorem add_of {a : Addr} (h : a.spot = none) (k : Nat) : a.add k = ⟨a.block, a.off + k, none⟩ := by
  obtain ⟨b, o, s⟩ := a
  obtain rfl : s = none := h
  exact add_off b o k
theorem open_strs {H : Type} {enc : TypeId × Value → H} {w : World} {fuel : Nat} {c : Value} {x : DataW H × List MemPlace} (h : DataW.trod enc Tryz.prog w 0 (fun _ => true) true fuel 33 [c] = some x) :
    ∃ l : List (List UInt8), SR w c l ∧ wt1 l ≤ Rows.uptoBulk x.1 := by
  rcases open_row Tryz.underlying33 cells9 h with rfl | ⟨a, cap, elems, V, n, rfl, -, hb, hV⟩
  · exact ⟨[], ⟨none, 0, rfl, Or.inl rfl⟩, Nat.zero_le _⟩
  · have hch : ∀ i, i < elems.length → ∃ t : ByteArray, ∃ hi : i < elems.length, V i = .string t ∧ Rows.uptoBulk (elems[i]).1 = t.size + 1 := by
      intro i hi
      obtain ⟨h1, h2⟩ := hV i hi
      obtain ⟨t, e1, e2, _⟩ := DataW.trod_string Tryz.underlying9 h2
      refine ⟨t, hi, (List.cons.inj e1).1, ?_⟩
      rw [e2]
      simp only [Rows.uptoBulk]
      rw [show t.data.toList.length = t.size from Array.length_toList]
    obtain ⟨T, hT⟩ := Deep.choose_lt hch
    refine ⟨(List.range elems.length).map (fun i => bs (T i)), ⟨some a, cap, by simp, ?_⟩, ?_⟩
    · rcases Nat.eq_zero_or_pos elems.length with h0 | hp
      · left; rw [h0]; rfl
      · right
        have hs : a.spot = none := by
          have := spot_none (hV 0 hp).1
          simpa [Addr.add] using this
        refine ⟨a.block, a.off, ?_, fun k hk => ?_⟩
        · obtain ⟨b, o, s⟩ := a; obtain rfl : s = none := hs; rfl
        · have hk' : k < elems.length := by simpa using hk
          obtain ⟨_, h1, _⟩ := hT k hk'
          have h2 := (hV k hk').1
          rw [add_of hs, h1] at h2
          rw [h2]
          simp [mk_bs]
    · have := bulk_sum (elems.map (·.1)) (fun i => (bs (T i)).length + 1) (fun i hi => by
        obtain ⟨_, _, h2⟩ := hT i (by simpa using hi)
        rw [List.getElem_map, h2, len_bs]
        exact Nat.le_refl _)
      rw [List.length_map] at this
      unfold wt1
      rw [List.map_map]
      refine Nat.le_trans ?_ (Nat.le_trans this (by omega))
      exact Nat.le_refl _
def wt2 (l : List (List (List UInt8))) : Nat := (l.map (fun x => wt1 x)).sum
theorem open_reqs {H : Type} {enc : TypeId × Value → H} {w : World} {fuel : Nat} {c : Value} {x : DataW H × List MemPlace} (h : DataW.trod enc Tryz.prog w 0 (fun _ => true) true fuel 24 [c] = some x) :
    ∃ l : List (List (List UInt8)), AR w c l ∧ wt2 l ≤ Rows.uptoBulk x.1 ∧ l.length ≤ Rows.uptoBulk x.1 := by
  rcases open_row Tryz.underlying24 cells33 h with rfl | ⟨a, cap, elems, V, n, rfl, -, hb, hV⟩
  · exact ⟨[], ⟨none, 0, rfl, Or.inl rfl⟩, Nat.zero_le _, Nat.zero_le _⟩
  · have hch : ∀ i, i < elems.length → ∃ l : List (List UInt8), ∃ hi : i < elems.length, SR w (V i) l ∧ wt1 l ≤ Rows.uptoBulk (elems[i]).1 := by
      intro i hi
      obtain ⟨h1, h2⟩ := hV i hi
      obtain ⟨l, h3, h4⟩ := open_strs h2
      exact ⟨l, hi, h3, h4⟩
    obtain ⟨T, hT⟩ := Deep.choose_lt hch
    refine ⟨(List.range elems.length).map T, ⟨some a, cap, by simp, ?_⟩, ?_, ?_⟩
    · rcases Nat.eq_zero_or_pos elems.length with h0 | hp
      · left; rw [h0]; rfl
      · right
        have hs : a.spot = none := by
          have := spot_none (hV 0 hp).1
          simpa [Addr.add] using this
        refine ⟨a.block, a.off, ?_, fun k hk => ?_⟩
        · obtain ⟨b, o, s⟩ := a; obtain rfl : s = none := hs; rfl
        · have hk' : k < elems.length := by simpa using hk
          obtain ⟨_, h1, _⟩ := hT k hk'
          have h2 := (hV k hk').1
          rw [add_of hs] at h2
          refine ⟨V k, h2, ?_⟩
          simpa using h1
    · have := bulk_sum (elems.map (·.1)) (fun i => wt1 (T i)) (fun i hi => by
        obtain ⟨_, _, h2⟩ := hT i (by simpa using hi)
        rw [List.getElem_map]
        exact h2)
      rw [List.length_map] at this
      unfold wt2
      rw [List.map_map]
      refine Nat.le_trans ?_ (Nat.le_trans this (by omega))
      exact Nat.le_refl _
    · have := bulk_len (elems.map (·.1))
      rw [List.length_map] at this
      simp only [List.length_map, List.length_range]
      omega
end Go.Proofs.YtfkilbhhpipjbaaGreatDoor.Data
