/- slices.Sort of a new row of numbers; the places that are found, in their order. -/
import Derived.Test.YtdmjfmojacnbeaaFindA
import Derived.Test.YtdmjfmojacnbeaaShelf
import Derived.Sort.OwnSortedInts
namespace Go.Proofs.Ytdmjfmojacnbeaa.SortC
open Go.RowKit
open Go.Proofs.Ytdmjfmojacnbeaa.Base
open Go.Proofs.Ytdmjfmojacnbeaa.FindMath
open Go.Proofs.Ytdmjfmojacnbeaa.Find
set_option linter.unusedVariables false
set_option linter.unusedSimpArgs false
def srt (zs : List Int) : List Int := zs.mergeSort fun x y => decide (x ≤ y)
theorem sort_call {B : Nat} {w : World} {v : Value} {zs : List Int} (h : Base.NR B w v zs) (hz : zs ≠ []) (hb : zs.length < 4611686018427387904) :
    Calls Try.prog 61 #[v] w fun e w' => e = .returned (.tuple #[]) ∧ Base.SL (fun k => B ≤ k) w' v (srt zs) ∧ Fr (fun k => B ≤ k) w w' := by
  rcases h with ⟨rfl, rfl⟩ | ⟨g, c, xs, rfl, hB, hr, hx, hl, ht⟩
  · exact absurd rfl hz
  · have hH : Sort.Holds (Value.int .i64) w g 0 zs.toArray := holds_of_blockI (e := 3) hr (by
      rw [show ((Base.cells xs).toList).take zs.length = (xs.take zs.length).map V from by simp [Base.cells, List.map_take], ht])
    have hlen : (srt zs).length = zs.length := by unfold srt; rw [List.length_mergeSort]
    refine (Try.slices_Sort_int g 0 c zs w hH hr.lt hb).mono ?_
    rintro e w' ⟨rfl, n, os, rfl⟩
    refine ⟨rfl, ⟨some ⟨g, 0, none⟩, c, by rw [hlen], by rw [hlen]; exact hl, .inr ⟨g, 0, rfl, hB, fun j x hj => ?_⟩⟩, ?_⟩
    · have hjl : j < (srt zs).length := (List.getElem?_eq_some_iff.1 hj).1
      rw [Lib.cell_of_heap (heap_sortedI _ hr), Nat.zero_add]
      have := take_putCellsI (Base.cells xs) (srt zs) (by rw [hlen, Base.cells_size]; omega)
      have e2 := congrArg (fun q => q[j]?) this
      simp only [List.getElem?_take, if_pos hjl, List.getElem?_map, hj, Option.map_some] at e2
      rw [← Array.getElem?_toList]
      exact e2
    · have hg := grownBy_sortedI (w := w) (g := g) (n := n) (os := os) (srt zs).toArray
      exact ⟨hg.os, hg.tape, hg.output, hg.size, fun k hk hn => hg.block k hk fun e => hn (by cases e; exact hB)⟩
section
variable {α : Type} [DecidableEq α]
theorem up_hits (l : List α) (v : α) (m : Nat) : (hits l v false m).Pairwise (· < ·) := by
  unfold hits
  have : (List.range m).map (way l.length false) = List.range m := by
    rw [show way l.length false = id from rfl]; simp
  rw [this]
  exact List.Pairwise.filter _ List.pairwise_lt_range
theorem down_hits (l : List α) (v : α) (m : Nat) (h : m ≤ l.length) : (hits l v true m).Pairwise (· > ·) := by
  unfold hits
  refine List.Pairwise.filter _ ?_
  rw [List.pairwise_map]
  refine List.Pairwise.imp_of_mem ?_ List.pairwise_lt_range
  intro a b ha hb hab
  have := List.mem_range.1 ha
  have := List.mem_range.1 hb
  unfold way
  simp
  omega
theorem takeC_sub (c : Int) (xs : List Nat) : (takeC c xs).Sublist xs := by
  unfold takeC
  split
  · exact List.Sublist.refl _
  · exact List.take_sublist _ _
theorem up_find (l : List α) (v : α) (r : Nat) (c : Int) (m : Nat) : (findN l v r false c m).Pairwise (· < ·) := (up_hits l v m).sublist ((takeC_sub c _).trans (List.drop_sublist _ _))
theorem down_find (l : List α) (v : α) (r : Nat) (c : Int) (m : Nat) (h : m ≤ l.length) : (findN l v r true c m).Pairwise (· > ·) := (down_hits l v m h).sublist ((takeC_sub c _).trans (List.drop_sublist _ _))
theorem hits_at {l : List α} {v : α} {back : Bool} {m p : Nat} (h : p ∈ hits l v back m) : l[p]? = some v := by
  unfold hits at h
  simpa using (List.mem_filter.1 h).2
theorem find_at {l : List α} {v : α} {back : Bool} {r m p : Nat} {c : Int} (h : p ∈ findN l v r back c m) : l[p]? = some v :=
  hits_at (((takeC_sub c _).trans (List.drop_sublist _ _)).subset h)
theorem find_len (l : List α) (v : α) (r : Nat) (back : Bool) (c : Int) (m : Nat) : (findN l v r back c m).length ≤ m :=
  Nat.le_trans ((takeC_sub c _).trans (List.drop_sublist _ _)).length_le (hits_len l v back m)
end
theorem srt_up {ps : List Nat} (h : ps.Pairwise (· < ·)) : srt (ints ps) = ints ps := by
  unfold srt
  apply List.mergeSort_of_pairwise
  unfold ints
  rw [List.pairwise_map]
  exact h.imp fun {a b} hab => by simp; omega
theorem srt_down {ps : List Nat} (h : ps.Pairwise (· > ·)) : srt (ints ps) = ints ps.reverse := by
  have h1 : srt (ints ps.reverse) = ints ps.reverse := srt_up (List.pairwise_reverse.2 h)
  rw [← h1]
  have hp : (srt (ints ps)).Perm (srt (ints ps.reverse)) := by
    unfold srt
    refine (List.mergeSort_perm _ _).trans (List.Perm.trans ?_ (List.mergeSort_perm _ _).symm)
    unfold ints
    exact (List.reverse_perm ps).symm.map _
  have ho : ∀ zs : List Int, (srt zs).Pairwise (fun a b => a ≤ b) := fun zs => by
    have := List.pairwise_mergeSort (le := fun x y : Int => decide (x ≤ y)) (fun a b c h1 h2 => by simp at *; omega) (fun a b => by simp; omega) zs
    exact this.imp fun {a b} hab => by simpa using hab
  exact List.Perm.eq_of_pairwise (fun a b _ _ h1 h2 => by omega) (ho _) (ho _) hp
end Go.Proofs.Ytdmjfmojacnbeaa.SortC
