/- All, and what it goes over. -/
import Derived.Test.YtolihcgpnoacaaaDoorNobody
import Derived.RangeFuncNested
import Derived.RangeFuncBound
import Derived.RangeFuncCalls
import Derived.RangeFuncLeaves
import Derived.Shelf.Abstract
import Derived.Shelf.RegionOpen
import Derived.WalkKit
import Derived.OwnWalkIn
import Derived.TacticsInMore
import Derived.LoopNIn
import Derived.LoopIn
import Derived.Stop.RegionWithIn
namespace Go.Proofs.YtolihcgpnoacaaaDoor.Iter
open Go.RowKit Go.Maps Go.Sort Go.Shelf
open Go.Proofs.YtolihcgpnoacaaaDoor.DictMath
open Go.Proofs.YtolihcgpnoacaaaDoor.Base
open Go.Proofs.YtolihcgpnoacaaaDoor.Small
open Go.Proofs.YtolihcgpnoacaaaDoor.Fields
set_option linter.unusedVariables false
attribute [local go_sem] Oper.semAt_some

abbrev Fx (l : FL) : Type := { p : Bs × Bs // p ∈ l }
def encF (l : FL) (x : Fx l) : Array Value := #[.string (mk x.1.1), .string (mk x.1.2)]
/- the blocks of which G speaks stand -/
def Kp (G : Nat → Prop) (W W' : World) : Prop := ∀ k, G k → W'.heap[k]? = W.heap[k]?
theorem kp_t {G : Nat → Prop} {A B C : World} (h : Kp G A B) (k : Kp G B C) : Kp G A C := fun i hi => (k i hi).trans (h i hi)
/- a slice of fields in a block of G -/
structure FG (G : Nat → Prop) (w : World) (v : Value) (l : FL) : Prop where
  fs : FS w v l
  own : ∀ g o n c, v = .slice (some ⟨g, o, none⟩) n c → 0 < l.length → G g
theorem at_of {G : Nat → Prop} {w : World} {v : Value} {l : FL} (h : FG G w v l) : ∃ a c, v = .slice a l.length c ∧ ∀ k (hk : k < l.length), ∃ g o, a = some ⟨g, o, none⟩ ∧ ∀ W, Kp G w W → W.cell? ⟨g, o + k * 2, none⟩ = some (.string (mk (l[k]'hk).1)) ∧ W.cell? ⟨g, o + k * 2 + 1, none⟩ = some (.string (mk (l[k]'hk).2)) := by
  obtain ⟨⟨a, c, rfl, hq⟩, ho⟩ := h
  refine ⟨a, c, rfl, fun k hk => ?_⟩
  rcases hq with rfl | ⟨g, o, rfl, hq⟩
  · simp at hk
  · refine ⟨g, o, rfl, fun W hW => ?_⟩
    have hb := hW g (ho g o _ _ rfl (by omega))
    have e : ∀ j x, w.cell? ⟨g, j, none⟩ = some x → W.cell? ⟨g, j, none⟩ = some x := fun j x hx => by
      unfold World.cell? at hx ⊢
      rw [hb]
      exact hx
    exact ⟨e _ _ (hq k hk).1, e _ _ (hq k hk).2⟩
def xsOf (l : FL) (k : Nat) : List (Fx l) := (l.attach).take k
theorem xs_map (l : FL) (k : Nat) : (xsOf l k).map (·.1) = l.take k := by
  unfold xsOf
  rw [List.map_take, List.attach_map_subtype_val]
theorem xs_len (l : FL) (k : Nat) (h : k ≤ l.length) : (xsOf l k).length = k := by unfold xsOf; simp; omega
theorem xs_snoc (l : FL) (k : Nat) (h : k < l.length) : xsOf l (k + 1) = xsOf l k ++ [⟨l[k]'h, List.getElem_mem h⟩] := by
  unfold xsOf
  rw [List.take_succ_eq_append_getElem (by simpa using h)]
  simp
set_option maxRecDepth 100000 in
set_option maxHeartbeats 4000000 in
theorem iter_stops (n : Nat) (hn : 1 ≤ n) (G : Nat → Prop) (Bx : Nat) (v : Value) (l : FL) (w : World) (hl : l.length < 140737488355328) (hB : G Bx) (hG : ∀ k, G k → k < w.heap.size) (hc : w.cell? ⟨Bx, 0, none⟩ = some v) (hf : FG G w v l) :
    SeqStopsK Fence.wide n Tryd.prog 36 #[.pointer (some ⟨Bx, 0, none⟩)] (encF l) (Kp G) (fun xs => xs = xsOf l l.length) (fun pre => ∃ k, k < l.length ∧ pre = xsOf l (k + 1)) l.length w := fun lp J Jx W hW hJ hJx hY h0 => by
  have hkW : Kp G w W := fun k hk => hW.block k (hG k hk)
  have hcW : W.cell? ⟨Bx, 0, none⟩ = some v := cell_on hW hc
  obtain ⟨a, c, rfl, hat⟩ := at_of hf
  have HA := hid_of hat
  have HJ := hid_of hJ
  have HY := hid_of hY
  clear hat hf hc hY hJ hJx
  refine callsIn_of_wp Tryd.func36 rfl trivial ?_ rfl
  simp only [Tryd.ntmps36, List.size_toArray, List.length_cons, List.length_nil, Nat.reduceAdd, Nat.reduceSub, Array.replicate_succ, Array.replicate_zero, List.push_toArray, List.append_toArray, List.nil_append, List.cons_append]
  gi_wp2_with fail
  gi_loopw [7] (fun si wr => ∃ k : Nat, k ≤ l.length ∧ si = .int .i64 (k : Int) ∧ Hid (J (xsOf l k) wr) ∧ Hid (Kp G w wr)) (fun si wr => l.length - (intOf si).toNat)
  case atStart => exact ⟨0, by omega, rfl, hid_of (by simpa [xsOf] using h0), hid_of hkW⟩
  case round =>
    obtain ⟨k, hk, rfl, HJk, HK⟩ := hrel
    by_cases hlt : k < l.length
    · obtain ⟨g, o, rfl, hcl⟩ := HA.out k hlt
      obtain ⟨c0, c1⟩ := hcl wr HK.out
      have e2 : IntKind.i64.wrap ((k : Int) + 1) = (k : Int) + 1 := IntWalk.i64_in _ (by omega)
      have g2 : (k : Int) < (l.length : Int) := by omega
      have hJa : J (xsOf l k) (wr.alloc (.cells #[.string (mk (l[k]'hlt).1), .string (mk (l[k]'hlt).2)] 52)) := HJ.out _ _ _ none HJk.out (World.grownBy_alloc wr _ none) (fun r e => by cases e)
      obtain ⟨fn, tmps, assign, body, hy, hR⟩ := HY.out (xsOf l k) ⟨l[k]'hlt, List.getElem_mem hlt⟩ _ hJa (by rw [xs_len l k hk]; exact hlt)
      rw [← xs_snoc l k hlt] at hR
      have KA : Hid (Kp G w (wr.alloc (.cells #[.string (mk (l[k]'hlt).1), .string (mk (l[k]'hlt).2)] 52))) := hid_of (kp_t HK.out (fun i hi => Below.heap_alloc wr _ i (by
        have h1 := HK.out i hi
        rw [Array.getElem?_eq_getElem (hG i hi)] at h1
        exact lt_of h1)))
      unfold encF at hy
      dsimp only at hy
      have HR := hid_of hR
      clear hR hJa hcl
      generalize mk (l[k]'hlt).1 = X at *
      generalize mk (l[k]'hlt).2 = Y at *
      gi_wp2
      refine HR.out.mono ?_
      rintro e W3 (⟨rfl, hJ3, hk3⟩ | ⟨rfl, hJx3⟩)
      · have HJ3 := hid_of hJ3
        have HK3 := hid_of (kp_t KA.out hk3)
        clear hJ3 hk3
        gi_wp2
        go_roundw
        case rel => exact ⟨k + 1, by omega, by rw [show ((k + 1 : Nat) : Int) = (k : Int) + 1 from by omega], HJ3, HK3⟩
        case measure => simp [intOf]; omega
      · gi_wp2
        refine bodyPost_ret (results_none rfl _ _ _) rfl ?_
        exact ⟨⟨_, rfl⟩, .inr ⟨_, ⟨k, hlt, rfl⟩, hJx3⟩⟩
    · obtain rfl : k = l.length := by omega
      have gi : ¬ (l.length : Int) < (l.length : Int) := by omega
      gi_wp2
      go_end0
      exact ⟨⟨_, rfl⟩, .inl HJk.out⟩
def AllE (l : FL) (w : World) (e : Ending) (w' : World) : Prop := ∃ B v, e = .returned (.func (.func 36) #[] #[.pointer (some ⟨B, 0, none⟩)]) ∧ w'.heap[B]? = some (.cells #[v] 22 (0, 0)) ∧ w.heap.size ≤ B ∧ w'.ownsRow w.heap.size 52 2 v l.length (l.flatMap fCells) ∧ Below w.heap.size w w'
set_option maxRecDepth 100000 in
set_option maxHeartbeats 1000000 in
theorem all_call (b m : Nat) (l : FL) (w : World) (h : DK b m l w) (hn : l.length < 8796093022208) : Calls Tryd.prog 24 #[ptr b] w fun e w' => AllE l w e w' := by
  have H1 := hid_of (all_fields b m l w h hn)
  clear h
  go_enter Tryd.func24, Tryd.ntmps24
  go_wp2_with fail
  refine H1.out.mono ?_
  rintro e w1 ⟨v, rfl, o1, b1⟩
  have bA : Below w1.heap.size w1 (w1.alloc (.cells #[v] 22)) := (Below.refl _ w1).alloc (Nat.le_refl _) _
  have HO := hid_of (row_below o1 bA)
  have HB := hid_of (Base.bel b1 bA (Nat.le_refl _))
  have HX := hid_of (heap_alloc_new w1 (.cells #[v] 22))
  have HS := hid_of b1.size
  obtain ⟨a, c, rfl⟩ := Nobody.fld_shape o1
  clear o1 b1 bA
  go_wp2_with fail
  go_ret
  exact ⟨w1.heap.size, _, rfl, HX.out, HS.out, HO.out, HB.out⟩
end Go.Proofs.YtolihcgpnoacaaaDoor.Iter
