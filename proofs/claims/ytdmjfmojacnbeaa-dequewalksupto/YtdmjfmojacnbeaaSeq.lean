/- slices.All over a list of numbers, and a list's own All. -/
import Derived.Test.YtdmjfmojacnbeaaFree
import Derived.RangeFuncNested
import Derived.RangeFuncBound
import Derived.RangeFuncCalls
import Derived.RangeFuncLeaves
import Derived.Shelf.Abstract
import Derived.Shelf.RegionOpen
import Derived.WalkKit
import Derived.OwnWalkIn
import Derived.TacticsInMore
import Derived.LoopNIn
import Derived.LoopIn
import Derived.Stop.RegionWithIn
namespace Go.Proofs.Ytdmjfmojacnbeaa.Seq
open Go.RowKit Go.Shelf
open Go.Proofs.Ytdmjfmojacnbeaa.Base
open Go.Proofs.Ytdmjfmojacnbeaa.Free
set_option linter.unusedVariables false
set_option linter.unusedSimpArgs false
attribute [local go_sem] Oper.semAt_some
/-- a place and what stands there -/
abbrev Pl : Type := Int × Int
def encI (x : Pl) : Array Value := #[.int .i64 x.1, .int .i64 x.2]
/-- the blocks of which G speaks stand -/
def Kp (G : Nat → Prop) (W W' : World) : Prop := ∀ k, G k → W'.heap[k]? = W.heap[k]?
theorem kp_t {G : Nat → Prop} {A B C : World} (h : Kp G A B) (k : Kp G B C) : Kp G A C := fun i hi => (k i hi).trans (h i hi)
def xsOf (l : List El) (k : Nat) : List Pl := (List.range k).map fun (i : Nat) => ((i : Int), l.getD i 0)
theorem xs_len (l : List El) (k : Nat) : (xsOf l k).length = k := by simp [xsOf]
theorem xs_snoc (l : List El) (k : Nat) (h : k < l.length) : xsOf l (k + 1) = xsOf l k ++ [((k : Int), l[k]'h)] := by
  unfold xsOf
  rw [List.range_succ, List.map_append]
  simp [List.getD, List.getElem?_eq_getElem h]
theorem xs_get {l : List El} {k : Nat} {pre : List Pl} {x : Pl} (e : pre ++ [x] = xsOf l k) : x = ((pre.length : Int), l.getD pre.length 0) := by
  have h := congrArg (fun q => q[pre.length]?) e
  have hk : pre.length < k := by
    have := congrArg List.length e
    rw [xs_len] at this
    simp at this; omega
  unfold xsOf at h
  simp [List.getElem?_range hk] at h
  exact h
set_option maxRecDepth 100000 in
set_option maxHeartbeats 4000000 in
theorem iter_stops (n : Nat) (hn : 1 ≤ n) (G : Nat → Prop) (Bx : Nat) (v : Value) (l : List El) (w : World) (hl : l.length < 140737488355328) (hB : G Bx) (hG : ∀ k, G k → k < w.heap.size) (hc : w.cell? ⟨Bx, 0, none⟩ = some v) (hf : SL G w v l) :
    SeqStopsK Fence.wide n Try.prog 80 #[.pointer (some ⟨Bx, 0, none⟩)] encI (Kp G) (fun xs => xs = xsOf l l.length) (fun pre => ∃ k, k < l.length ∧ pre = xsOf l (k + 1)) l.length w := fun lp J Jx W hW hJ hJx hY h0 => by
  have hkW : Kp G w W := fun k hk => hW.block k (hG k hk)
  have hcW : W.cell? ⟨Bx, 0, none⟩ = some v := (hW.cell (p := ⟨Bx, 0, none⟩) (cell_lt hc)).trans hc
  have HF : Hid (∀ W', Kp G w W' → SL G W' v l) := fun W' k => hf.keep fun i _ hi => k i hi
  obtain ⟨a, c, rfl, hlc, _⟩ := id hf
  have HJ := hid_of hJ
  have HY := hid_of hY
  have HGs := hid_of hG
  clear hf hc hY hJ hJx hG
  refine callsIn_of_wp Try.func80 rfl trivial ?_ rfl
  simp only [Try.ntmps80, List.size_toArray, List.length_cons, List.length_nil, Nat.reduceAdd, Nat.reduceSub, Array.replicate_succ, Array.replicate_zero, List.push_toArray, List.append_toArray, List.nil_append, List.cons_append]
  gi_wp2_with fail
  gi_loopw [7] (fun si wr => ∃ k : Nat, k ≤ l.length ∧ si = .int .i64 (k : Int) ∧ Hid (J (xsOf l k) wr) ∧ Hid (Kp G w wr)) (fun si wr => l.length - (intOf si).toNat)
  case atStart => exact ⟨0, by omega, rfl, hid_of (by simpa [xsOf] using h0), hid_of hkW⟩
  case round =>
    obtain ⟨k, hk, rfl, HJk, HK⟩ := hrel
    by_cases hlt : k < l.length
    · obtain ⟨a', c', e', _, hr⟩ := HF.out wr HK.out
      cases e'
      obtain ⟨g, o, rfl, hcl⟩ : ∃ g o, a = some ⟨g, o, none⟩ ∧ wr.cell? ⟨g, o + k, none⟩ = some (.int .i64 (l[k]'hlt)) := by
        rcases hr with e | ⟨g, o, e, _, hr⟩
        · rw [e] at hlt; simp at hlt
        · exact ⟨g, o, e, hr k _ (List.getElem?_eq_getElem hlt)⟩
      have e2 : IntKind.i64.wrap ((k : Int) + 1) = (k : Int) + 1 := IntWalk.i64_in _ (by omega)
      have g2 : (k : Int) < (l.length : Int) := by omega
      obtain ⟨fn, tmps, assign, body, hy, hR⟩ := HY.out (xsOf l k) ((k : Int), l[k]'hlt) _ HJk.out (by rw [xs_len]; exact hlt)
      rw [← xs_snoc l k hlt] at hR
      unfold encI at hy
      dsimp only at hy
      have HR := hid_of hR
      clear hR hr
      generalize (l[k]'hlt) = X at *
      gi_wp2
      refine HR.out.mono ?_
      rintro e W3 (⟨rfl, hJ3, hk3⟩ | ⟨rfl, hJx3⟩)
      · have HJ3 := hid_of hJ3
        have HK3 := hid_of (kp_t HK.out hk3)
        clear hJ3 hk3
        gi_wp2
        go_roundw
        case rel => exact ⟨k + 1, by omega, by rw [show ((k + 1 : Nat) : Int) = (k : Int) + 1 from by omega], HJ3, HK3⟩
        case measure => simp [intOf]; omega
      · gi_wp2
        refine bodyPost_ret (results_none rfl _ _ _) rfl ?_
        exact ⟨⟨_, rfl⟩, .inr ⟨_, ⟨k, hlt, rfl⟩, hJx3⟩⟩
    · obtain rfl : k = l.length := by omega
      have gi : ¬ (l.length : Int) < (l.length : Int) := by omega
      gi_wp2
      go_end0
      exact ⟨⟨_, rfl⟩, .inl HJk.out⟩
def AllE (l : List El) (w : World) (e : Ending) (w' : World) : Prop := ∃ Bx v, e = .returned (.func (.func 80) #[] #[.pointer (some ⟨Bx, 0, none⟩)]) ∧ w'.heap[Bx]? = some (.cells #[v] 22 (0, 0)) ∧ w.heap.size ≤ Bx ∧ NR w.heap.size w' v l ∧ Below w.heap.size w w'
set_option maxRecDepth 100000 in
set_option maxHeartbeats 1000000 in
theorem turn_call (v : Value) (l : List El) (w : World) (B : Nat) (hB : B ≤ w.heap.size) (h : NR B w v l) : Calls Try.prog 73 #[v] w fun e w' => ∃ Bx, e = .returned (.func (.func 80) #[] #[.pointer (some ⟨Bx, 0, none⟩)]) ∧ w'.heap[Bx]? = some (.cells #[v] 22 (0, 0)) ∧ B ≤ Bx ∧ NR B w' v l ∧ Below w.heap.size w w' := by
  have bA : Below w.heap.size w (w.alloc (.cells #[v] 22)) := (Below.refl _ w).alloc (Nat.le_refl _) _
  have HX := hid_of (heap_alloc_new w (.cells #[v] 22))
  have HN := hid_of (h.below bA)
  have HBl := hid_of bA
  obtain ⟨a, c, rfl, _, _⟩ := id h.sl
  clear h bA
  go_enter Try.func73, Try.ntmps73
  go_wp2_with fail
  go_ret
  exact ⟨w.heap.size, rfl, HX.out, hB, HN.out, HBl.out⟩
set_option maxRecDepth 100000 in
set_option maxHeartbeats 1000000 in
theorem all_call {F : Nat → Prop} {b : Nat} {l : List El} {w : World} (h : DQ F b l w) (hb : l.length * 8 ≤ 140737488355328) : Calls Try.prog 46 #[ptr b] w fun e w' => AllE l w e w' := by
  have H1 := hid_of (list_call h hb)
  clear h
  go_enter Try.func46, Try.ntmps46
  go_wp2_with fail
  refine H1.out.mono ?_
  rintro e w1 ⟨v, rfl, n1, b1⟩
  have H2 := hid_of (turn_call v l w1 w.heap.size b1.size n1)
  have HB1 := hid_of b1
  obtain ⟨a, c, rfl, _, _⟩ := id n1.sl
  clear n1 b1
  go_wp2_with fail
  refine H2.out.mono ?_
  rintro e w2 ⟨Bx, rfl, hx, hlo, n2, b2⟩
  have HE := hid_of (And.intro hx (And.intro hlo (And.intro n2 (HB1.out.trans (b2.mono HB1.out.size)))))
  clear hx hlo n2 b2
  go_wp2_with fail
  go_ret
  exact ⟨Bx, _, rfl, HE.out⟩
end Go.Proofs.Ytdmjfmojacnbeaa.Seq
