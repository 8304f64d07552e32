/- The document's own Check, and which requests are right. -/
import Derived.Test.YtfkilbhhpipjbaaGreatDoorWhole
import Derived.Test.YtfkilbhhpipjbaaGreatDoorLists
namespace Go.Proofs.YtfkilbhhpipjbaaGreatDoor.Right
open Go.RowKit
open Go.Proofs.YtfkilbhhpipjbaaGreatDoor.TextMath
open Go.Proofs.YtfkilbhhpipjbaaGreatDoor.ReqMath
open Go.Proofs.YtfkilbhhpipjbaaGreatDoor.Base
open Go.Proofs.YtfkilbhhpipjbaaGreatDoor.Small
open Go.Proofs.YtfkilbhhpipjbaaGreatDoor.Lists
open Go.Proofs.YtfkilbhhpipjbaaGreatDoor.BulkAny
open Go.Proofs.YtfkilbhhpipjbaaGreatDoor.Whole
set_option linter.unusedVariables false
set_option maxRecDepth 100000 in
theorem rcheck_ok (x y z : Int) (h : okB x y z = true) (w : World) :
    Calls Tryz.prog 13 #[.agg #[.int .i64 x, .int .i64 y, .int .i64 z]] w fun e w' => e = .returned (.int .i64 0) ∧ Below w.heap.size w w' := by
  obtain ⟨h1, h2, h3, h4, h5, h6⟩ := of_decide_eq_true h
  clear h
  go_enter Tryz.func13, Tryz.ntmps13
  go_wp2_with fail
  go_ret
  exact ⟨rfl, (Below.refl _ w).alloc (Nat.le_refl _) _⟩
set_option maxRecDepth 100000 in
set_option maxHeartbeats 1000000 in
theorem rcheck_no (x y z : Int) (h : okB x y z = false) (w : World) :
    Calls Tryz.prog 13 #[.agg #[.int .i64 x, .int .i64 y, .int .i64 z]] w fun e w' => e = .returned (.int .i64 40) ∧ Below w.heap.size w w' := by
  have h' := of_decide_eq_false h
  clear h
  by_cases a1 : 1 ≤ x
  · by_cases a2 : x ≤ 1048576
    · by_cases a3 : 1 ≤ y
      · by_cases a4 : y ≤ 65536
        · by_cases a5 : 32 ≤ z
          · have a6 : ¬ z ≤ 65536 := fun q => h' ⟨a1, a2, a3, a4, a5, q⟩
            clear h'
            go_enter Tryz.func13, Tryz.ntmps13
            go_wp2_with fail
            all_goals (go_ret; exact ⟨rfl, (Below.refl _ w).alloc (Nat.le_refl _) _⟩)
          · clear h'
            go_enter Tryz.func13, Tryz.ntmps13
            go_wp2_with fail
            all_goals (go_ret; exact ⟨rfl, (Below.refl _ w).alloc (Nat.le_refl _) _⟩)
        · clear h'
          go_enter Tryz.func13, Tryz.ntmps13
          go_wp2_with fail
          all_goals (go_ret; exact ⟨rfl, (Below.refl _ w).alloc (Nat.le_refl _) _⟩)
      · clear h'
        go_enter Tryz.func13, Tryz.ntmps13
        go_wp2_with fail
        all_goals (go_ret; exact ⟨rfl, (Below.refl _ w).alloc (Nat.le_refl _) _⟩)
    · clear h'
      go_enter Tryz.func13, Tryz.ntmps13
      go_wp2_with fail
      all_goals (go_ret; exact ⟨rfl, (Below.refl _ w).alloc (Nat.le_refl _) _⟩)
  · clear h'
    go_enter Tryz.func13, Tryz.ntmps13
    go_wp2_with fail
    all_goals (go_ret; exact ⟨rfl, (Below.refl _ w).alloc (Nat.le_refl _) _⟩)
def goodR (L : Lim) (r : List (List UInt8)) : Prop := r ≠ [] ∧ r.length ≤ L.args ∧ ∀ a, a ∈ r → a.length ≤ L.bulk
def goodRs (L : Lim) (rs : List (List (List UInt8))) : Prop := ∀ r, r ∈ rs → goodR L r
def RE (L : Lim) (x : List (List (List UInt8))) (w : World) (e : Ending) (w' : World) : Prop := ∃ b : Bool, e = .returned (.bool b) ∧ (b = true → goodRs L x) ∧ Below w.heap.size w w'
set_option maxRecDepth 100000 in
set_option maxHeartbeats 2000000 in
theorem right_call (L : Lim) (hL : Lok L) (v : Value) (x : List (List (List UInt8))) (w : World) (hv : AR w v x) (hx : x.length ≤ 1000000000) (hxx : ∀ r, r ∈ x → r.length ≤ 1000000000) (hxb : ∀ r, r ∈ x → ∀ a, a ∈ r → a.length ≤ 1000000000) :
    Calls Tryz.prog 29 #[limV L, v] w fun e w' => RE L x w e w' := by
  obtain ⟨a, c, rfl, hv⟩ := hv
  have HV := hid_of hv
  have HXX := hid_of (And.intro hxx hxb)
  clear hv hxx hxb
  unfold limV
  go_enter Tryz.func29, Tryz.ntmps29
  go_wp2_with fail
  have hz0 : (w.alloc (.cells #[.int .i64 L.bulk, .int .i64 L.args, .int .i64 L.line] 23)).heap[w.heap.size]? = some (.cells #[.int .i64 L.bulk, .int .i64 L.args, .int .i64 L.line] 23 (0, 0)) := heap_alloc_new w _
  have B1 := hid_of ((Below.refl _ w).alloc (Nat.le_refl _) (.cells #[.int .i64 L.bulk, .int .i64 L.args, .int .i64 L.line] 23))
  have HV1 : Hid (x = [] ∨ ∃ g o, a = some ⟨g, o, none⟩ ∧ ∀ (k : Nat) (h : k < x.length), ∃ u, (w.alloc (.cells #[.int .i64 L.bulk, .int .i64 L.args, .int .i64 L.line] 23)).cell? ⟨g, o + k, none⟩ = some u ∧ SR (w.alloc (.cells #[.int .i64 L.bulk, .int .i64 L.args, .int .i64 L.line] 23)) u (x[k]'h)) := by
    rcases HV.out with h | ⟨g, o, h1, h2⟩
    · exact Or.inl h
    · refine Or.inr ⟨g, o, h1, fun k h => ?_⟩
      obtain ⟨u, h3, h4⟩ := h2 k h
      exact ⟨u, cell_below B1.out _ _ h3, sr_below h4 B1.out⟩
  have cb : (w.alloc (.cells #[.int .i64 L.bulk, .int .i64 L.args, .int .i64 L.line] 23)).cell? ⟨w.heap.size, 0, none⟩ = some (.int .i64 L.bulk) := by rw [Lib.cell_of_heap hz0]; rfl
  have ca : (w.alloc (.cells #[.int .i64 L.bulk, .int .i64 L.args, .int .i64 L.line] 23)).cell? ⟨w.heap.size, 1, none⟩ = some (.int .i64 L.args) := by rw [Lib.cell_of_heap hz0]; rfl
  clear hz0 HV
  have HCB := hid_of cb
  have HCA := hid_of ca
  clear cb ca
  generalize w.alloc (.cells #[.int .i64 L.bulk, .int .i64 L.args, .int .i64 L.line] 23) = w1 at *
  have hLb : L.bulk ≤ 1048576 := hL.bulk.2
  have hLa : L.args ≤ 65536 := hL.args.2
  go_loopg [5, 6, 4] x.length (fun g s5 _ _ wx => ∃ k : Nat, k ≤ x.length ∧ x.length ≤ k + g ∧ s5 = .int .i64 k ∧ Hid (∀ j (h : j < x.length), j < k → goodR L (x[j]'h)) ∧ Hid (∃ n, wx = w1.drewN n))
  case atStart => exact ⟨0, by omega, by omega, rfl, fun j _ hj => absurd hj (by omega), ⟨0, rfl⟩⟩
  case round =>
    obtain ⟨k, hk, hg, rfl, HJ, HW⟩ := hrel
    by_cases hlt : k < x.length
    · obtain ⟨g', rfl⟩ : ∃ g', gk = g' + 1 := ⟨gk - 1, by omega⟩
      obtain ⟨gv, ov, rfl, hcv⟩ : ∃ g o, a = some ⟨g, o, none⟩ ∧ ∀ k (h : k < x.length), ∃ u, w1.cell? ⟨g, o + k, none⟩ = some u ∧ SR w1 u (x[k]'h) := by
        rcases HV1.out with h | h
        · subst h; exact absurd hlt (by simp)
        · exact h
      obtain ⟨X, c1w, s1w⟩ := hcv k hlt
      have hrl : (x[k]'hlt).length ≤ 1000000000 := HXX.out.1 _ (List.getElem_mem hlt)
      have HRB := hid_of (HXX.out.2 _ (List.getElem_mem hlt))
      obtain ⟨aa, cc, rfl, hss⟩ := s1w
      have c1 : wr.cell? ⟨gv, ov + k, none⟩ = some (.slice aa (x[k]'hlt).length cc) := by obtain ⟨n, hn⟩ := HW.out; rw [hn]; exact c1w
      have ewi : IntKind.i64.wrap ((k : Int) + 1) = (k : Int) + 1 := IntWalk.i64_in _ (by omega)
      have gi : ((k : Int)) < (x.length : Int) := by omega
      have cb : wr.cell? ⟨w.heap.size, 0, none⟩ = some (.int .i64 L.bulk) := by obtain ⟨n, hn⟩ := HW.out; rw [hn]; exact HCB.out
      have ca : wr.cell? ⟨w.heap.size, 1, none⟩ = some (.int .i64 L.args) := by obtain ⟨n, hn⟩ := HW.out; rw [hn]; exact HCA.out
      have HSS : Hid (x[k]'hlt = [] ∨ ∃ g o, aa = some ⟨g, o, none⟩ ∧ ∀ i (h : i < (x[k]'hlt).length), w1.cell? ⟨g, o + i, none⟩ = some (.string (mk ((x[k]'hlt)[i]'h)))) := hss
      have HXK : Hid (∀ j (h : j < x.length), j < k + 1 → (goodR L (x[k]'hlt) → goodR L (x[j]'h))) := by
        intro j h hj hgd
        by_cases hjk : j < k
        · exact HJ.out j h hjk
        · obtain rfl : j = k := by omega
          exact hgd
      have HC1 := hid_of c1w
      clear hcv hss c1w
      generalize x[k]'hlt = r at *
      have HBW : Hid (∀ m, Below w.heap.size w (wr.drewN m)) := by
        intro m
        obtain ⟨n, hn⟩ := HW.out
        rw [hn, dd]
        exact B1.out.trans ((Bulk.bdN w1 _).mono B1.out.size)
      by_cases h0 : r.length = 0
      · have e0 : (r.length : Int) = 0 := by omega
        go_wp2_with fail
        go_quiet (fail)
        go_wp2_with fail
        go_ret
        exact ⟨false, rfl, fun h => (by cases h), HBW.out _⟩
      · have e0 : ((r.length : Int) == 0) = false := by rw [beq_eq_false_iff_ne]; omega
        by_cases ha : L.args < r.length
        · have ea : (L.args : Int) < (r.length : Int) := by omega
          clear h0 ha
          go_wp2_with fail
          go_quiet (fail)
          go_wp2_with fail
          go_ret
          exact ⟨false, rfl, fun h => (by cases h), HBW.out _⟩
        · have ea : ¬ (L.args : Int) < (r.length : Int) := by omega
          have H0 := hid_of h0
          have HA := hid_of ha
          clear h0 ha
          go_wp2_with fail
          go_quiet (fail)
          go_wp2_with fail
          have HW0 : Hid (∃ n, wr.drewN nq = w1.drewN n) := by obtain ⟨n, hn⟩ := HW.out; exact ⟨n + nq, by rw [hn, dd]⟩
          rw [show decide (L.args < r.length) = false from decide_eq_false HA.out]
          go_loopg [6, 4] r.length (fun g s6 _ wx => ∃ i : Nat, i ≤ r.length ∧ r.length ≤ i + g ∧ s6 = .int .i64 i ∧ Hid (∀ j (h : j < r.length), j < i → (r[j]'h).length ≤ L.bulk) ∧ Hid (∃ n, wx = w1.drewN n))
          case atStart => exact ⟨0, by omega, by omega, rfl, fun j _ hj => absurd hj (by omega), HW0.out⟩
          case round =>
            obtain ⟨i, hi, hgi, rfl, HI, HWI⟩ := hrel
            have HBI : Hid (∀ m, Below w.heap.size w (wr.drewN m)) := by
              intro m
              obtain ⟨n, hn⟩ := HWI.out
              rw [hn, dd]
              exact B1.out.trans ((Bulk.bdN w1 _).mono B1.out.size)
            have HNI : Hid (∀ m, ∃ n, wr.drewN m = w1.drewN n) := by
              intro m
              obtain ⟨n, hn⟩ := HWI.out
              exact ⟨n + m, by rw [hn, dd]⟩
            clear c1 cb ca
            have d1 : wr.cell? ⟨gv, ov + k, none⟩ = some (.slice aa r.length cc) := by obtain ⟨n, hn⟩ := HWI.out; rw [hn]; exact HC1.out
            have cb : wr.cell? ⟨w.heap.size, 0, none⟩ = some (.int .i64 L.bulk) := by obtain ⟨n, hn⟩ := HWI.out; rw [hn]; exact HCB.out
            by_cases hil : i < r.length
            · obtain ⟨gi', rfl⟩ : ∃ gi', gk = gi' + 1 := ⟨gk - 1, by omega⟩
              obtain ⟨gs, os, rfl, hcs⟩ : ∃ g o, aa = some ⟨g, o, none⟩ ∧ ∀ i (h : i < r.length), w1.cell? ⟨g, o + i, none⟩ = some (.string (mk (r[i]'h))) := by
                rcases HSS.out with h | h
                · subst h; exact absurd hil (by simp)
                · exact h
              have d2 : wr.cell? ⟨gs, os + i, none⟩ = some (.string (mk (r[i]'hil))) := by obtain ⟨n, hn⟩ := HWI.out; rw [hn]; exact hcs i hil
              have hal : (mk (r[i]'hil)).size ≤ 1000000000 := by rw [mk_size]; exact HRB.out _ (List.getElem_mem hil)
              have HSZ : Hid ((mk (r[i]'hil)).size ≤ L.bulk → ∀ j (h : j < r.length), j < i + 1 → (r[j]'h).length ≤ L.bulk) := by
                intro hs j h hj
                by_cases hji : j < i
                · exact HI.out j h hji
                · obtain rfl : j = i := by omega
                  rw [mk_size] at hs
                  exact hs
              have ewk : IntKind.i64.wrap ((i : Int) + 1) = (i : Int) + 1 := IntWalk.i64_in _ (by omega)
              have gi2 : ((i : Int)) < (r.length : Int) := by omega
              clear hcs
              generalize mk (r[i]'hil) = A at *
              by_cases hb : L.bulk < A.size
              · have eb : (L.bulk : Int) < (A.size : Int) := by omega
                clear hb
                go_wp2_with fail
                go_quiet (fail)
                go_wp2_with fail
                go_ret
                exact ⟨false, rfl, fun h => (by cases h), HBI.out _⟩
              · have eb : ¬ (L.bulk : Int) < (A.size : Int) := by omega
                have HSZ2 := hid_of (HSZ.out (by omega))
                clear hb
                go_wp2_with fail
                go_quiet (fail)
                go_wp2_with fail
                go_roundg gi'
                case measure => omega
                case rel => exact ⟨i + 1, by omega, by omega, by rw [show ((i + 1 : Nat) : Int) = (i : Int) + 1 from by omega], HSZ2.out, HNI.out _⟩
            · have gi2 : ¬ ((i : Int)) < (r.length : Int) := by omega
              have HG : Hid (goodR L r) := by
                refine ⟨fun e => H0.out (by rw [e]; rfl), by have := HA.out; omega, fun q hq => ?_⟩
                obtain ⟨j, hj, rfl⟩ := List.getElem_of_mem hq
                exact HI.out j hj (by omega)
              go_wp2_with fail
              go_roundg g'
              case measure => omega
              case rel => exact ⟨k + 1, by omega, by omega, by rw [show ((k + 1 : Nat) : Int) = (k : Int) + 1 from by omega], (fun j h hj => HXK.out j h hj HG.out), HWI.out⟩
    · have gi : ¬ ((k : Int)) < (x.length : Int) := by omega
      go_wp2_with fail
      go_ret
      refine (show RE L x w (.returned (.bool true)) wr from ?_)
      refine ⟨true, rfl, fun _ r hr => ?_, ?_⟩
      · obtain ⟨j, hj, rfl⟩ := List.getElem_of_mem hr
        exact HJ.out j hj (by omega)
      · obtain ⟨n, hn⟩ := HW.out
        rw [hn]
        exact B1.out.trans ((Bulk.bdN w1 n).mono B1.out.size)
end Go.Proofs.YtfkilbhhpipjbaaGreatDoor.Right
