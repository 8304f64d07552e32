/- Lists of texts, and of requests: held against each other. -/
import Derived.Test.YtfkilbhhpipjbaaGreatDoorWhole
namespace Go.Proofs.YtfkilbhhpipjbaaGreatDoor.Lists
open Go.RowKit
open Go.Proofs.YtfkilbhhpipjbaaGreatDoor.ReqMath
open Go.Proofs.YtfkilbhhpipjbaaGreatDoor.Base
open Go.Proofs.YtfkilbhhpipjbaaGreatDoor.Small
open Go.Proofs.YtfkilbhhpipjbaaGreatDoor.Bulk
open Go.Proofs.YtfkilbhhpipjbaaGreatDoor.Bulk2
open Go.Proofs.YtfkilbhhpipjbaaGreatDoor.Typed
open Go.Proofs.YtfkilbhhpipjbaaGreatDoor.Whole
set_option linter.unusedVariables false

/- a slice of texts, to be read -/
def SR (w : World) (v : Value) (l : List (List UInt8)) : Prop := ∃ a c, v = .slice a l.length c ∧ (l = [] ∨ ∃ g o, a = some ⟨g, o, none⟩ ∧ ∀ k (h : k < l.length), w.cell? ⟨g, o + k, none⟩ = some (.string (mk (l[k]'h))))
theorem sr_ws {w : World} {v : Value} {ws : List (List UInt8)} (h : WS w v ws) : SR w v ws := by
  rcases ws_form h with ⟨h1, h2⟩ | ⟨g, cap, h1⟩
  · subst h2
    exact ⟨none, 0, h1, Or.inl rfl⟩
  · exact ⟨_, cap, h1, Or.inr ⟨g, 0, rfl, fun k hk => by rw [Nat.zero_add]; exact ws_cell h h1 k hk⟩⟩
def AR (w : World) (v : Value) (ls : List (List (List UInt8))) : Prop := ∃ a c, v = .slice a ls.length c ∧ (ls = [] ∨ ∃ g o, a = some ⟨g, o, none⟩ ∧ ∀ k (h : k < ls.length), ∃ u, w.cell? ⟨g, o + k, none⟩ = some u ∧ SR w u (ls[k]'h))
theorem ar_wa {w : World} {v : Value} {reqs : List (List (List UInt8))} (h : WA w v reqs) : AR w v reqs := by
  obtain ⟨us, h1, h2, h3⟩ := h
  rcases h1.2 with ⟨hv, hn⟩ | ⟨g, cap, cur, hv, _⟩
  · have : reqs = [] := List.length_eq_zero_iff.1 (by omega)
    subst this
    exact ⟨none, 0, hv, Or.inl rfl⟩
  · refine ⟨_, cap, by rw [← h2]; exact hv, Or.inr ⟨g, 0, rfl, fun k hk => ?_⟩⟩
    have hku : k < us.length := by omega
    refine ⟨us[k], ?_, sr_ws (h3 k us[k] (reqs[k]'hk) (List.getElem?_eq_getElem hku) (List.getElem?_eq_getElem hk))⟩
    have := World.ownsRow.cells h1 (g := g) (by rw [hv]; rfl) k us[k] (List.getElem?_eq_getElem hku)
    rw [add_off] at this
    exact this
theorem sr_cells {w w' : World} {v : Value} {l : List (List UInt8)} (h : SR w v l) (hc : ∀ a x, w.cell? a = some x → w'.cell? a = some x) : SR w' v l := by
  obtain ⟨a, c, h1, h2 | ⟨g, o, h2, h3⟩⟩ := h
  · exact ⟨a, c, h1, Or.inl h2⟩
  · exact ⟨a, c, h1, Or.inr ⟨g, o, h2, fun k hk => hc _ _ (h3 k hk)⟩⟩
theorem ar_cells {w w' : World} {v : Value} {l : List (List (List UInt8))} (h : AR w v l) (hc : ∀ a x, w.cell? a = some x → w'.cell? a = some x) : AR w' v l := by
  obtain ⟨a, c, h1, h2 | ⟨g, o, h2, h3⟩⟩ := h
  · exact ⟨a, c, h1, Or.inl h2⟩
  · refine ⟨a, c, h1, Or.inr ⟨g, o, h2, fun k hk => ?_⟩⟩
    obtain ⟨u, h4, h5⟩ := h3 k hk
    exact ⟨u, hc _ _ h4, sr_cells h5 hc⟩
theorem cell_below {w w' : World} (h : Below w.heap.size w w') (a : Addr) (x : Value) (hx : w.cell? a = some x) : w'.cell? a = some x := cell_later h hx
theorem sr_below {w w' : World} {v : Value} {l : List (List UInt8)} (h : SR w v l) (hb : Below w.heap.size w w') : SR w' v l := sr_cells h (fun a x hx => cell_below hb a x hx)
theorem ar_below {w w' : World} {v : Value} {l : List (List (List UInt8))} (h : AR w v l) (hb : Below w.heap.size w w') : AR w' v l := ar_cells h (fun a x hx => cell_below hb a x hx)
theorem sr_drewN {w : World} {v : Value} {l : List (List UInt8)} (h : SR w v l) (n : Nat) : SR (w.drewN n) v l := sr_cells h (fun a x hx => hx)
theorem take_eq_of {α : Type} {x y : List α} (h : x.length = y.length) : ∀ (k : Nat), k ≤ x.length → (∀ j, j < k → x[j]? = y[j]?) → x.take k = y.take k := by
  intro k hk hj
  apply List.ext_getElem?
  intro i
  rw [List.getElem?_take, List.getElem?_take]
  split
  · rename_i hlt; exact hj i hlt
  · rfl
theorem mk_ne {a b : List UInt8} : ((mk a).toList == (mk b).toList) = decide (a = b) := by
  rw [Lib.toList_data, Lib.toList_data, Bool.eq_iff_iff, beq_iff_eq, decide_eq_true_iff]
  exact Iff.rfl
theorem dd (w : World) (n m : Nat) : (w.drewN n).drewN m = w.drewN (n + m) := by
  unfold World.drewN
  simp [Nat.add_assoc]
set_option maxHeartbeats 2000000 in
set_option maxRecDepth 100000 in
theorem same_call (v u : Value) (x y : List (List UInt8)) (w : World) (hv : SR w v x) (hu : SR w u y) (hx : x.length ≤ 1000000000) :
    Calls Tryz.prog 17 #[v, u] w fun e w' => e = .returned (.bool (decide (x = y))) ∧ ∃ n, w' = w.drewN n := by
  obtain ⟨a, c, rfl, hv⟩ := hv
  obtain ⟨a', c', rfl, hu⟩ := hu
  by_cases hl : x.length = y.length
  · have HV := hid_of hv
    have HU := hid_of hu
    have HLE := hid_of hl
    rw [← hl]
    have g0 : ((x.length : Int) != (x.length : Int)) = false := by simp
    clear hv hu hl
    go_enter Tryz.func17, Tryz.ntmps17
    go_wp2_with fail
    go_loopg [5, 4] x.length (fun g s5 _ wx => ∃ k n : Nat, k ≤ x.length ∧ x.length ≤ k + g ∧ s5 = .int .i64 k ∧ wx = w.drewN n ∧ Hid (∀ j, j < k → x[j]? = y[j]?))
    case atStart => exact ⟨0, 0, by omega, by omega, rfl, rfl, fun j hj => absurd hj (by omega)⟩
    case round =>
      obtain ⟨k, n, hk, hg, rfl, rfl, HJ⟩ := hrel
      by_cases hlt : k < x.length
      · obtain ⟨g', rfl⟩ : ∃ g', gk = g' + 1 := ⟨gk - 1, by omega⟩
        have hlty : k < y.length := by have := HLE.out; omega
        obtain ⟨gv, ov, rfl, hcv⟩ : ∃ g o, a = some ⟨g, o, none⟩ ∧ ∀ k (h : k < x.length), w.cell? ⟨g, o + k, none⟩ = some (.string (mk (x[k]'h))) := by
          rcases HV.out with h | h
          · subst h; exact absurd hlt (by simp)
          · exact h
        obtain ⟨gu, ou, rfl, hcu⟩ : ∃ g o, a' = some ⟨g, o, none⟩ ∧ ∀ k (h : k < y.length), w.cell? ⟨g, o + k, none⟩ = some (.string (mk (y[k]'h))) := by
          rcases HU.out with h | h
          · subst h; exact absurd hlty (by simp)
          · exact h
        have c1 : w.cell? ⟨gv, ov + k, none⟩ = _ := hcv k hlt
        have c2 : w.cell? ⟨gu, ou + k, none⟩ = _ := hcu k hlty
        have ew : IntKind.i64.wrap ((k : Int) + 1) = (k : Int) + 1 := IntWalk.i64_in _ (by omega)
        have gi : ((k : Int)) < (x.length : Int) := by omega
        have hcmp := mk_ne (a := x[k]'hlt) (b := y[k]'hlty)
        by_cases he : x[k]'hlt = y[k]'hlty
        · rw [decide_eq_true he] at hcmp
          have HJ2 : Hid (∀ j, j < k + 1 → x[j]? = y[j]?) := by
            intro j hj
            by_cases hjk : j < k
            · exact HJ.out j hjk
            · obtain rfl : j = k := by omega
              rw [List.getElem?_eq_getElem hlt, List.getElem?_eq_getElem hlty, he]
          generalize mk (x[k]'hlt) = X at c1 hcmp
          generalize mk (y[k]'hlty) = Y at c2 hcmp
          clear he hcv hcu
          go_wp2_with fail
          go_quiet (fail)
          go_wp2_with fail
          go_roundg g'
          case measure => omega
          case rel => exact ⟨k + 1, n + nq, by omega, by omega, by rw [show ((k + 1 : Nat) : Int) = (k : Int) + 1 from by omega], rfl, HJ2.out⟩
        · rw [decide_eq_false he] at hcmp
          have HNE : Hid (decide (x = y) = false) := by
            refine decide_eq_false (fun e => he ?_)
            subst e; rfl
          generalize mk (x[k]'hlt) = X at c1 hcmp
          generalize mk (y[k]'hlty) = Y at c2 hcmp
          clear he hcv hcu
          go_wp2_with fail
          go_quiet (fail)
          go_wp2_with fail
          go_ret
          exact ⟨by rw [HNE.out]; rfl, n + nq, dd _ _ _⟩
      · have HEQ : Hid (decide (x = y) = true) := by
          refine decide_eq_true ?_
          have h1 := take_eq_of HLE.out x.length (Nat.le_refl _) (fun j hj => HJ.out j (by omega))
          rw [List.take_length, HLE.out, List.take_length] at h1
          exact h1
        have gi : ¬ ((k : Int)) < (x.length : Int) := by omega
        go_wp2_with fail
        go_ret
        exact ⟨by rw [HEQ.out]; rfl, _, rfl⟩
  · have HNE : Hid (decide (x = y) = false) := decide_eq_false (fun e => hl (by rw [e]))
    have g0 : ((x.length : Int) != (y.length : Int)) = true := by rw [bne_iff_ne]; omega
    have g0' : ((x.length : Int) == (y.length : Int)) = false := by rw [beq_eq_false_iff_ne]; omega
    clear hv hu hl
    go_enter Tryz.func17, Tryz.ntmps17
    go_wp2_with fail
    go_ret
    exact ⟨by rw [HNE.out]; rfl, 0, rfl⟩
set_option maxHeartbeats 2000000 in
set_option maxRecDepth 100000 in
theorem all_call (v u : Value) (x y : List (List (List UInt8))) (w : World) (hv : AR w v x) (hu : AR w u y) (hx : x.length ≤ 1000000000) (hxx : ∀ r, r ∈ x → r.length ≤ 1000000000) :
    Calls Tryz.prog 11 #[v, u] w fun e w' => e = .returned (.bool (decide (x = y))) ∧ ∃ n, w' = w.drewN n := by
  obtain ⟨a, c, rfl, hv⟩ := hv
  obtain ⟨a', c', rfl, hu⟩ := hu
  by_cases hl : x.length = y.length
  · have HV := hid_of hv
    have HU := hid_of hu
    have HLE := hid_of hl
    have HXX := hid_of hxx
    rw [← hl]
    clear hv hu hl hxx
    go_enter Tryz.func11, Tryz.ntmps11
    go_wp2_with fail
    go_loopg [5, 4] x.length (fun g s5 _ wx => ∃ k : Nat, k ≤ x.length ∧ x.length ≤ k + g ∧ s5 = .int .i64 k ∧ Hid (∀ j, j < k → x[j]? = y[j]?) ∧ Hid (∃ n, wx = w.drewN n))
    case atStart => exact ⟨0, by omega, by omega, rfl, fun j hj => absurd hj (by omega), ⟨0, rfl⟩⟩
    case round =>
      obtain ⟨k, hk, hg, rfl, HJ, HW⟩ := hrel
      by_cases hlt : k < x.length
      · obtain ⟨g', rfl⟩ : ∃ g', gk = g' + 1 := ⟨gk - 1, by omega⟩
        have hlty : k < y.length := by have := HLE.out; omega
        obtain ⟨gv, ov, rfl, hcv⟩ : ∃ g o, a = some ⟨g, o, none⟩ ∧ ∀ k (h : k < x.length), ∃ u, w.cell? ⟨g, o + k, none⟩ = some u ∧ SR w u (x[k]'h) := by
          rcases HV.out with h | h
          · subst h; exact absurd hlt (by simp)
          · exact h
        obtain ⟨gu, ou, rfl, hcu⟩ : ∃ g o, a' = some ⟨g, o, none⟩ ∧ ∀ k (h : k < y.length), ∃ u, w.cell? ⟨g, o + k, none⟩ = some u ∧ SR w u (y[k]'h) := by
          rcases HU.out with h | h
          · subst h; exact absurd hlty (by simp)
          · exact h
        obtain ⟨X, c1w, s1w⟩ := hcv k hlt
        obtain ⟨Y, c2w, s2w⟩ := hcu k hlty
        have c1 : wr.cell? ⟨gv, ov + k, none⟩ = some X := by obtain ⟨n, hn⟩ := HW.out; rw [hn]; exact c1w
        have c2 : wr.cell? ⟨gu, ou + k, none⟩ = some Y := by obtain ⟨n, hn⟩ := HW.out; rw [hn]; exact c2w
        have s1 : SR wr X (x[k]'hlt) := by obtain ⟨n, hn⟩ := HW.out; rw [hn]; exact sr_drewN s1w n
        have s2 : SR wr Y (y[k]'hlty) := by obtain ⟨n, hn⟩ := HW.out; rw [hn]; exact sr_drewN s2w n
        have ew : IntKind.i64.wrap ((k : Int) + 1) = (k : Int) + 1 := IntWalk.i64_in _ (by omega)
        have gi : ((k : Int)) < (x.length : Int) := by omega
        have HS := hid_of (fun m => (same_call X Y (x[k]'hlt) (y[k]'hlty) (wr.drewN m) (sr_drewN s1 m) (sr_drewN s2 m) (HXX.out _ (List.getElem_mem hlt))).mono fun e w' h => (show e = .returned (.bool (decide (x[k]'hlt = y[k]'hlty))) ∧ ∃ q, w' = wr.drewN q from ⟨h.1, by obtain ⟨q, hq⟩ := h.2; exact ⟨m + q, hq.trans (dd _ _ _)⟩⟩))
        have hnot : ∀ (x : Bool) (w : World), (Op.unary .not (.bool x)).run Tryz.prog w = .ok (.bool (!x)) w := fun _ _ => rfl
        by_cases he : x[k]'hlt = y[k]'hlty
        · rw [decide_eq_true he] at HS
          have HJ2 : Hid (∀ j, j < k + 1 → x[j]? = y[j]?) := by
            intro j hj
            by_cases hjk : j < k
            · exact HJ.out j hjk
            · obtain rfl : j = k := by omega
              rw [List.getElem?_eq_getElem hlt, List.getElem?_eq_getElem hlty, he]
          clear he hcv hcu s1 s2 c1w c2w s1w s2w
          go_wp2_with fail
          go_quiet (first | exact (HS.out _).mono fun _ _ h => h)
          go_wp2_with fail
          go_roundg g'
          case measure => omega
          case rel => exact ⟨k + 1, by omega, by omega, by rw [show ((k + 1 : Nat) : Int) = (k : Int) + 1 from by omega], HJ2.out, by obtain ⟨n, hn⟩ := HW.out; exact ⟨n + nq, by rw [hn, dd]⟩⟩
        · rw [decide_eq_false he] at HS
          have HNE : Hid (decide (x = y) = false) := by
            refine decide_eq_false (fun e => he ?_)
            subst e; rfl
          clear he hcv hcu s1 s2 c1w c2w s1w s2w
          go_wp2_with fail
          go_quiet (first | exact (HS.out _).mono fun _ _ h => h)
          go_wp2_with fail
          go_ret
          exact ⟨by rw [HNE.out]; rfl, by obtain ⟨n, hn⟩ := HW.out; exact ⟨n + nq, by rw [hn, dd]⟩⟩
      · have HEQ : Hid (decide (x = y) = true) := by
          refine decide_eq_true ?_
          have h1 := take_eq_of HLE.out x.length (Nat.le_refl _) (fun j hj => HJ.out j (by omega))
          rw [List.take_length, HLE.out, List.take_length] at h1
          exact h1
        have gi : ¬ ((k : Int)) < (x.length : Int) := by omega
        go_wp2_with fail
        go_ret
        exact ⟨by rw [HEQ.out]; rfl, HW.out⟩
  · have HNE : Hid (decide (x = y) = false) := decide_eq_false (fun e => hl (by rw [e]))
    have g0' : ((x.length : Int) == (y.length : Int)) = false := by rw [beq_eq_false_iff_ne]; omega
    clear hv hu hl hxx
    go_enter Tryz.func11, Tryz.ntmps11
    go_wp2_with fail
    go_ret
    exact ⟨by rw [HNE.out]; rfl, 0, rfl⟩
end Go.Proofs.YtfkilbhhpipjbaaGreatDoor.Lists
