/- The document's own names: change. -/
import Derived.Test.YtilbffbmpgebmaaRefBase
namespace Go.Proofs.Ytilbffbmpgebmaa.RefChange
open Go.RowKit Go.Maps
open Go.Proofs.Ytilbffbmpgebmaa.DiskMath
open Go.Proofs.Ytilbffbmpgebmaa.RefMath
open Go.Proofs.Ytilbffbmpgebmaa.Base
open Go.Proofs.Ytilbffbmpgebmaa.Small
open Go.Proofs.Ytilbffbmpgebmaa.Append
open Go.Proofs.Ytilbffbmpgebmaa.Plan
open Go.Proofs.Ytilbffbmpgebmaa.RefNames
open Go.Proofs.Ytilbffbmpgebmaa.RefWith
open Go.Proofs.Ytilbffbmpgebmaa.RefBase
set_option linter.unusedVariables false

def rcV (c : Ch) : Value := .agg (rcCells c).toArray
theorem bd (w : World) (n : Nat) : Below w.heap.size w (w.drewN n) := ⟨rfl, rfl, rfl, Nat.le_refl _, fun _ _ => rfl⟩
theorem bd1 (w : World) : Below w.heap.size w w.drew := ⟨rfl, rfl, rfl, Nat.le_refl _, fun _ _ => rfl⟩
theorem box4 (w : World) (a b c d : Value) (t : TypeId) : Below w.heap.size w (w.alloc (.cells #[a, b, c, d] t)) ∧ ∀ W, Below (w.alloc (.cells #[a, b, c, d] t)).heap.size (w.alloc (.cells #[a, b, c, d] t)) W → W.cell? ⟨w.heap.size, 0, none⟩ = some a ∧ W.cell? ⟨w.heap.size, 1, none⟩ = some b ∧ W.cell? ⟨w.heap.size, 2, none⟩ = some c ∧ W.cell? ⟨w.heap.size, 3, none⟩ = some d := by
  refine ⟨(Below.refl _ w).alloc (Nat.le_refl _) _, fun W hW => ?_⟩
  have h0 : (w.alloc (.cells #[a, b, c, d] t)).heap[w.heap.size]? = some (.cells #[a, b, c, d] t (0, 0)) := heap_alloc_new w _
  have h1 := (hW.block w.heap.size (lt_of h0)).trans h0
  exact ⟨Lib.cell_of_heap h1 0, Lib.cell_of_heap h1 1, Lib.cell_of_heap h1 2, Lib.cell_of_heap h1 3⟩
set_option maxHeartbeats 2000000 in
set_option maxRecDepth 100000 in
theorem rchange_call (v : Value) (l : NL) (c : Ch) (w : World) (h : NmSl w v l) (hl : l.length < 1099511627776) (hr : Rise l) :
    Calls Try.prog 57 #[v, rcV c] w fun e w' => ∃ v', e = .returned v' ∧ ON w (c.on l) v' w' := by
  have HV := hid_of h
  obtain ⟨a, cc, rfl, h⟩ := h
  clear h
  have HR := hid_of hr
  cases c with
  | make k f =>
    obtain ⟨b0, bx⟩ := box4 w (.int .i64 1) (.string (mk k)) (.string (mk [])) (.int .i64 (f : Int)) 101
    obtain ⟨i0, i1, i2, i3⟩ := bx _ (Below.refl _ _)
    have H67 := hid_of (with_call _ l (mk k) f _ (nm_below HV.out b0) hl hr)
    have B0 := hid_of b0
    show Calls Try.prog 57 #[_, .agg #[.int .i64 1, .string (mk k), .string (mk []), .int .i64 (f : Int)]] w _
    clear b0 bx hr
    go_enter Try.func57, Try.ntmps57
    go_wp2_with fail
    refine H67.out.mono ?_
    rintro e w' ⟨v', rfl, hv⟩
    have HA := hid_of (on_low hv B0.out)
    clear hv
    go_wp2_with fail
    go_ret
    exact ⟨_, rfl, HA.out⟩
  | drop k =>
    obtain ⟨b0, bx⟩ := box4 w (.int .i64 3) (.string (mk k)) (.string (mk [])) (.int .i64 0) 101
    obtain ⟨i0, i1, i2, i3⟩ := bx _ (Below.refl _ _)
    have H68 := hid_of (without_call _ l (mk k) _ (nm_below HV.out b0) hl)
    have B0 := hid_of b0
    show Calls Try.prog 57 #[_, .agg #[.int .i64 3, .string (mk k), .string (mk []), .int .i64 0]] w _
    clear b0 bx hr
    go_enter Try.func57, Try.ntmps57
    go_wp2_with fail
    refine H68.out.mono ?_
    rintro e w' ⟨v', rfl, hv⟩
    have HA := hid_of (on_low hv B0.out)
    clear hv
    go_wp2_with fail
    go_ret
    exact ⟨_, rfl, HA.out⟩
  | move p q f =>
    obtain ⟨b0, bx⟩ := box4 w (.int .i64 2) (.string (mk p)) (.string (mk q)) (.int .i64 (f : Int)) 101
    obtain ⟨W0, hW0⟩ : ∃ W0, W0 = w.alloc (.cells #[.int .i64 2, .string (mk p), .string (mk q), .int .i64 (f : Int)] 101) := ⟨_, rfl⟩
    rw [← hW0] at b0 bx
    have BX := hid_of bx
    have H68 := hid_of (fun W (hW : Below W0.heap.size W0 W) => without_call _ l (mk p) W (nm_below HV.out (b0.trans (hW.mono b0.size))) hl)
    have H67 := hid_of (fun W v1 (hW : NmSl W v1 (wout l p)) => with_call v1 (wout l p) (mk q) f W hW (Nat.lt_of_le_of_lt (wout_len l p) hl) (rise_wout hr p))
    have B0 := hid_of b0
    show Calls Try.prog 57 #[_, .agg #[.int .i64 2, .string (mk p), .string (mk q), .int .i64 (f : Int)]] w _
    clear b0 bx hr
    go_enter Try.func57, Try.ntmps57
    go_wp2_with fail
    rw [← hW0]
    obtain ⟨i0, i1, i2, i3⟩ := BX.out W0 (Below.refl _ _)
    have HW0 := hid_of hW0
    clear hW0
    go_region_held3 (fun W => W.cell? ⟨w.heap.size, 1, none⟩ = some (.string (mk p)) ∧ W.cell? ⟨w.heap.size, 2, none⟩ = some (.string (mk q)) ∧ W.cell? ⟨w.heap.size, 3, none⟩ = some (.int .i64 (f : Int))) (first | exact (BX.out _ B2.out).2 | exact (BX.out _ B1.out).2 | exact ⟨i1, i2, i3⟩) (first
      | (go_at_call 68; refine Calls.mono (H68.out _ ?_) ?_; exact ⟨rfl, rfl, rfl, Nat.le_refl _, fun _ _ => rfl⟩; rintro e w1 ⟨v1, rfl, o1⟩; have O1 : Hid (ON W0 (wout l p) v1 w1) := on_low o1 (bd1 W0); have B1 := hid_of O1.out.2; clear o1)
      | (go_at_call 67; refine Calls.mono (H67.out _ _ (on_sl O1.out)) ?_; rintro e w2 ⟨v2, rfl, o2⟩; have B2 := hid_of (on_low o2 B1.out).2; have O2 : Hid (ON w (withL (wout l p) q f) v2 w2) := on_low (on_low o2 B1.out) B0.out; clear o2))
    all_goals
      go_wp2_with fail
      go_ret
      exact ⟨_, rfl, O2.out⟩
end Go.Proofs.Ytilbffbmpgebmaa.RefChange
