/- RespShows: the walk of the law. -/
import Derived.Test.YtdggpldmkeoeeaaDoorRefShowAll
import Derived.Deep.RegionWith
namespace Go.Proofs.YtdggpldmkeoeeaaDoor.LawShows
open Go.RowKit
open Go.Proofs.YtdggpldmkeoeeaaDoor.TextMath
open Go.Proofs.YtdggpldmkeoeeaaDoor.RepMath
open Go.Proofs.YtdggpldmkeoeeaaDoor.Cut
open Go.Proofs.YtdggpldmkeoeeaaDoor.Rep
open Go.Proofs.YtdggpldmkeoeeaaDoor.Print (Tab)
open Go.Proofs.YtdggpldmkeoeeaaDoor.RefMay (box box_at box_below)
open Go.Proofs.YtdggpldmkeoeeaaDoor.Shown
open Go.Proofs.YtdggpldmkeoeeaaDoor.ShowAll
open Go.Proofs.YtdggpldmkeoeeaaDoor.RefShowAll
set_option linter.unusedVariables false

def AtBox (w : World) (k : Int) (t : ByteArray) (n : Int) (a : Option Addr) (len cap : Nat) (W : World) : Prop :=
  Below (w.heap.size + 1) (w.alloc (box k t n a len cap)) W
theorem AtBox.next {w : World} {k : Int} {t : ByteArray} {n : Int} {a : Option Addr} {len cap : Nat} {W W' : World} (h : AtBox w k t n a len cap W) (b : Below W.heap.size W W') : AtBox w k t n a len cap W' :=
  Below.trans h (b.mono (by have := Below.size h; simp at this; omega))
theorem AtBox.start (w : World) (k : Int) (t : ByteArray) (n : Int) (a : Option Addr) (len cap : Nat) : AtBox w k t n a len cap (w.alloc (.cells #[.int .i64 k, .string t, .int .i64 n, .slice a len cap] 24)) := Below.refl _ _
theorem AtBox.draw {w : World} {k : Int} {t : ByteArray} {n : Int} {a : Option Addr} {len cap : Nat} {W : World} (h : AtBox w k t n a len cap W) : AtBox w k t n a len cap W.drew := Below.drew h
theorem AtBox.done {w : World} {k : Int} {t : ByteArray} {n : Int} {a : Option Addr} {len cap : Nat} {W : World} (h : AtBox w k t n a len cap W) : Below w.heap.size w W := box_below h
theorem null_ok : Ok (.mk 5 ⟨#[]⟩ 0 []) := .mk 5 ⟨#[]⟩ 0 [] (by unfold InI; omega) (by unfold InI; omega) (by decide) (by decide) (fun x h => by cases h)
set_option maxRecDepth 100000 in
set_option maxHeartbeats 8000000 in
theorem walk (k : Int) (t : ByteArray) (n : Int) (l : List Rp) (a : Option Addr) (cap : Nat) (w : World) (hok : Ok (.mk k t n l)) (hI : IsL (· < w.heap.size) w l a l.length cap) (hT : Tab w) (h6 : 6 ≤ w.heap.size) (hw : wt 8 (.mk k t n l) ≤ 1048576) :
    Calls Tryd.prog 6 #[.agg #[.int .i64 k, .string t, .int .i64 n, .slice a l.length cap]] w fun e w' => e = .returned (.bool true) ∧ Below w.heap.size w w' := by
  obtain ⟨S, hS⟩ : ∃ S : ByteArray, S = ⟨(if may 8 (.mk k t n l) then shown 8 (.mk k t n l) else [63]).toArray⟩ := ⟨_, rfl⟩
  have H1 : Hid (∀ W, AtBox w k t n a l.length cap W → Calls Tryd.prog 23 #[.agg #[.int .i64 k, .string t, .int .i64 n, .slice a l.length cap]] W fun e w' => e = .returned (.string S) ∧ AtBox w k t n a l.length cap w' ∧ (w'.cell? ⟨w.heap.size, 0, none⟩ = some (.int .i64 k) ∧ w'.cell? ⟨w.heap.size, 1, none⟩ = some (.string t) ∧ w'.cell? ⟨w.heap.size, 2, none⟩ = some (.int .i64 n) ∧ w'.cell? ⟨w.heap.size, 3, none⟩ = some (.slice a l.length cap))) := by
    intro W hW
    have hb := box_below hW
    rw [hS]
    refine (show_top (.mk k t n l) a cap W hok (hI.go fun c hc => ⟨Nat.lt_of_lt_of_le hc hb.size, hb.block c hc⟩) (tab_stays hT hb h6) (Nat.le_trans h6 hb.size) hw).mono ?_
    rintro e w' ⟨rfl, b1⟩
    exact ⟨rfl, hW.next b1, box_at (hW.next b1)⟩
  have H2 : Hid (∀ W, AtBox w k t n a l.length cap W → Calls Tryd.prog 24 #[.agg #[.int .i64 k, .string t, .int .i64 n, .slice a l.length cap]] W fun e w' => e = .returned (.string S) ∧ AtBox w k t n a l.length cap w' ∧ (w'.cell? ⟨w.heap.size, 0, none⟩ = some (.int .i64 k) ∧ w'.cell? ⟨w.heap.size, 1, none⟩ = some (.string t) ∧ w'.cell? ⟨w.heap.size, 2, none⟩ = some (.int .i64 n) ∧ w'.cell? ⟨w.heap.size, 3, none⟩ = some (.slice a l.length cap))) := by
    intro W hW
    have hb := box_below hW
    rw [hS]
    refine (rshow_top (.mk k t n l) a cap W hok (hI.go fun c hc => ⟨Nat.lt_of_lt_of_le hc hb.size, hb.block c hc⟩) hw).mono ?_
    rintro e w' ⟨rfl, b1⟩
    exact ⟨rfl, hW.next b1, box_at (hW.next b1)⟩
  have H3 : Hid (∀ W, AtBox w k t n a l.length cap W → Calls Tryd.prog 23 #[.agg #[.int .i64 5, .string ⟨#[]⟩, .int .i64 0, .slice none 0 0]] W fun e w' => e = .returned (.string ⟨#[40, 110, 105, 108, 41]⟩) ∧ AtBox w k t n a l.length cap w' ∧ (w'.cell? ⟨w.heap.size, 0, none⟩ = some (.int .i64 k) ∧ w'.cell? ⟨w.heap.size, 1, none⟩ = some (.string t) ∧ w'.cell? ⟨w.heap.size, 2, none⟩ = some (.int .i64 n) ∧ w'.cell? ⟨w.heap.size, 3, none⟩ = some (.slice a l.length cap))) := by
    intro W hW
    have hb := box_below hW
    refine (show_top (.mk 5 ⟨#[]⟩ 0 []) none 0 W null_ok (.none _ _) (tab_stays hT hb h6) (Nat.le_trans h6 hb.size) (by decide)).mono ?_
    rintro e w' ⟨rfl, b1⟩
    exact ⟨rfl, hW.next b1, box_at (hW.next b1)⟩
  clear hS hok hI hT hw
  have hEq : (S.toList == S.toList) = true := by simp
  have A0 := hid_of (AtBox.start w k t n a l.length cap)
  go_enter Tryd.func6, Tryd.ntmps6
  go_wp2_with fail
  go_region_with (first
    | (go_at_call_of 23 t; refine (H1.out _ ?_).mono ?_; (first | exact A0.out.draw | assumption | (apply AtBox.draw; assumption)); rintro e w1 ⟨rfl, b1, c0, c1, c2, c3⟩; clear H1)
    | (go_at_call 24; refine (H2.out _ ?_).mono ?_; (first | exact A0.out.draw | assumption | (apply AtBox.draw; assumption)); rintro e w2 ⟨rfl, b2, d0, d1, d2, d3⟩; clear H2)
    | (go_at_call 23; refine (H3.out _ ?_).mono ?_; (first | exact A0.out.draw | assumption | (apply AtBox.draw; assumption)); rintro e w3 ⟨rfl, b3, e0, e1, e2, e3⟩))
  all_goals go_wp2_with fail
  all_goals go_ret
  all_goals exact ⟨rfl, AtBox.done (by assumption)⟩
end Go.Proofs.YtdggpldmkeoeeaaDoor.LawShows
