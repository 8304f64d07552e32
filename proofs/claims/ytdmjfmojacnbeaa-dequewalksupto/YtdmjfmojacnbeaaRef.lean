/- The document's PushFront, Pop, place, At, Put, Piece. -/
import Derived.Test.YtdmjfmojacnbeaaSame
import Derived.Test.YtdmjfmojacnbeaaPiece
import Derived.Deep.RegionHeld3
namespace Go.Proofs.Ytdmjfmojacnbeaa.Ref
open Go.RowKit
open Go.Proofs.Ytdmjfmojacnbeaa.Base
open Go.Proofs.Ytdmjfmojacnbeaa.Held
open Go.Proofs.Ytdmjfmojacnbeaa.Lay
open Go.Proofs.Ytdmjfmojacnbeaa.Free
open Go.Proofs.Ytdmjfmojacnbeaa.Keep
open Go.Proofs.Ytdmjfmojacnbeaa.Place
open Go.Proofs.Ytdmjfmojacnbeaa.Piece
open Go.Proofs.Ytdmjfmojacnbeaa.App
open Go.Proofs.Ytdmjfmojacnbeaa.Same
set_option linter.unusedVariables false
set_option linter.unusedSimpArgs false
set_option maxRecDepth 100000 in
theorem rpush_call {G G' : Nat → Prop} {w : World} {u v : Value} {l m : List El} (h : SL G w u l) (h' : SL G' w v m) (hb : (l.length + m.length) * 8 ≤ 140737488355328) :
    Calls Try.prog 18 #[u, v] w fun e w' => ∃ r, e = .returned r ∧ NR w.heap.size w' r (m.reverse ++ l) ∧ Below w.heap.size w w' := by
  have HT := hid_of (turned_call h' (by omega))
  have H := hid_of h
  have hbb := hid_of hb
  clear h h' hb
  go_enter Try.func18, Try.ntmps18
  go_wp2_with fail
  refine HT.out.mono ?_
  rintro e w1 ⟨v1, rfl, n1, k1⟩
  have HJ := hid_of (joined_call n1.sl (H.out.below k1) (by rw [List.length_reverse]; have := hbb.out; omega))
  have K1 := hid_of k1
  clear n1 k1
  go_wp2_with fail
  refine HJ.out.mono ?_
  rintro e w2 ⟨v2, rfl, n2, k2⟩
  have K2 := hid_of (And.intro n2 k2)
  clear n2 k2
  go_wp2_with fail
  go_ret
  exact ⟨v2, rfl, K2.out.1.mono K1.out.size, K1.out.trans (K2.out.2.mono K1.out.size)⟩
/-- a part of a list that came in -/
theorem SL.cut {G : Nat → Prop} {w : World} {a : Option Addr} {n c : Nat} {l : List El} (h : Rd G w a l) (hc : l.length ≤ c) (k : Nat) (hk : k ≤ l.length) (hn : n = l.length) : SL G w (.slice a k c) (l.take k) ∧ SL G w (.slice (ca a c k) (n - k) (c - k)) (l.drop k) := by
  refine ⟨⟨a, c, by rw [List.length_take, Nat.min_eq_left hk], by rw [List.length_take]; omega, h.take k⟩, ⟨_, _, by rw [List.length_drop, hn], by rw [List.length_drop]; omega, h.drop hc k⟩⟩
set_option maxHeartbeats 4000000 in
set_option maxRecDepth 100000 in
theorem rpop_call {G : Nat → Prop} {w : World} {u : Value} {l : List El} (h : SL G w u l) (x : Int) (hb : l.length * 8 ≤ 140737488355328) :
    Calls Try.prog 21 #[u, .int .i64 x] w fun e w' => ∃ r s, e = .returned (.tuple #[r, s]) ∧ NR w.heap.size w' r (l.take (clamp x l.length)) ∧ NR w.heap.size w' s (l.drop (clamp x l.length)) ∧ Below w.heap.size w w' := by
  obtain ⟨a, c, rfl, hc, hr⟩ := h
  have hk := clamp_le x l.length
  obtain ⟨k, HK⟩ : ∃ k, Hid (k = clamp x l.length) := ⟨_, hid_of rfl⟩
  rw [← HK.out] at hk ⊢
  have HJ1 := hid_of (fun (W : World) (b : Below w.heap.size w W) => joined_call (SL.cut (hr.keep (w' := W) fun j hj _ => b.block j hj) hc k hk rfl).1 (SL.nil (fun _ => True) W) (by rw [List.length_take]; simp; omega))
  have HJ2 := hid_of (fun (W : World) (b : Below w.heap.size w W) => joined_call (SL.cut (n := l.length) (hr.keep (w' := W) fun j hj _ => b.block j hj) hc k hk rfl).2 (SL.nil (fun _ => True) W) (by rw [List.length_drop]; simp; omega))
  rw [List.append_nil] at HJ1 HJ2
  obtain ⟨L, HL⟩ : ∃ L, Hid (L = l.length) := ⟨_, hid_of rfl⟩
  rw [← HL.out] at hk hc HJ2 ⊢
  have hcs : (x < 0 ∧ k = 0) ∨ (¬ x < 0 ∧ (L : Int) < x ∧ k = L) ∨ (¬ x < 0 ∧ ¬ (L : Int) < x ∧ x = (k : Int)) := by
    have := HK.out
    rw [← HL.out] at this
    unfold clamp at this
    split at this
    · exact .inl ⟨by omega, this⟩
    · split at this
      · exact .inr (.inl ⟨by omega, by omega, this⟩)
      · exact .inr (.inr ⟨by omega, by omega, by omega⟩)
  clear hb hr
  have d1 : Hid (Below w.heap.size w w.drew) := bel_drewN w 1
  rcases hcs with ⟨g1, g2⟩ | ⟨g1, g2, g3⟩ | ⟨g1, g2, rfl⟩
  · have hcut1 := cut_hi a L c k 0 (by omega) (by omega)
    have hcut2 := cut_lo a L c k 0 (by omega) hk
    clear g2 HK
    go_enter Try.func21, Try.ntmps21
    go_wp2_with fail
    go_region_with (first
      | (go_at_call_of 20 (Value.slice a k c); refine (HJ1.out _ (by first | exact d1.out | exact B2.out)).mono ?_; rintro e w1 ⟨v1, rfl, n1, k1⟩; have N1 := hid_of n1; have B1 : Hid (Below w.heap.size w w1) := (by first | exact B2.out.trans (k1.mono B2.out.size) | exact d1.out.trans k1); have K1 := hid_of k1; clear n1 k1 HJ1)
      | (go_at_call 20; refine (HJ2.out _ (by first | exact B1.out | exact d1.out)).mono ?_; rintro e w2 ⟨v2, rfl, n2, k2⟩; have N2 := hid_of n2; have B2 : Hid (Below w.heap.size w w2) := (by first | exact B1.out.trans (k2.mono B1.out.size) | exact d1.out.trans k2); have K2 := hid_of k2; clear n2 k2 HJ2))
    all_goals
      go_wp2_with fail
      go_ret2
      first
        | exact ⟨v1, v2, rfl, N1.out.below K2.out, N2.out.mono B1.out.size, B2.out⟩
        | exact ⟨v1, v2, rfl, N1.out.mono B2.out.size, N2.out.below K1.out, B1.out⟩
  · have hcut1 := cut_hi a L c k (L : Int) (by omega) (by omega)
    have hcut2 := cut_lo a L c k (L : Int) (by omega) hk
    clear g3 HK
    go_enter Try.func21, Try.ntmps21
    go_wp2_with fail
    go_region_with (first
      | (go_at_call_of 20 (Value.slice a k c); refine (HJ1.out _ (by first | exact d1.out | exact B2.out)).mono ?_; rintro e w1 ⟨v1, rfl, n1, k1⟩; have N1 := hid_of n1; have B1 : Hid (Below w.heap.size w w1) := (by first | exact B2.out.trans (k1.mono B2.out.size) | exact d1.out.trans k1); have K1 := hid_of k1; clear n1 k1 HJ1)
      | (go_at_call 20; refine (HJ2.out _ (by first | exact B1.out | exact d1.out)).mono ?_; rintro e w2 ⟨v2, rfl, n2, k2⟩; have N2 := hid_of n2; have B2 : Hid (Below w.heap.size w w2) := (by first | exact B1.out.trans (k2.mono B1.out.size) | exact d1.out.trans k2); have K2 := hid_of k2; clear n2 k2 HJ2))
    all_goals
      go_wp2_with fail
      go_ret2
      first
        | exact ⟨v1, v2, rfl, N1.out.below K2.out, N2.out.mono B1.out.size, B2.out⟩
        | exact ⟨v1, v2, rfl, N1.out.mono B2.out.size, N2.out.below K1.out, B1.out⟩
  · have hcut1 := cut_hi a L c k (k : Int) rfl (by omega)
    have hcut2 := cut_lo a L c k (k : Int) rfl hk
    clear HK
    go_enter Try.func21, Try.ntmps21
    go_wp2_with fail
    go_region_with (first
      | (go_at_call_of 20 (Value.slice a k c); refine (HJ1.out _ (by first | exact d1.out | exact B2.out)).mono ?_; rintro e w1 ⟨v1, rfl, n1, k1⟩; have N1 := hid_of n1; have B1 : Hid (Below w.heap.size w w1) := (by first | exact B2.out.trans (k1.mono B2.out.size) | exact d1.out.trans k1); have K1 := hid_of k1; clear n1 k1 HJ1)
      | (go_at_call 20; refine (HJ2.out _ (by first | exact B1.out | exact d1.out)).mono ?_; rintro e w2 ⟨v2, rfl, n2, k2⟩; have N2 := hid_of n2; have B2 : Hid (Below w.heap.size w w2) := (by first | exact B1.out.trans (k2.mono B1.out.size) | exact d1.out.trans k2); have K2 := hid_of k2; clear n2 k2 HJ2))
    all_goals
      go_wp2_with fail
      go_ret2
      first
        | exact ⟨v1, v2, rfl, N1.out.below K2.out, N2.out.mono B1.out.size, B2.out⟩
        | exact ⟨v1, v2, rfl, N1.out.mono B2.out.size, N2.out.below K1.out, B1.out⟩
end Go.Proofs.Ytdmjfmojacnbeaa.Ref
