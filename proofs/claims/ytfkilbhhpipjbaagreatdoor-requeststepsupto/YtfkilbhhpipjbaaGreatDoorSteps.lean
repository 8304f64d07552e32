/- RequestSteps, walked: what every row of Feeds and Nexts tells. -/
import Derived.Test.YtfkilbhhpipjbaaGreatDoorStepM
import Derived.Test.YtfkilbhhpipjbaaGreatDoorStepD
import Derived.Test.YtfkilbhhpipjbaaGreatDoorSure
namespace Go.Proofs.YtfkilbhhpipjbaaGreatDoor.Steps
open Go.RowKit
open Go.Proofs.YtfkilbhhpipjbaaGreatDoor.TextMath
open Go.Proofs.YtfkilbhhpipjbaaGreatDoor.ReqMath
open Go.Proofs.YtfkilbhhpipjbaaGreatDoor.Base
open Go.Proofs.YtfkilbhhpipjbaaGreatDoor.Small
open Go.Proofs.YtfkilbhhpipjbaaGreatDoor.Append
open Go.Proofs.YtfkilbhhpipjbaaGreatDoor.Bulk
open Go.Proofs.YtfkilbhhpipjbaaGreatDoor.Bulk2
open Go.Proofs.YtfkilbhhpipjbaaGreatDoor.BulkAny
open Go.Proofs.YtfkilbhhpipjbaaGreatDoor.Typed
open Go.Proofs.YtfkilbhhpipjbaaGreatDoor.Pend
open Go.Proofs.YtfkilbhhpipjbaaGreatDoor.Whole
open Go.Proofs.YtfkilbhhpipjbaaGreatDoor.Lists
open Go.Proofs.YtfkilbhhpipjbaaGreatDoor.Right
open Go.Proofs.YtfkilbhhpipjbaaGreatDoor.Sure
open Go.Proofs.YtfkilbhhpipjbaaGreatDoor.RefNext
open Go.Proofs.YtfkilbhhpipjbaaGreatDoor.StepM
open Go.Proofs.YtfkilbhhpipjbaaGreatDoor.StepD
set_option linter.unusedVariables false

set_option maxRecDepth 100000 in
theorem rfeed_call (d : Nat) (L : Lim) (s p : ByteArray) (a : Nat) (x : ByteArray) (w : World) (h : RR d L s a x false w) (hs : s.size ≤ 67108864) (hp : p.size ≤ 67108864) :
    Calls Tryz.prog 22 #[.pointer (some ⟨d, 0, none⟩), .string p] w fun e w' => e = .returned (.tuple #[]) ∧ RR d L (s ++ p) a x false w' ∧ Fr (fun q => q = d) w w' := by
  have i6 : w.cell? ⟨d, 6, none⟩ = some (.bool false) := Lib.cell_of_heap h 6
  have i3 : w.cell? ⟨d, 3, none⟩ = some (.string s) := Lib.cell_of_heap h 3
  have y3 := Lib.frozen_of_heap h 3
  have HR := hid_of h
  clear h
  go_enter Tryz.func22, Tryz.ntmps22
  go_wp2_with fail
  go_end0
  exact ⟨rfl, set_at (i := 3) HR.out _, (Fr.refl _ w).one _⟩
set_option maxRecDepth 100000 in
theorem rfeed_told (d : Nat) (L : Lim) (s p : ByteArray) (a : Nat) (x : ByteArray) (w : World) (h : RR d L s a x true w) :
    Calls Tryz.prog 22 #[.pointer (some ⟨d, 0, none⟩), .string p] w fun e w' => e = .returned (.tuple #[]) ∧ w' = w := by
  have i6 : w.cell? ⟨d, 6, none⟩ = some (.bool true) := Lib.cell_of_heap h 6
  clear h
  go_enter Tryz.func22, Tryz.ntmps22
  go_wp2_with fail
  go_end0
  exact ⟨rfl, rfl⟩
set_option maxRecDepth 100000 in
theorem rheld_call (d : Nat) (L : Lim) (s : ByteArray) (a : Nat) (x : ByteArray) (w : World) (h : RR d L s a x false w) (hs : s.size ≤ 67108864) (ha : a ≤ s.size) :
    Calls Tryz.prog 27 #[.pointer (some ⟨d, 0, none⟩)] w fun e w' => e = .returned (.int .i64 ((s.size : Int) - (a : Int))) ∧ ∃ n, w' = w.drewN n := by
  have i6 : w.cell? ⟨d, 6, none⟩ = some (.bool false) := Lib.cell_of_heap h 6
  have i3 : w.cell? ⟨d, 3, none⟩ = some (.string s) := Lib.cell_of_heap h 3
  have i4 : w.cell? ⟨d, 4, none⟩ = some (.int .i64 (a : Int)) := Lib.cell_of_heap h 4
  have e3 : IntKind.i64.wrap ((s.size : Int) - (a : Int)) = (s.size : Int) - (a : Int) := IntWalk.i64_in _ (by omega)
  clear h
  go_enter Tryz.func27, Tryz.ntmps27
  go_wp2_with fail
  go_quiet (fail)
  go_wp2_with fail
  go_ret
  exact ⟨rfl, _, rfl⟩
set_option maxRecDepth 100000 in
theorem rheld_told (d : Nat) (L : Lim) (s : ByteArray) (a : Nat) (x : ByteArray) (w : World) (h : RR d L s a x true w) :
    Calls Tryz.prog 27 #[.pointer (some ⟨d, 0, none⟩)] w fun e w' => e = .returned (.int .i64 0) ∧ ∃ n, w' = w.drewN n := by
  have i6 : w.cell? ⟨d, 6, none⟩ = some (.bool true) := Lib.cell_of_heap h 6
  clear h
  go_enter Tryz.func27, Tryz.ntmps27
  go_wp2_with fail
  go_ret
  exact ⟨rfl, 0, rfl⟩
section
variable {w0 : World} {b d : Nat} {L : Lim} {T : List UInt8} {w w' : World}
/- Feed of the document's -/
theorem feed2 (p : List UInt8) (h : Fed w0 b d L T p w) (hz : T.length + p.length ≤ 67108864) :
    Calls Tryz.prog 22 #[.pointer (some ⟨d, 0, none⟩), .string (Base.mk p)] w fun e w' => e = .returned (.tuple #[]) ∧ St w0 b d L (T ++ p) w' := by
  rcases h with ⟨j, lv, wv, h, hj⟩ | ⟨T', j, wd, h⟩
  · refine (rfeed_call d L (Base.mk T) (Base.mk p) j _ w h.rr (by rw [mk_size]; omega) (by rw [mk_size]; omega)).mono ?_
    rintro e w' ⟨rfl, q1, q2⟩
    rw [mk_cat] at q1
    have e : (T ++ p).drop j = T.drop j ++ p := List.drop_append_of_le_length hj
    exact ⟨rfl, Or.inl ⟨j, lv, wv, ⟨by rw [e]; exact ps_keep h.ps (kp_doc h.rr q2), q1, h.lb, h.wb, fb_doc h.bel h.db q2, h.bb, h.db⟩, by rw [List.length_append]; omega⟩⟩
  · refine (rfeed_told d L T' (Base.mk p) j _ w h.rr).mono ?_
    rintro e w' ⟨rfl, rfl⟩
    exact ⟨rfl, Or.inr ⟨T', j, wd, h⟩⟩
/- what both tell -/
structure Tells (b d : Nat) (X : ByteArray) (H : Int) (U : Nat) (w : World) : Prop where
  f : ∀ m, Calls Tryz.prog 25 #[.pointer (some ⟨b, 0, none⟩)] (w.drewN m) fun e w' => e = .returned (.string X) ∧ w' = w.drewN m
  h : ∀ m, Calls Tryz.prog 26 #[.pointer (some ⟨b, 0, none⟩)] (w.drewN m) fun e w' => e = .returned (.int .i64 H) ∧ ∃ n, w' = (w.drewN m).drewN n
  r : ∀ m, Calls Tryz.prog 27 #[.pointer (some ⟨d, 0, none⟩)] (w.drewN m) fun e w' => e = .returned (.int .i64 H) ∧ ∃ n, w' = (w.drewN m).drewN n
  u : ∀ m, Calls Tryz.prog 28 #[.pointer (some ⟨b, 0, none⟩)] (w.drewN m) fun e w' => e = .returned (.int .i64 (U : Int)) ∧ w' = w.drewN m
  c5 : w.cell? ⟨d, 5, none⟩ = some (.string X)
  c4 : w.cell? ⟨d, 4, none⟩ = some (.int .i64 (U : Int))
theorem tells (h : St w0 b d L T w) (hz : T.length ≤ 67108864) : ∃ X H U, Tells b d X H U w := by
  rcases h with ⟨j, lv, wv, h, hj⟩ | ⟨T', j, wd, h⟩
  · obtain ⟨t, k, ws, wanted, read, h1, h2, h3, _⟩ := h.ps
    have ht : t.size = T.length - j - read := by rw [← len_bs, h3, List.length_drop, List.length_drop]
    have hrd : read ≤ T.length - j := by rw [List.length_drop] at h2; exact h2
    refine ⟨⟨#[]⟩, ((Base.mk T).size : Int) - (j : Int), j, fun m => ?_, fun m => ?_, fun m => ?_, fun m => ?_, Lib.cell_of_heap h.rr 5, Lib.cell_of_heap h.rr 4⟩
    · exact fault_call b _ _ _ _ _ _ _ _ _ (rb_later h1.rb (bdN w m))
    · have := held_call b _ _ _ _ _ _ _ _ t (w.drewN m) (rb_later h1.rb (bdN w m)) (by_below h1.sl (bdN w m)) (by omega) (by omega)
      rw [show (read : Int) + (t.size : Int) = ((Base.mk T).size : Int) - (j : Int) from by rw [mk_size]; omega] at this
      exact this
    · exact rheld_call d L (Base.mk T) j _ (w.drewN m) (rr_below h.rr (bdN w m)) (by rw [mk_size]; exact hz) (by rw [mk_size]; exact hj)
    · exact used_call b _ _ _ _ _ _ _ _ _ (rb_later h1.rb (bdN w m))
  · refine ⟨Base.mk wd, 0, j, fun m => ?_, fun m => ?_, fun m => ?_, fun m => ?_, Lib.cell_of_heap h.rr 5, Lib.cell_of_heap h.rr 4⟩
    · exact fault_call b _ _ _ _ _ _ _ _ _ (rb_later h.rb (bdN w m))
    · exact held_call b _ _ _ _ _ _ _ _ ⟨#[]⟩ (w.drewN m) (rb_later h.rb (bdN w m)) (BySl.nil _) (by decide) (by decide)
    · exact rheld_told d L T' j _ (w.drewN m) (rr_below h.rr (bdN w m))
    · exact used_call b _ _ _ _ _ _ _ _ _ (rb_later h.rb (bdN w m))
theorem half_form {v : Value} {ws : List (List UInt8)} {x : Int} (h : Half w0 b d L T v ws x w) : ∃ a c, v = .slice a ws.length c := by
  rcases h with ⟨j, k, lv, wv, rfl, rfl, rfl, _⟩ | ⟨j, k, wd, rfl, rfl, rfl, _⟩ | ⟨j, k, lv, rfl, hn, hj, hw, _⟩ | ⟨T', j, wd, rfl, rfl, rfl, h⟩
  · exact ⟨none, 0, rfl⟩
  · exact ⟨none, 0, rfl⟩
  · rcases ws_form hw with ⟨h1, h2⟩ | ⟨g, cap, h1⟩
    · subst h2; exact ⟨none, 0, h1⟩
    · exact ⟨_, _, h1⟩
  · exact ⟨none, 0, rfl⟩
theorem half_bel {v : Value} {ws : List (List UInt8)} {x : Int} (h : Half w0 b d L T v ws x w) : Below w0.heap.size w0 w := by
  rcases h with ⟨j, k, lv, wv, rfl, rfl, rfl, _, _, h⟩ | ⟨j, k, wd, rfl, rfl, rfl, _, _, h⟩ | ⟨j, k, lv, rfl, hn, hj, hw, _, h⟩ | ⟨T', j, wd, rfl, rfl, rfl, h⟩
  · exact h.bel
  · exact h.bel
  · exact h.bel
  · exact h.bel
theorem fd_bel {p : List UInt8} (h : Fed w0 b d L T p w) : Below w0.heap.size w0 w := by
  rcases h with ⟨j, lv, wv, h1, h2⟩ | ⟨T', j, wd, h1⟩
  · exact h1.bel
  · exact h1.bel
/- a word that was handed out is spoilt -/
theorem sto_at {a : Option Addr} {n c : Nat} (h : Sto w0 b d L T (.slice a n c) n w) {j : Nat} (hj : j < n) : ∃ g u, a = some ⟨g, 0, none⟩ ∧ w.cell? ⟨g, j, none⟩ = some u ∧ w.frozen? ⟨g, j, none⟩ = false ∧ ∀ v, Sto w0 b d L T (.slice a n c) n (w.setCell ⟨g, j, none⟩ v) := by
  obtain ⟨ho, hs⟩ := h
  rcases ho with ⟨h1, h2⟩ | ⟨g, cap, cur, h1, h2, h3, h4⟩
  · omega
  · injection h1 with e1 e2 e3
    subst e1
    refine ⟨g, cur[j]'(by omega), rfl, ?_, Lib.frozen_of_heap h2 j, fun v => ⟨Or.inr ⟨g, c, _, rfl, set_at (i := j) h2 v, by simpa using h3, h4⟩, ?_⟩⟩
    · rw [Lib.cell_of_heap h2, Array.getElem?_eq_getElem (by omega)]
    · have hb0 : ∀ {W : World}, Below w0.heap.size w0 W → Below w0.heap.size w0 (W.setCell ⟨g, j, none⟩ v) := fun hW => hW.setCell (p := ⟨g, j, none⟩) h4 v
      rcases hs with ⟨jj, lv, wv, h5, h6, h7⟩ | ⟨T', jj, wd, h5⟩
      · obtain ⟨t, k, ws, wanted, read, q1, q2⟩ := h5.ps
        refine Or.inl ⟨jj, lv, wv, ⟨⟨t, k, ws, wanted, read, ⟨(set_ne (kind_ne q1.rb h2 (by decide)) v).trans q1.rb, q1.sl.later (fun q hq => set_ne ?_ v), ws_later q1.wk (fun q hq => set_ne ?_ v), q1.kl, q1.kn⟩, q2⟩, (set_ne (kind_ne h5.rr h2 (by decide)) v).trans h5.rr, h5.lb, h5.wb, hb0 h5.bel, h5.bb, h5.db⟩, h6, h7⟩
        · obtain ⟨cc, hc⟩ := by_kind q1.sl q hq
          exact kind_ne hc h2 (by decide)
        · rintro rfl
          exact h7 q rfl hq
      · exact Or.inr ⟨T', jj, wd, ⟨(set_ne (kind_ne h5.rb h2 (by decide)) v).trans h5.rb, h5.wn, (set_ne (kind_ne h5.rr h2 (by decide)) v).trans h5.rr, hb0 h5.bel, h5.bb, h5.db⟩⟩
end
/- the pieces so far -/
def upTo (l : List Sp) (i : Nat) : List UInt8 := ((l.take i).map (·.1)).flatten
theorem upTo_succ (l : List Sp) (i : Nat) (h : i < l.length) : upTo l (i + 1) = upTo l i ++ (l[i]).1 := by
  unfold upTo
  rw [List.take_succ_eq_append_getElem h, List.map_append, List.flatten_append]
  simp
theorem flat_le : ∀ l : List Sp, (l.map (·.1)).flatten.length ≤ wt l
  | [] => Nat.le_refl _
  | a :: r => by
    have := flat_le r
    unfold wt at this ⊢
    simp only [List.map_cons, List.flatten_cons, List.length_append, List.sum_cons]
    omega
theorem upTo_le (l : List Sp) (i : Nat) : (upTo l i).length ≤ wt l := by
  refine Nat.le_trans ?_ (flat_le l)
  unfold upTo
  have e : (l.map (·.1)).flatten = ((l.take i).map (·.1)).flatten ++ ((l.drop i).map (·.1)).flatten := by rw [← List.flatten_append, ← List.map_append, List.take_append_drop]
  rw [e, List.length_append]
  omega
theorem wt_len : ∀ l : List Sp, l.length ≤ wt l
  | [] => Nat.zero_le _
  | o :: l => by
    have := wt_len l
    unfold wt at this ⊢
    rw [List.map_cons, List.sum_cons, List.length_cons]
    omega
theorem str_same (s : ByteArray) : (s.toList == s.toList) = true := by simp
theorem int_same (x : Int) : (x == x) = true := by simp

set_option maxHeartbeats 8000000 in
set_option maxRecDepth 100000 in
theorem steps_yes (L : Lim) (h : okB L.bulk L.args L.line = true) (v : Value) (l : List Sp) (w : World) (hh : Has w) (hv : SpSl w v l) (hwt : wt l ≤ 1048576) :
    Calls Tryz.prog 6 #[limV L, v] w fun e w' => e = .returned (.bool true) ∧ Below w.heap.size w w' := by
  have hL := lok_of h
  obtain ⟨a, c, rfl, hv⟩ := hv
  have hlen := Nat.le_trans (wt_len l) hwt
  obtain ⟨w0, hw0⟩ : ∃ w0, w0 = w.alloc (.cells #[.int .i64 L.bulk, .int .i64 L.args, .int .i64 L.line] 23) := ⟨_, rfl⟩
  have B0 : Hid (Below w.heap.size w w0) := by rw [hw0]; exact (Below.refl _ w).alloc (Nat.le_refl _) _
  have HH : Hid (Has w0) := hh.later B0.out
  have BX : Hid (∀ W, Below w0.heap.size w0 W → W.cell? ⟨w.heap.size, 0, none⟩ = some (.int .i64 L.bulk) ∧ W.cell? ⟨w.heap.size, 1, none⟩ = some (.int .i64 L.args) ∧ W.cell? ⟨w.heap.size, 2, none⟩ = some (.int .i64 L.line)) := by
    intro W hW
    have hx : w0.heap[w.heap.size]? = some (.cells #[.int .i64 L.bulk, .int .i64 L.args, .int .i64 L.line] 23 (0, 0)) := by rw [hw0]; exact heap_alloc_new w _
    have hy := (hW.block w.heap.size (lt_of hx)).trans hx
    exact ⟨Lib.cell_of_heap hy 0, Lib.cell_of_heap hy 1, Lib.cell_of_heap hy 2⟩
  have HV : Hid (∀ W, Below w0.heap.size w0 W → ∀ k (hk : k < l.length), ∃ g o, a = some ⟨g, o, none⟩ ∧ W.cell? ⟨g, o + k * 2, none⟩ = some (.string (mk (l[k]'hk).1)) ∧ W.cell? ⟨g, o + k * 2 + 1, none⟩ = some (.int .i64 (l[k]'hk).2)) := by
    intro W hW k hk
    rcases hv with e | ⟨g, o, e1, e2⟩
    · subst e; simp at hk
    · obtain ⟨c1, c2⟩ := e2 k hk
      exact ⟨g, o, e1, cell_below hW _ _ (cell_below B0.out _ _ c1), cell_below hW _ _ (cell_below B0.out _ _ c2)⟩
  have HN := hid_of (fun w1 => new_ok L h w1)
  have HC := hid_of (fun w1 => rcheck_ok L.bulk L.args L.line h w1)
  have HSu := hid_of (fun w2 (h2 : Has w2) => sure_call w2 h2)
  have HSZ := hid_of HH.out.size
  clear h hh hv
  unfold limV at *
  go_enter Tryz.func6, Tryz.ntmps6
  go_wp2_with fail
  rw [← hw0]
  refine (HN.out w0).mono ?_
  rintro e w1 ⟨b, rfl, hb, r1, b1⟩
  obtain ⟨x0, x1, x2⟩ := BX.out w1 b1
  have h8 : 8 ≤ b := by have := HSZ.out; omega
  have R1 := hid_of r1
  have B1 := hid_of b1
  have HBb := hid_of hb
  clear b1 r1 hb HN hw0
  go_wp2_with fail
  refine (HC.out w1).mono ?_
  rintro e w2 ⟨rfl, b2⟩
  have B2 := hid_of (B1.out.trans (b2.mono B1.out.size))
  have R2 := hid_of (rb_later R1.out b2)
  clear b2 x0 x1 x2 HC
  obtain ⟨x0, x1, x2⟩ := BX.out w2 B2.out
  have m0 := World.new_ne w2 _ x0
  obtain ⟨V, hV⟩ : ∃ V, V = w2.alloc (.cells #[.int .i64 L.bulk, .int .i64 L.args, .int .i64 L.line, .string ⟨#[]⟩, .int .i64 0, .string ⟨#[]⟩, .bool false] 46) := ⟨_, rfl⟩
  obtain ⟨d, hd⟩ : ∃ d, d = w2.heap.size := ⟨_, rfl⟩
  have ST0 : Hid (St w0 b d L (upTo l 0) V) := by
    have hrr : RR d L (mk []) 0 ⟨#[]⟩ false V := by rw [hV, hd]; exact heap_alloc_new w2 _
    have hbv : Below w2.heap.size w2 V := by rw [hV]; exact (Below.refl _ w2).alloc (Nat.le_refl _) _
    have hps : PS b L [] 0 (.slice none 0 0) (.slice none 0 0) V := ⟨⟨#[]⟩, 0, [], 0, 0, ⟨rb_later R2.out hbv, BySl.nil _, World.ownsRow_nil _ _ _ _, Nat.le_refl _, rfl⟩, Nat.le_refl _, rfl, Or.inl ⟨rfl, rfl, rfl⟩, by simp⟩
    exact Or.inl ⟨0, .slice none 0 0, .slice none 0 0, ⟨hps, hrr, fun g hg => (by cases hg), fun g hg => (by cases hg), B2.out.trans (hbv.mono B2.out.size), HBb.out, by rw [hd]; exact B2.out.size⟩, Nat.le_refl _⟩
  go_wp2_with fail
  rw [← hV, ← hd]
  clear x0 x1 x2 m0 hV hd R1 R2 B1 B2 HBb BX
  go_loopg [8] l.length (fun g si wx => ∃ i : Nat, i ≤ l.length ∧ l.length ≤ i + g ∧ si = .int .i64 i ∧ Hid (St w0 b d L (upTo l i) wx))
  case atStart => exact ⟨0, by omega, by omega, rfl, ST0⟩
  case round =>
    clear ST0
    obtain ⟨i, hi, hg, rfl, ST⟩ := hrel
    obtain ⟨wo, hwo⟩ : ∃ wo : World, wo = wr := ⟨_, rfl⟩
    subst hwo
    by_cases hlt : i < l.length
    · obtain ⟨gO, rfl⟩ : ∃ gO, gk = gO + 1 := ⟨gk - 1, by omega⟩
      obtain ⟨ga, oa, rfl, c1, c2⟩ := HV.out wo (st_bel ST.out) i hlt
      have hS := upTo_succ l i hlt
      have hSl := upTo_le l (i + 1)
      have hSn : (upTo l i).length + (l[i]).1.length ≤ 67108864 := by
        have := congrArg List.length hS
        rw [List.length_append] at this
        omega
      have HF1 := hid_of (feed1 (l[i]).1 ST.out hSn HSZ.out)
      have HF2 := hid_of (fun (W : World) (hW : Fed w0 b d L (upTo l i) (l[i]).1 W) => feed2 (l[i]).1 hW hSn)
      have HC2 : Hid (∀ W, Below w0.heap.size w0 W → W.cell? ⟨ga, oa + i * 2, none⟩ = some (.string (mk (l[i]).1)) ∧ W.cell? ⟨ga, oa + i * 2 + 1, none⟩ = some (.int .i64 (l[i]).2)) := by
        intro W hW
        obtain ⟨g, o, e, q1, q2⟩ := HV.out W hW i hlt
        cases e
        exact ⟨q1, q2⟩
      rw [← hS] at HF2
      obtain ⟨S, hSd⟩ : ∃ S, S = upTo l (i + 1) := ⟨_, rfl⟩
      rw [← hSd] at HF2
      have HSL : Hid (S.length ≤ 67108864) := by show _ ≤ _; rw [hSd]; omega
      have HSd := hid_of hSd
      have gi : ((i : Int)) < (l.length : Int) := by omega
      have ew : IntKind.i64.wrap ((i : Int) + 1) = (i : Int) + 1 := IntWalk.i64_in _ (by omega)
      obtain ⟨N, hN⟩ : ∃ N, N = (l[i]).2 := ⟨_, rfl⟩
      obtain ⟨Y, hY⟩ : ∃ Y, Y = mk (l[i]).1 := ⟨_, rfl⟩
      rw [← hY, ← hN] at HC2
      rw [← hY] at HF1 HF2 c1
      rw [← hN] at c2
      have HFd : Hid (∀ W, Fed w0 b d L (upTo l i) (l[i]).1 W → Below w0.heap.size w0 W) := fun W hW => fd_bel hW
      clear ST hS hSl hSd hSn hY hN
      go_wp2_with fail
      refine HF1.out.mono ?_
      rintro e w2 ⟨rfl, fd2⟩
      obtain ⟨k1, k2⟩ := HC2.out w2 (HFd.out w2 fd2)
      have FD2 := hid_of fd2
      clear fd2 HF1 c1 c2
      go_wp2_with fail
      refine (HF2.out w2 FD2.out).mono ?_
      rintro e w3 ⟨rfl, st3⟩
      have ST3 := hid_of st3
      clear st3 HF2 k1 k2 FD2 HFd
      go_wp2_with fail
      go_loopg [9] 100 (fun g sk wx => ∃ k : Nat, k ≤ 100 ∧ 100 ≤ k + g ∧ sk = .int .i64 k ∧ Hid (St w0 b d L S wx))
      case atStart => exact ⟨0, by omega, by omega, rfl, ST3⟩
      case round =>
        clear ST3
        obtain ⟨k, hk, hgk, rfl, SK⟩ := hrel
        obtain ⟨k1, k2⟩ := HC2.out wr (st_bel SK.out)
        clear k1
        by_cases hkN : (k : Int) < N ∧ k < 100
        · obtain ⟨hkN, hk1⟩ := hkN
          obtain ⟨gI, rfl⟩ : ∃ gI, gk = gI + 1 := ⟨gk - 1, by omega⟩
          have gh : ((k : Int)) < 100 := by omega
          have ek : IntKind.i64.wrap ((k : Int) + 1) = (k : Int) + 1 := IntWalk.i64_in _ (by omega)
          have HN1 := hid_of (next1 hL SK.out HSL.out HH.out h8)
          clear SK
          go_wp2_with fail
          refine HN1.out.mono ?_
          rintro e w4 ⟨v4, ws, x, rfl, hf4⟩
          obtain ⟨a4, c4, hv4⟩ := half_form hf4
          subst hv4
          have HN2 := hid_of (next2 hL hf4 HSL.out HSZ.out)
          clear hf4 HN1 k2
          go_wp2_with fail
          refine HN2.out.mono ?_
          rintro e w5 ⟨v5, rfl, s1, s2, hwl, sto⟩
          obtain ⟨a5, c5, hv5, _⟩ := id s2
          subst hv5
          have HSA := hid_of (same_call _ _ ws ws w5 s1 s2 (by omega))
          rw [show decide (ws = ws) = true from decide_eq_true rfl] at HSA
          have STO := hid_of sto
          have hwl2 : ws.length ≤ 67108864 := hwl
          have hxx := int_same x
          clear sto s1 s2 HN2 hwl
          go_wp2_with fail
          refine HSA.out.mono ?_
          rintro e w6 ⟨rfl, n6, hw6⟩
          have STO6 : Hid (Sto w0 b d L S (.slice a4 ws.length c4) ws.length w6) := by rw [hw6]; exact sto_below STO.out (bdN w5 n6)
          clear HSA STO hw6
          go_wp2_with fail
          go_loopg [14] ws.length (fun g sj wx => ∃ j : Nat, j ≤ ws.length ∧ ws.length ≤ j + g ∧ sj = .int .i64 j ∧ Hid (Sto w0 b d L S (.slice a4 ws.length c4) ws.length wx))
          case atStart => exact ⟨0, by omega, by omega, rfl, STO6⟩
          case round =>
            clear STO6
            obtain ⟨j, hj, hgj, rfl, SJ⟩ := hrel
            by_cases hjl : j < ws.length
            · obtain ⟨gJ, rfl⟩ : ∃ gJ, gk = gJ + 1 := ⟨gk - 1, by omega⟩
              obtain ⟨g, u, rfl, q1, q2, q3⟩ := sto_at SJ.out hjl
              have Q3 := hid_of q3
              have gj : ((j : Int)) < (ws.length : Int) := by omega
              have ej : IntKind.i64.wrap ((j : Int) + 1) = (j : Int) + 1 := IntWalk.i64_in _ (by omega)
              clear SJ q3
              go_wp2_with fail
              go_roundg gJ
              case measure => omega
              case rel => exact ⟨j + 1, by omega, by omega, by rw [show ((j + 1 : Nat) : Int) = (j : Int) + 1 from by omega], Q3.out _⟩
            · have gj : ¬ ((j : Int)) < (ws.length : Int) := by omega
              have SS := hid_of SJ.out.st
              clear SJ
              go_wp2_with fail
              go_roundg gI
              case measure => omega
              case rel => exact ⟨k + 1, by omega, by omega, by rw [show ((k + 1 : Nat) : Int) = (k : Int) + 1 from by omega], SS⟩
        · have hstop : decide ((k : Int) < N) = false ∨ decide ((k : Int) < N) = true ∧ decide ((k : Int) < 100) = false := by
            by_cases q : (k : Int) < N
            · exact Or.inr ⟨decide_eq_true q, decide_eq_false (fun q2 => hkN ⟨q, by omega⟩)⟩
            · exact Or.inl (decide_eq_false q)
          obtain ⟨X, Hd, U, hT⟩ := tells SK.out HSL.out
          have HT := hid_of hT
          have c5 := hT.c5
          have c4 := hT.c4
          have e1 := str_same X
          have e2 := int_same Hd
          have e3 := int_same (U : Int)
          clear hkN hT
          rcases hstop with g1 | ⟨g1, g2⟩
          all_goals
            go_wp2_with fail
            go_quiet ((first | (go_at_call 25; exact Calls.quiet_of_same (HT.out.f _)) | (go_at_call 26; exact Calls.quiet_of (HT.out.h _)) | (go_at_call 27; exact Calls.quiet_of (HT.out.r _)) | (go_at_call 28; exact Calls.quiet_of_same (HT.out.u _))))
            go_wp2_with fail
            go_roundg gO
            case measure => omega
            case rel => exact ⟨i + 1, by omega, by omega, by rw [show ((i + 1 : Nat) : Int) = (i : Int) + 1 from by omega], by rw [← HSd.out]; exact st_below SK.out (bdN _ _)⟩
    · obtain rfl : i = l.length := by omega
      have gi : ¬ ((l.length : Int)) < (l.length : Int) := by omega
      have HBe := hid_of (st_bel ST.out)
      clear ST
      go_wp2_with fail
      refine (HSu.out wo (HH.out.later HBe.out)).mono ?_
      rintro e w9 ⟨rfl, b9⟩
      have B9 : Hid (Below w.heap.size w w9) := B0.out.trans ((HBe.out.trans (b9.mono HBe.out.size)).mono B0.out.size)
      clear b9
      go_wp2_with fail
      go_ret
      exact ⟨rfl, B9.out⟩
set_option maxHeartbeats 2000000 in
set_option maxRecDepth 100000 in
theorem steps_no (x y z : Int) (h : okB x y z = false) (a : Option Addr) (n c : Nat) (w : World) (hh : Has w) :
    Calls Tryz.prog 6 #[.agg #[.int .i64 x, .int .i64 y, .int .i64 z], .slice a n c] w fun e w' => e = .returned (.bool true) ∧ Below w.heap.size w w' := by
  have HN := hid_of (fun w1 => new_no x y z h w1)
  have HC := hid_of (fun w1 => rcheck_no x y z h w1)
  have HSu := hid_of (fun w2 (h2 : Has w2) => sure_call w2 h2)
  have HH := hid_of hh
  obtain ⟨w0, hw0⟩ : ∃ w0, w0 = w.alloc (.cells #[.int .i64 x, .int .i64 y, .int .i64 z] 23) := ⟨_, rfl⟩
  have B0 : Hid (Below w.heap.size w w0) := by rw [hw0]; exact (Below.refl _ w).alloc (Nat.le_refl _) _
  have BX : Hid (∀ W, Below w0.heap.size w0 W → W.cell? ⟨w.heap.size, 0, none⟩ = some (.int .i64 x) ∧ W.cell? ⟨w.heap.size, 1, none⟩ = some (.int .i64 y) ∧ W.cell? ⟨w.heap.size, 2, none⟩ = some (.int .i64 z)) := by
    intro W hW
    have hx : w0.heap[w.heap.size]? = some (.cells #[.int .i64 x, .int .i64 y, .int .i64 z] 23 (0, 0)) := by rw [hw0]; exact heap_alloc_new w _
    have hy := (hW.block w.heap.size (lt_of hx)).trans hx
    exact ⟨Lib.cell_of_heap hy 0, Lib.cell_of_heap hy 1, Lib.cell_of_heap hy 2⟩
  clear h hh
  go_enter Tryz.func6, Tryz.ntmps6
  go_wp2_with fail
  rw [← hw0]
  refine (HN.out w0).mono ?_
  rintro e w1 ⟨rfl, b1⟩
  obtain ⟨x0, x1, x2⟩ := BX.out w1 b1
  have B1 := hid_of (B0.out.trans (b1.mono B0.out.size))
  clear b1
  go_wp2_with fail
  refine (HC.out w1).mono ?_
  rintro e w2 ⟨rfl, b2⟩
  have B2 := hid_of (B1.out.trans (b2.mono B1.out.size))
  clear b2
  go_wp2_with fail
  refine (HSu.out w2 (HH.out.later B2.out)).mono ?_
  rintro e w3 ⟨rfl, b3⟩
  have B3 := hid_of (B2.out.trans (b3.mono B2.out.size))
  clear b3
  go_wp2_with fail
  go_ret
  exact ⟨rfl, B3.out⟩
end Go.Proofs.YtfkilbhhpipjbaaGreatDoor.Steps
