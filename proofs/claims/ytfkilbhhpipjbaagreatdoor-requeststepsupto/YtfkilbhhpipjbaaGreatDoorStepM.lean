/- The code's reader and the document's, side by side: what is kept between two calls. -/
import Derived.Test.YtfkilbhhpipjbaaGreatDoorRefWhole
import Derived.Test.YtfkilbhhpipjbaaGreatDoorWholeMath
import Derived.Test.YtfkilbhhpipjbaaGreatDoorLists
import Derived.Test.YtfkilbhhpipjbaaGreatDoorDouble2
namespace Go.Proofs.YtfkilbhhpipjbaaGreatDoor.StepM
open Go.RowKit
open Go.Proofs.YtfkilbhhpipjbaaGreatDoor.TextMath
open Go.Proofs.YtfkilbhhpipjbaaGreatDoor.ReqMath
open Go.Proofs.YtfkilbhhpipjbaaGreatDoor.Base
open Go.Proofs.YtfkilbhhpipjbaaGreatDoor.Small
open Go.Proofs.YtfkilbhhpipjbaaGreatDoor.Append
open Go.Proofs.YtfkilbhhpipjbaaGreatDoor.Bulk
open Go.Proofs.YtfkilbhhpipjbaaGreatDoor.Bulk2
open Go.Proofs.YtfkilbhhpipjbaaGreatDoor.BulkAny
open Go.Proofs.YtfkilbhhpipjbaaGreatDoor.Typed
open Go.Proofs.YtfkilbhhpipjbaaGreatDoor.Pend
open Go.Proofs.YtfkilbhhpipjbaaGreatDoor.Next
open Go.Proofs.YtfkilbhhpipjbaaGreatDoor.Feed
open Go.Proofs.YtfkilbhhpipjbaaGreatDoor.Whole
open Go.Proofs.YtfkilbhhpipjbaaGreatDoor.Lists
open Go.Proofs.YtfkilbhhpipjbaaGreatDoor.RefNext
set_option linter.unusedVariables false

theorem mk_empty {l : List UInt8} (h : l ≠ []) : (Base.mk l).toList.isEmpty = false := by
  rw [Lib.toList_data]
  cases l with
  | nil => exact absurd rfl h
  | cons a l => rfl
theorem mk_cat (a b : List UInt8) : Base.mk a ++ Base.mk b = Base.mk (a ++ b) := by
  unfold Base.mk
  apply ByteArray.ext
  simp
theorem fr_below {w0 w : World} {F : Nat → Prop} {w' : World} (h : Below w0.heap.size w0 w) (hf : Fr F w w') (hF : ∀ q, F q → w0.heap.size ≤ q) : Below w0.heap.size w0 w' :=
  ((Fr.of_below (F := F) h).trans hf).below (fun x hx => hF x hx)
theorem kind_ne {w : World} {g h : Nat} {c c' : Array Value} {t t' : TypeId} {z z' : Nat × Nat} (hg : w.heap[g]? = some (.cells c t z)) (hh : w.heap[h]? = some (.cells c' t' z')) (ht : t ≠ t') : g ≠ h := by
  rintro rfl
  rw [hg] at hh
  injection hh with hh
  injection hh with _ q
  exact ht q
/- neither has told a fault -/
structure Al (w0 : World) (b d : Nat) (L : Lim) (P T : List UInt8) (i j : Nat) (lv wv : Value) (w : World) : Prop where
  ps : PS b L P i lv wv w
  rr : RR d L (Base.mk T) j ⟨#[]⟩ false w
  lb : ∀ g, slBlock lv = some g → w0.heap.size ≤ g
  wb : ∀ g, wv.ownBlock = some g → w0.heap.size ≤ g
  bel : Below w0.heap.size w0 w
  bb : w0.heap.size ≤ b
  db : w0.heap.size ≤ d
/- both have -/
structure Td (w0 : World) (b d : Nat) (L : Lim) (T : ByteArray) (j : Nat) (wd : List UInt8) (w : World) : Prop where
  rb : RB b ⟨0, 0, 0⟩ (.slice none 0 0) 0 (.slice none 0 0) 0 0 j (Base.mk wd) w
  wn : wd ≠ []
  rr : RR d L T j (Base.mk wd) true w
  bel : Below w0.heap.size w0 w
  bb : w0.heap.size ≤ b
  db : w0.heap.size ≤ d
/- the code's has, the document's has not yet -/
structure Ha (w0 : World) (b d : Nat) (L : Lim) (T : List UInt8) (i j : Nat) (wd : List UInt8) (w : World) : Prop where
  rb : RB b ⟨0, 0, 0⟩ (.slice none 0 0) 0 (.slice none 0 0) 0 0 i (Base.mk wd) w
  rr : RR d L (Base.mk T) j ⟨#[]⟩ false w
  bel : Below w0.heap.size w0 w
  bb : w0.heap.size ≤ b
  db : w0.heap.size ≤ d
def St (w0 : World) (b d : Nat) (L : Lim) (T : List UInt8) (w : World) : Prop := (∃ j lv wv, Al w0 b d L (T.drop j) T j j lv wv w ∧ j ≤ T.length) ∨ ∃ T' j wd, Td w0 b d L T' j wd w
def Fed (w0 : World) (b d : Nat) (L : Lim) (T p : List UInt8) (w : World) : Prop := (∃ j lv wv, Al w0 b d L (T.drop j ++ p) T j j lv wv w ∧ j ≤ T.length) ∨ ∃ T' j wd, Td w0 b d L T' j wd w
def Half (w0 : World) (b d : Nat) (L : Lim) (T : List UInt8) (v : Value) (ws : List (List UInt8)) (x : Int) (w : World) : Prop :=
  (∃ j k lv wv, x = 0 ∧ ws = [] ∧ v = .slice none 0 0 ∧ nextS L (T.drop j) = .more k ∧ j ≤ T.length ∧ Al w0 b d L ((T.drop j).drop k) T (j + k) j lv wv w) ∨
  (∃ j k wd, x = 2 ∧ ws = [] ∧ v = .slice none 0 0 ∧ nextS L (T.drop j) = .fault k wd ∧ j ≤ T.length ∧ Ha w0 b d L T (j + k) j wd w) ∨
  (∃ j k lv, x = 1 ∧ nextS L (T.drop j) = .one k ws ∧ j ≤ T.length ∧ WS w v ws ∧ (∀ g, v.ownBlock = some g → w0.heap.size ≤ g) ∧ Al w0 b d L ((T.drop j).drop k) T (j + k) j lv (.slice none 0 0) w) ∨
  (∃ T' j wd, x = 2 ∧ ws = [] ∧ v = .slice none 0 0 ∧ Td w0 b d L T' j wd w)
/- the words that were handed out, beside the readers -/
def Out (w0 : World) (v : Value) (n : Nat) (w : World) : Prop := (v = .slice none 0 0 ∧ n = 0) ∨ ∃ g cap cur, v = .slice (some ⟨g, 0, none⟩) n cap ∧ w.heap[g]? = some (.cells cur 9 (0, 0)) ∧ n ≤ cur.size ∧ w0.heap.size ≤ g
def Sto (w0 : World) (b d : Nat) (L : Lim) (T : List UInt8) (v : Value) (n : Nat) (w : World) : Prop :=
  Out w0 v n w ∧ ((∃ j lv wv, Al w0 b d L (T.drop j) T j j lv wv w ∧ j ≤ T.length ∧ ∀ g, v.ownBlock = some g → wv.ownBlock ≠ some g) ∨ ∃ T' j wd, Td w0 b d L T' j wd w)
theorem Sto.st {w0 : World} {b d : Nat} {L : Lim} {T : List UInt8} {v : Value} {n : Nat} {w : World} (h : Sto w0 b d L T v n w) : St w0 b d L T w := by
  rcases h.2 with ⟨j, lv, wv, h1, h2, _⟩ | h
  · exact Or.inl ⟨j, lv, wv, h1, h2⟩
  · exact Or.inr h
section
variable {w0 : World} {b d : Nat} {L : Lim} {T : List UInt8} {w w' : World}
theorem al_below {P : List UInt8} {i j : Nat} {lv wv : Value} (h : Al w0 b d L P T i j lv wv w) (hb : Below w.heap.size w w') : Al w0 b d L P T i j lv wv w' :=
  ⟨ps_below h.ps hb, rr_below h.rr hb, h.lb, h.wb, h.bel.trans (hb.mono h.bel.size), h.bb, h.db⟩
theorem td_below {T' : ByteArray} {j : Nat} {wd : List UInt8} (h : Td w0 b d L T' j wd w) (hb : Below w.heap.size w w') : Td w0 b d L T' j wd w' :=
  ⟨rb_later h.rb hb, h.wn, rr_below h.rr hb, h.bel.trans (hb.mono h.bel.size), h.bb, h.db⟩
theorem st_below (h : St w0 b d L T w) (hb : Below w.heap.size w w') : St w0 b d L T w' := by
  rcases h with ⟨j, lv, wv, h1, h2⟩ | ⟨T', j, wd, h1⟩
  · exact Or.inl ⟨j, lv, wv, al_below h1 hb, h2⟩
  · exact Or.inr ⟨T', j, wd, td_below h1 hb⟩
theorem st_bel (h : St w0 b d L T w) : Below w0.heap.size w0 w := by
  rcases h with ⟨j, lv, wv, h1, h2⟩ | ⟨T', j, wd, h1⟩
  · exact h1.bel
  · exact h1.bel
theorem sto_below {v : Value} {n : Nat} (h : Sto w0 b d L T v n w) (hb : Below w.heap.size w w') : Sto w0 b d L T v n w' := by
  refine ⟨?_, ?_⟩
  · rcases h.1 with h1 | ⟨g, cap, cur, h1, h2, h3⟩
    · exact Or.inl h1
    · exact Or.inr ⟨g, cap, cur, h1, (hb.block g (lt_of h2)).trans h2, h3⟩
  · rcases h.2 with ⟨j, lv, wv, h1, h2, h3⟩ | ⟨T', j, wd, h1⟩
    · exact Or.inl ⟨j, lv, wv, al_below h1 hb, h2, h3⟩
    · exact Or.inr ⟨T', j, wd, td_below h1 hb⟩
/- what the document's reader alone turns -/
theorem kp_doc {s : ByteArray} {j : Nat} {x : ByteArray} {e : Bool} (h : RR d L s j x e w) (hf : Fr (fun q => q = d) w w') : Kp w w' := by
  intro g cs ty fz hg ht
  refine hf.block g (lt_of hg) (fun q => ?_)
  subst q
  unfold RR at h
  rw [h] at hg
  injection hg with hg
  injection hg with _ hg
  subst hg
  rcases ht with q | q | q <;> cases q
/- what the code's reader alone turns -/
theorem rr_code {P : List UInt8} {i j : Nat} {lv wv : Value} (h : Al w0 b d L P T i j lv wv w) (hf : Fr (FB b wv) w w') : RR d L (Base.mk T) j ⟨#[]⟩ false w' := by
  obtain ⟨t, k, ws, wanted, read, h1, _⟩ := h.ps
  refine (hf.block d (lt_of h.rr) (fun q => ?_)).trans h.rr
  rcases q with q | q
  · exact kind_ne h.rr h1.rb (by decide) q
  · obtain ⟨c, hc⟩ := owns_kind h1.wk d q
    exact kind_ne h.rr hc (by decide) rfl
theorem fb_code {P : List UInt8} {i j : Nat} {lv wv : Value} (h : Al w0 b d L P T i j lv wv w) (hf : Fr (FB b wv) w w') : Below w0.heap.size w0 w' :=
  fr_below h.bel hf (fun q hq => by
    rcases hq with q | q
    · rw [q]; exact h.bb
    · exact h.wb _ q)
/- Feed of the code -/
theorem feed1 (p : List UInt8) (h : St w0 b d L T w) (hz : T.length + p.length ≤ 67108864) (h8 : 8 ≤ w0.heap.size) :
    Calls Tryz.prog 21 #[.pointer (some ⟨b, 0, none⟩), .string (Base.mk p)] w fun e w' => e = .returned (.tuple #[]) ∧ Fed w0 b d L T p w' := by
  rcases h with ⟨j, lv, wv, h, hj⟩ | ⟨T', j, wd, h⟩
  · refine (feed_call b L (T.drop j) j lv wv (Base.mk p) w h.ps (by rw [mk_size, List.length_drop]; omega) (Nat.le_trans h8 h.bel.size)).mono ?_
    rintro e w' ⟨rfl, lv', q1, q2, q3⟩
    refine ⟨rfl, Or.inl ⟨j, lv', wv, ⟨q1, ?_, fun g hg => ?_, h.wb, fr_below h.bel q3 (fun q hq => ?_), h.bb, h.db⟩, hj⟩⟩
    · obtain ⟨t, k, ws, wanted, read, h1, _⟩ := h.ps
      refine (q3.block d (lt_of h.rr) (fun q => ?_)).trans h.rr
      rcases q with q | q
      · exact kind_ne h.rr h1.rb (by decide) q
      · obtain ⟨c, hc⟩ := by_kind h1.sl d q
        exact kind_ne h.rr hc (by decide) rfl
    · rcases q2 g hg with q | q
      · exact h.lb g q
      · exact Nat.le_trans h.bel.size q
    · rcases hq with q | q
      · rw [q]; exact h.bb
      · exact h.lb _ q
  · refine (feed_told b _ _ _ _ _ _ _ _ (mk_empty h.wn) (Base.mk p) w h.rb).mono ?_
    rintro e w' ⟨rfl, rfl⟩
    exact ⟨rfl, Or.inr ⟨T', j, wd, h⟩⟩
/- Next of the code -/
theorem next1 (hL : Lok L) (h : St w0 b d L T w) (hz : T.length ≤ 67108864) (hh : Has w0) (h8 : 8 ≤ b) :
    Calls Tryz.prog 23 #[.pointer (some ⟨b, 0, none⟩)] w fun e w' => ∃ v ws x, e = .returned (.tuple #[v, .int .i64 x]) ∧ Half w0 b d L T v ws x w' := by
  rcases h with ⟨j, lv, wv, h, hj⟩ | ⟨T', j, wd, h⟩
  · have hlen : (T.drop j).length = T.length - j := List.length_drop
    refine (next_one_call b L (T.drop j) j lv wv w hL h.ps (by omega) (hh.later h.bel) h8 (Or.inr Double2.double_means)).mono ?_
    intro e w' hN
    cases hn : nextS L (T.drop j) with
    | more k =>
      rw [hn] at hN
      obtain ⟨rfl, lv', wv', q1, q2, q3, q4⟩ := hN
      refine ⟨_, [], 0, rfl, Or.inl ⟨j, k, lv', wv', rfl, rfl, rfl, hn, hj, ⟨q1, rr_code h q4, fun g hg => h.lb g (q2 g hg), fun g hg => ?_, fb_code h q4, h.bb, h.db⟩⟩⟩
      rcases q3 g hg with q | q
      · exact h.wb g q
      · exact Nat.le_trans h.bel.size q
    | fault k wd =>
      rw [hn] at hN
      obtain ⟨rfl, q1, q2⟩ := hN
      exact ⟨_, [], 2, rfl, Or.inr (Or.inl ⟨j, k, wd, rfl, rfl, rfl, hn, hj, ⟨q1, rr_code h q2, fb_code h q2, h.bb, h.db⟩⟩)⟩
    | one k ws =>
      rw [hn] at hN
      obtain ⟨v, rfl, q1, q2, lv', q3, q4, q5⟩ := hN
      refine ⟨v, ws, 1, rfl, Or.inr (Or.inr (Or.inl ⟨j, k, lv', rfl, hn, hj, q1, fun g hg => ?_, ⟨q3, rr_code h q5, fun g hg => h.lb g (q4 g hg), fun g hg => (by cases hg), fb_code h q5, h.bb, h.db⟩⟩))⟩
      rcases q2 g hg with q | q
      · exact h.wb g q
      · exact Nat.le_trans h.bel.size q
  · refine (next_told b _ _ _ _ _ _ _ _ (mk_empty h.wn) w h.rb).mono ?_
    rintro e w' ⟨rfl, hb⟩
    exact ⟨_, [], 2, rfl, Or.inr (Or.inr (Or.inr ⟨T', j, wd, rfl, rfl, rfl, td_below h hb⟩))⟩
theorem sr_nil (w : World) : SR w (.slice none 0 0) [] := ⟨none, 0, rfl, Or.inl rfl⟩
theorem ws_doc {s : ByteArray} {j : Nat} {x : ByteArray} {e : Bool} {v : Value} {ws : List (List UInt8)} (hr : RR d L s j x e w) (h : WS w v ws) (hf : Fr (fun q => q = d) w w') : WS w' v ws :=
  ws_keep h (fun g cs fz hg => kp_doc hr hf g cs 9 fz hg (Or.inr (Or.inl rfl)))
theorem out_ws {v : Value} {ws : List (List UInt8)} (h : WS w v ws) (hv : ∀ g, v.ownBlock = some g → w0.heap.size ≤ g) : Out w0 v ws.length w := by
  rcases h.2 with ⟨h1, h2⟩ | ⟨g, cap, cur, h1, h2, h3, h4, h5, h6, h7⟩
  · exact Or.inl ⟨h1, h2⟩
  · exact Or.inr ⟨g, cap, cur, h1, h3, by omega, hv g (by rw [h1]; rfl)⟩
theorem fb_doc (h : Below w0.heap.size w0 w) (hd : w0.heap.size ≤ d) (hf : Fr (fun q => q = d) w w') : Below w0.heap.size w0 w' :=
  fr_below h hf (fun q hq => by rw [hq]; exact hd)
theorem drop_lt {k j : Nat} (hn : k ≤ (T.drop j).length) (hj : j ≤ T.length) : j + k ≤ T.length ∧ T.drop (j + k) = (T.drop j).drop k := by
  have hl : (T.drop j).length = T.length - j := List.length_drop
  exact ⟨by omega, by rw [List.drop_drop]⟩
/- a reader of the document's that has told its fault -/
set_option maxRecDepth 100000 in
theorem rnext_told (d : Nat) (L : Lim) (s : ByteArray) (a : Nat) (x : ByteArray) (w : World) (h : RR d L s a x true w) :
    Calls Tryz.prog 24 #[.pointer (some ⟨d, 0, none⟩)] w fun e w' => e = .returned (.tuple #[.slice none 0 0, .int .i64 2]) ∧ Below w.heap.size w w' := by
  have i6 : w.cell? ⟨d, 6, none⟩ = some (.bool true) := Lib.cell_of_heap h 6
  clear h
  go_enter Tryz.func24, Tryz.ntmps24
  go_wp2_with fail
  go_loopg [] 0 (fun g wx => wx = w)
  case atStart => rfl
  case round =>
    subst hrel
    go_wp2_with fail
    go_quiet (fail)
    go_wp2_with fail
    go_ret2
    exact ⟨rfl, bdN _ _⟩
/- Next of the document's -/
theorem next2 {v : Value} {ws : List (List UInt8)} {x : Int} (hL : Lok L) (h : Half w0 b d L T v ws x w) (hz : T.length ≤ 67108864) (h8 : 8 ≤ w0.heap.size) :
    Calls Tryz.prog 24 #[.pointer (some ⟨d, 0, none⟩)] w fun e w' => ∃ v', e = .returned (.tuple #[v', .int .i64 x]) ∧ SR w' v ws ∧ SR w' v' ws ∧ ws.length ≤ 67108864 ∧ Sto w0 b d L T v ws.length w' := by
  rcases h with ⟨j, k, lv, wv, rfl, rfl, rfl, hn, hj, h⟩ | ⟨j, k, wd, rfl, rfl, rfl, hn, hj, h⟩ | ⟨j, k, lv, rfl, hn, hj, hw, hv, h⟩ | ⟨T', j, wd, rfl, rfl, rfl, h⟩
  · refine (rnext_call d L hL (Base.mk T) j (by rw [mk_size]; exact hj) (by rw [mk_size]; exact hz) w (Nat.le_trans h8 h.bel.size) h.rr).mono ?_
    intro e w' hN
    rw [bs_mk, hn] at hN
    obtain ⟨rfl, q1, q2⟩ := hN
    have ha := next_app (L := L) (T.drop j).length (T.drop j) (Nat.le_refl _)
    rw [hn] at ha
    obtain ⟨g1, g2⟩ := drop_lt (ha []).1 hj
    exact ⟨_, rfl, sr_nil _, sr_nil _, Nat.zero_le _, Or.inl ⟨rfl, rfl⟩, Or.inl ⟨j + k, lv, wv, ⟨by rw [g2]; exact ps_keep h.ps (kp_doc h.rr q2), q1, h.lb, h.wb, fb_doc h.bel h.db q2, h.bb, h.db⟩, g1, fun g hg => (by cases hg)⟩⟩
  · refine (rnext_call d L hL (Base.mk T) j (by rw [mk_size]; exact hj) (by rw [mk_size]; exact hz) w (Nat.le_trans h8 h.bel.size) h.rr).mono ?_
    intro e w' hN
    rw [bs_mk, hn] at hN
    obtain ⟨rfl, q1, q2⟩ := hN
    exact ⟨_, rfl, sr_nil _, sr_nil _, Nat.zero_le _, Or.inl ⟨rfl, rfl⟩, Or.inr ⟨_, j + k, wd, ⟨(kp_doc h.rr q2 b _ _ _ h.rb (Or.inr (Or.inr rfl))).trans h.rb, next_word (L := L) _ _ (Nat.le_refl _) _ _ hn, q1, fb_doc h.bel h.db q2, h.bb, h.db⟩⟩⟩
  · refine (rnext_call d L hL (Base.mk T) j (by rw [mk_size]; exact hj) (by rw [mk_size]; exact hz) w (Nat.le_trans h8 h.bel.size) h.rr).mono ?_
    intro e w' hN
    rw [bs_mk, hn] at hN
    obtain ⟨v', rfl, q0, q3, q1, q2⟩ := hN
    have ha := next_app (L := L) (T.drop j).length (T.drop j) (Nat.le_refl _)
    rw [hn] at ha
    obtain ⟨g1, g2⟩ := drop_lt (ha []).2.1 hj
    have hw' := ws_doc h.rr hw q2
    exact ⟨v', rfl, sr_ws hw', sr_ws q0, Nat.le_trans (WholeMath.next_args _ _ (Nat.le_refl _) _ _ hn) (by have := hL.args.2; omega), out_ws hw' hv, Or.inl ⟨j + k, lv, .slice none 0 0, ⟨by rw [g2]; exact ps_keep h.ps (kp_doc h.rr q2), q1, h.lb, h.wb, fb_doc h.bel h.db q2, h.bb, h.db⟩, g1, fun g hg e => (by cases e)⟩⟩
  · refine (rnext_told d L T' j _ w h.rr).mono ?_
    rintro e w' ⟨rfl, hb⟩
    exact ⟨_, rfl, sr_nil _, sr_nil _, Nat.zero_le _, Or.inl ⟨rfl, rfl⟩, Or.inr ⟨T', j, wd, td_below h hb⟩⟩
end
end Go.Proofs.YtfkilbhhpipjbaaGreatDoor.StepM
