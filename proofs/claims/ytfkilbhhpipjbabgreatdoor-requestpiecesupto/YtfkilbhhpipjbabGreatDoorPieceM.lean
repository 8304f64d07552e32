/- A stream that comes in pieces: what is kept between two calls. -/
import Derived.Test.YtfkilbhhpipjbabGreatDoorBegins
namespace Go.Proofs.YtfkilbhhpipjbabGreatDoor.PieceM
open Go.RowKit
open Go.Proofs.YtfkilbhhpipjbabGreatDoor.TextMath
open Go.Proofs.YtfkilbhhpipjbabGreatDoor.ReqMath
open Go.Proofs.YtfkilbhhpipjbabGreatDoor.Base
open Go.Proofs.YtfkilbhhpipjbabGreatDoor.Small
open Go.Proofs.YtfkilbhhpipjbabGreatDoor.Bulk
open Go.Proofs.YtfkilbhhpipjbabGreatDoor.Bulk2
open Go.Proofs.YtfkilbhhpipjbabGreatDoor.BulkAny
open Go.Proofs.YtfkilbhhpipjbabGreatDoor.Pend
open Go.Proofs.YtfkilbhhpipjbabGreatDoor.Next
open Go.Proofs.YtfkilbhhpipjbabGreatDoor.Feed
open Go.Proofs.YtfkilbhhpipjbabGreatDoor.Whole
open Go.Proofs.YtfkilbhhpipjbabGreatDoor.Lists
set_option linter.unusedVariables false

abbrev Rs := List (List (List UInt8))
/- requests in memory, apart from a value's own block -/
def WG (w : World) (v wv : Value) (reqs : Rs) : Prop := ∃ us : List Value, w.ownsRow 8 24 1 v us.length us ∧ us.length = reqs.length ∧ (∀ (k : Nat) u r, us[k]? = some u → reqs[k]? = some r → WS w u r) ∧ ∀ u ∈ us, ∀ g, u.ownBlock = some g → wv.ownBlock ≠ some g
theorem wg_wa {w : World} {v wv : Value} {reqs : Rs} (h : WG w v wv reqs) : WA w v reqs := by
  obtain ⟨us, h1, h2, h3, _⟩ := h
  exact ⟨us, h1, h2, h3⟩
theorem wg_nil {w : World} {v : Value} {reqs : Rs} (h : WA w v reqs) : WG w v (.slice none 0 0) reqs := by
  obtain ⟨us, h1, h2, h3⟩ := h
  exact ⟨us, h1, h2, h3, fun u hu g hg e => by cases e⟩
theorem wg_keep {w w' : World} {v wv wv' : Value} {reqs : Rs} (h : WG w v wv reqs) (hk : ∀ (g : Nat) (cs : Array Value) (ty : TypeId) (fz : Nat × Nat), w.heap[g]? = some (.cells cs ty fz) → (ty = 24 ∨ (ty = 9 ∧ wv.ownBlock ≠ some g)) → w'.heap[g]? = w.heap[g]?)
    (hw : ∀ g, wv'.ownBlock = some g → wv.ownBlock = some g ∨ w.heap.size ≤ g) : WG w' v wv' reqs := by
  obtain ⟨us, h1, h2, h3, h4⟩ := h
  refine ⟨us, ?_, h2, fun k u r hu hr => ws_later (h3 k u r hu hr) (fun g hg => ?_), fun u hu g hg e => ?_⟩
  · refine ⟨h1.1, ?_⟩
    rcases h1.2 with x | ⟨g, cp, cur, x1, x2, x3, x4⟩
    · exact Or.inl x
    · exact Or.inr ⟨g, cp, cur, x1, x2, (hk g _ _ _ x3 (Or.inl rfl)).trans x3, x4⟩
  · obtain ⟨c, hc⟩ := owns_kind (h3 k u r hu hr) g hg
    exact hk g _ _ _ hc (Or.inr ⟨rfl, h4 u (List.mem_of_getElem? hu) g hg⟩)
  · obtain ⟨k, hk2, rfl⟩ := List.getElem_of_mem hu
    have hkr : k < reqs.length := by omega
    obtain ⟨c, hc⟩ := owns_kind (h3 k _ _ (List.getElem?_eq_getElem hk2) (List.getElem?_eq_getElem hkr)) g hg
    rcases hw g e with e2 | e2
    · exact h4 _ (List.getElem_mem hk2) g hg e2
    · have := lt_of hc
      omega
/- what a call of Next may turn -/
theorem keep_next {b : Nat} {L : Lim} {P : List UInt8} {used : Nat} {lv wv : Value} {w w' : World} (hp : PS b L P used lv wv w) (hf : Fr (FB b wv) w w') (g : Nat) (cs : Array Value) (ty : TypeId) (fz : Nat × Nat) (hg : w.heap[g]? = some (.cells cs ty fz)) (ht : ty = 24 ∨ (ty = 9 ∧ wv.ownBlock ≠ some g)) : w'.heap[g]? = w.heap[g]? := by
  obtain ⟨t, k, ws, wanted, read, h1, _⟩ := hp
  refine hf.block g (lt_of hg) (fun e => ?_)
  rcases e with e | e
  · have hr := h1.rb
    unfold RB at hr
    rw [← e, hg] at hr
    injection hr with hr
    injection hr with q1 q2
    subst q2
    rcases ht with ht | ⟨ht, _⟩ <;> cases ht
  · obtain ⟨c, hc⟩ := owns_kind h1.wk g e
    rw [hg] at hc
    injection hc with hc
    injection hc with q1 q2
    subst q2
    rcases ht with ht | ⟨_, ht⟩
    · cases ht
    · exact ht e
/- what a call of Feed may turn -/
theorem keep_feed {b : Nat} {L : Lim} {P : List UInt8} {used : Nat} {lv wv : Value} {w w' : World} (hp : PS b L P used lv wv w) (hf : Fr (fun q => q = b ∨ slBlock lv = some q) w w') (g : Nat) (cs : Array Value) (ty : TypeId) (fz : Nat × Nat) (hg : w.heap[g]? = some (.cells cs ty fz)) (ht : ty = 24 ∨ ty = 9) : w'.heap[g]? = w.heap[g]? := by
  obtain ⟨t, k, ws, wanted, read, h1, _⟩ := hp
  refine hf.block g (lt_of hg) (fun e => ?_)
  rcases e with e | e
  · have hr := h1.rb
    unfold RB at hr
    rw [← e, hg] at hr
    injection hr with hr
    injection hr with q1 q2
    subst q2
    rcases ht with ht | ht <;> cases ht
  · obtain ⟨c, hc⟩ := by_kind h1.sl g e
    rw [hg] at hc
    injection hc with hc
    injection hc with q1 q2
    subst q2
    rcases ht with ht | ht <;> cases ht
/- a reader that has told no fault -/
structure LS (w0 : World) (b : Nat) (L : Lim) (S : List UInt8) (j : Nat) (lv wv gv : Value) (reqs : Rs) (w : World) : Prop where
  ps : PS b L (S.drop j) j lv wv w
  wg : WG w gv wv reqs
  lb : ∀ g, slBlock lv = some g → w0.heap.size ≤ g
  wb : ∀ g, wv.ownBlock = some g → w0.heap.size ≤ g
  gb : ∀ g, gv.ownBlock = some g → w0.heap.size ≤ g
  rl : reqs.length ≤ j
  jl : j ≤ S.length
  tell : ∀ t, wholeS L (S ++ t) = ⟨reqs ++ (wholeS L (S.drop j ++ t)).reqs, (wholeS L (S.drop j ++ t)).word, j + (wholeS L (S.drop j ++ t)).used⟩
  bel : Below w0.heap.size w0 w
  bb : w0.heap.size ≤ b
/- one that has -/
structure TS (w0 : World) (b : Nat) (L : Lim) (S : List UInt8) (j : Nat) (wd : List UInt8) (gv : Value) (reqs : Rs) (w : World) : Prop where
  rb : RB b ⟨0, 0, 0⟩ (.slice none 0 0) 0 (.slice none 0 0) 0 0 j (mk wd) w
  wn : wd ≠ []
  wa : WA w gv reqs
  tell : ∀ t, wholeS L (S ++ t) = ⟨reqs, wd, j⟩
  bel : Below w0.heap.size w0 w
section
variable {w0 : World} {b : Nat} {L : Lim} {S : List UInt8} {j : Nat} {lv wv gv : Value} {reqs : Rs} {w : World}
theorem fr_below {F : Nat → Prop} {w' : World} (h : Below w0.heap.size w0 w) (hf : Fr F w w') (hF : ∀ q, F q → w0.heap.size ≤ q) : Below w0.heap.size w0 w' :=
  ((Fr.of_below (F := F) h).trans hf).below (fun x hx => hF x hx)
theorem LS.feed {w' : World} {lv' : Value} {p : List UInt8} (h : LS w0 b L S j lv wv gv reqs w) (hp : PS b L (S.drop j ++ p) j lv' wv w') (hs : ∀ g, slBlock lv' = some g → slBlock lv = some g ∨ w.heap.size ≤ g) (hf : Fr (fun q => q = b ∨ slBlock lv = some q) w w') : LS w0 b L (S ++ p) j lv' wv gv reqs w' := by
  have e : (S ++ p).drop j = S.drop j ++ p := List.drop_append_of_le_length h.jl
  refine ⟨by rw [e]; exact hp, wg_keep h.wg (fun g cs ty fz hg ht => keep_feed h.ps hf g cs ty fz hg (ht.imp id And.left)) (fun g hg => Or.inl hg), fun g hg => ?_, h.wb, h.gb, h.rl, by rw [List.length_append]; have := h.jl; omega, fun t => ?_, fr_below h.bel hf (fun q hq => ?_), h.bb⟩
  · rcases hs g hg with q | q
    · exact h.lb g q
    · exact Nat.le_trans h.bel.size q
  · rw [List.append_assoc, h.tell (p ++ t), e, List.append_assoc]
  · rcases hq with q | q
    · rw [q]; exact h.bb
    · exact h.lb _ q
theorem LS.more {w' : World} {lv' wv' : Value} {k : Nat} (h : LS w0 b L S j lv wv gv reqs w) (hn : nextS L (S.drop j) = .more k) (hp : PS b L ((S.drop j).drop k) (j + k) lv' wv' w') (hs : ∀ g, slBlock lv' = some g → slBlock lv = some g) (hw : ∀ g, wv'.ownBlock = some g → wv.ownBlock = some g ∨ w.heap.size ≤ g) (hf : Fr (FB b wv) w w') :
    LS w0 b L S (j + k) lv' wv' gv reqs w' ∧ nextS L (S.drop (j + k)) = .more 0 := by
  have ha := next_app (L := L) (S.drop j).length (S.drop j) (Nat.le_refl _)
  rw [hn] at ha
  have hk : k ≤ (S.drop j).length := (ha []).1
  have hl : (S.drop j).length = S.length - j := List.length_drop
  have hjl := h.jl
  have e : S.drop (j + k) = (S.drop j).drop k := by rw [List.drop_drop]
  refine ⟨⟨by rw [e]; exact hp, wg_keep h.wg (keep_next h.ps hf) hw, fun g hg => h.lb g (hs g hg), fun g hg => ?_, h.gb, Nat.le_trans h.rl (Nat.le_add_right _ _), by omega, fun t => ?_, fr_below h.bel hf (fun q hq => ?_), h.bb⟩, ?_⟩
  · rcases hw g hg with q | q
    · exact h.wb g q
    · exact Nat.le_trans h.bel.size q
  · have e2 : (S.drop j ++ t).drop k = S.drop (j + k) ++ t := by rw [List.drop_append_of_le_length hk, e]
    have h2 := whole_add (L := L) (x := S.drop j ++ t) (k := k) (by rw [e2, e]; exact (ha t).2)
    rw [e2] at h2
    rw [h.tell t, h2]
    simp [Nat.add_assoc]
  · rcases hq with q | q
    · rw [q]; exact h.bb
    · exact h.wb _ q
  · have h3 := (ha []).2
    rw [List.append_nil, List.append_nil, hn, ← e] at h3
    cases hq : nextS L (S.drop (j + k)) with
    | more m => rw [hq] at h3; unfold NR.add at h3; injection h3 with h3; congr 1; omega
    | fault m x => rw [hq] at h3; unfold NR.add at h3; cases h3
    | one m x => rw [hq] at h3; unfold NR.add at h3; cases h3
theorem LS.fault {w' : World} {k : Nat} {wd : List UInt8} (h : LS w0 b L S j lv wv gv reqs w) (hn : nextS L (S.drop j) = .fault k wd) (hr : RB b ⟨0, 0, 0⟩ (.slice none 0 0) 0 (.slice none 0 0) 0 0 (j + k) (Base.mk wd) w') (hf : Fr (FB b wv) w w') : TS w0 b L S (j + k) wd gv reqs w' := by
  have ha := next_app (L := L) (S.drop j).length (S.drop j) (Nat.le_refl _)
  rw [hn] at ha
  refine ⟨hr, next_word (L := L) _ _ (Nat.le_refl _) _ _ hn, wg_wa (wg_keep (wv' := .slice none 0 0) h.wg (keep_next h.ps hf) (fun g hg => by cases hg)), fun t => ?_, fr_below h.bel hf (fun q hq => ?_)⟩
  · rw [h.tell t, whole_fault (ha t).2, List.append_nil]
  · rcases hq with q | q
    · rw [q]; exact h.bb
    · exact h.wb _ q
/- one request: what stands ahead of the list's append -/
theorem LS.one {w' : World} {lv' : Value} {k : Nat} {ws : List (List UInt8)} (h : LS w0 b L S j lv wv gv reqs w) (hn : nextS L (S.drop j) = .one k ws) (hs : ∀ g, slBlock lv' = some g → slBlock lv = some g) (hf : Fr (FB b wv) w w') :
    0 < k ∧ j + k ≤ S.length ∧ WA w' gv reqs ∧ Below w0.heap.size w0 w' ∧ (∀ g, slBlock lv' = some g → w0.heap.size ≤ g) ∧ S.drop (j + k) = (S.drop j).drop k ∧
    ∀ t, wholeS L (S ++ t) = ⟨(reqs ++ [ws]) ++ (wholeS L (S.drop (j + k) ++ t)).reqs, (wholeS L (S.drop (j + k) ++ t)).word, (j + k) + (wholeS L (S.drop (j + k) ++ t)).used⟩ := by
  have ha := next_app (L := L) (S.drop j).length (S.drop j) (Nat.le_refl _)
  rw [hn] at ha
  have hk : k ≤ (S.drop j).length := (ha []).2.1
  have hl : (S.drop j).length = S.length - j := List.length_drop
  have hjl := h.jl
  have e : S.drop (j + k) = (S.drop j).drop k := by rw [List.drop_drop]
  refine ⟨(ha []).1, by omega, wg_wa (wg_keep (wv' := .slice none 0 0) h.wg (keep_next h.ps hf) (fun g hg => by cases hg)), fr_below h.bel hf (fun q hq => ?_), fun g hg => h.lb g (hs g hg), e, fun t => ?_⟩
  · rcases hq with q | q
    · rw [q]; exact h.bb
    · exact h.wb _ q
  · have e2 : (S.drop j ++ t).drop k = S.drop (j + k) ++ t := by rw [List.drop_append_of_le_length hk, e]
    rw [h.tell t, whole_one (ha t).2.2.1, e2]
    simp [Nat.add_assoc]
/- at the end -/
theorem LS.done (h : LS w0 b L S j lv wv gv reqs w) (hn : nextS L (S.drop j) = .more 0) : wholeS L S = ⟨reqs, [], j⟩ := by
  have h1 := h.tell []
  rw [List.append_nil, List.append_nil, whole_more hn, List.append_nil] at h1
  exact h1
theorem TS.done {wd : List UInt8} (h : TS w0 b L S j wd gv reqs w) : wholeS L S = ⟨reqs, wd, j⟩ := by
  have h1 := h.tell []
  rw [List.append_nil] at h1
  exact h1
theorem TS.feed {wd : List UInt8} (h : TS w0 b L S j wd gv reqs w) (p : List UInt8) : TS w0 b L (S ++ p) j wd gv reqs w := ⟨h.rb, h.wn, h.wa, fun t => by rw [List.append_assoc]; exact h.tell _, h.bel⟩
theorem TS.below {wd : List UInt8} {w' : World} (h : TS w0 b L S j wd gv reqs w) (hb : Below w.heap.size w w') : TS w0 b L S j wd gv reqs w' :=
  ⟨rb_later h.rb hb, h.wn, wg_wa (wg_keep (wv := .slice none 0 0) (wv' := .slice none 0 0) (wg_nil h.wa) (fun g cs ty fz hg _ => hb.block g (lt_of hg)) (fun g hg => by cases hg)), h.tell, h.bel.trans (hb.mono h.bel.size)⟩
end
/- the pieces so far -/
def upTo (l : List (List UInt8)) (i : Nat) : List UInt8 := (l.take i).flatten
theorem upTo_succ (l : List (List UInt8)) (i : Nat) (h : i < l.length) : upTo l (i + 1) = upTo l i ++ l[i] := by
  unfold upTo
  rw [List.take_succ_eq_append_getElem h, List.flatten_append]
  simp
theorem upTo_all (l : List (List UInt8)) : upTo l l.length = l.flatten := by unfold upTo; rw [List.take_length]
theorem flat_le : ∀ l : List (List UInt8), l.flatten.length ≤ (l.map (fun x => x.length + 1)).sum
  | [] => Nat.le_refl _
  | a :: r => by
    have := flat_le r
    simp only [List.flatten_cons, List.length_append, List.map_cons, List.sum_cons]
    omega
theorem upTo_le (l : List (List UInt8)) (i : Nat) : (upTo l i).length ≤ l.flatten.length := by
  unfold upTo
  have e : l.flatten = (l.take i).flatten ++ (l.drop i).flatten := by rw [← List.flatten_append, List.take_append_drop]
  rw [e, List.length_append]
  omega
theorem len_le : ∀ l : List (List UInt8), l.length ≤ (l.map (fun x => x.length + 1)).sum
  | [] => Nat.le_refl _
  | a :: r => by
    have := len_le r
    simp only [List.length_cons, List.map_cons, List.sum_cons]
    omega
/- the two states together -/
def St (w0 : World) (b : Nat) (L : Lim) (S : List UInt8) (gv : Value) (w : World) : Prop := (∃ j lv wv reqs, LS w0 b L S j lv wv gv reqs w ∧ nextS L (S.drop j) = .more 0) ∨ ∃ j wd reqs, TS w0 b L S j wd gv reqs w
def St2 (w0 : World) (b : Nat) (L : Lim) (S : List UInt8) (g : Nat) (gv : Value) (w : World) : Prop := (∃ j lv wv reqs, LS w0 b L S j lv wv gv reqs w ∧ S.length ≤ j + g) ∨ ∃ j wd reqs, TS w0 b L S j wd gv reqs w
structure One (w0 : World) (b : Nat) (L : Lim) (S : List UInt8) (j k : Nat) (lv gv : Value) (reqs : Rs) (ws : List (List UInt8)) (v : Value) (w : World) : Prop where
  hk : 0 < k
  hjk : j + k ≤ S.length
  rl : reqs.length ≤ j
  ps : PS b L (S.drop (j + k)) (j + k) lv (.slice none 0 0) w
  wa : WA w gv reqs
  row : WS w v ws
  bel : Below w0.heap.size w0 w
  lb : ∀ g, slBlock lv = some g → w0.heap.size ≤ g
  gb : ∀ g, gv.ownBlock = some g → w0.heap.size ≤ g
  bb : w0.heap.size ≤ b
  tell : ∀ t, wholeS L (S ++ t) = ⟨(reqs ++ [ws]) ++ (wholeS L (S.drop (j + k) ++ t)).reqs, (wholeS L (S.drop (j + k) ++ t)).word, (j + k) + (wholeS L (S.drop (j + k) ++ t)).used⟩
theorem mk_empty {l : List UInt8} (h : l ≠ []) : (Base.mk l).toList.isEmpty = false := Begins.mk_empty h
theorem feed_st {w0 : World} {b : Nat} {L : Lim} {S : List UInt8} {gv : Value} {w : World} (h : St w0 b L S gv w) (p : List UInt8) (hz : S.length + p.length ≤ 67108864) (h8 : 8 ≤ w0.heap.size) :
    Calls Tryz.prog 8 #[.pointer (some ⟨b, 0, none⟩), .string (Base.mk p)] w fun e w' => e = .returned (.tuple #[]) ∧ St2 w0 b L (S ++ p) (S ++ p).length gv w' := by
  rcases h with ⟨j, lv, wv, reqs, hl, _⟩ | ⟨j, wd, reqs, ht⟩
  · refine (feed_call b L (S.drop j) j lv wv (Base.mk p) w hl.ps (by rw [mk_size, List.length_drop]; omega) (Nat.le_trans h8 hl.bel.size)).mono ?_
    rintro e w' ⟨rfl, lv', q1, q2, q3⟩
    exact ⟨rfl, Or.inl ⟨j, lv', wv, reqs, hl.feed q1 q2 q3, by omega⟩⟩
  · refine (feed_told b _ _ _ _ _ _ _ _ (mk_empty ht.wn) (Base.mk p) w ht.rb).mono ?_
    rintro e w' ⟨rfl, rfl⟩
    exact ⟨rfl, Or.inr ⟨j, wd, reqs, ht.feed p⟩⟩
theorem next_st {w0 : World} {b : Nat} {L : Lim} {S : List UInt8} {g : Nat} {gv : Value} {w : World} (hL : Lok L) (h : St2 w0 b L S g gv w) (hz : S.length ≤ 67108864) (hh : Has w0) (h8 : 8 ≤ b) :
    Calls Tryz.prog 9 #[.pointer (some ⟨b, 0, none⟩)] w fun e w' => (∃ x : Int, (x == 1) = false ∧ e = .returned (.tuple #[.slice none 0 0, .int .i64 x]) ∧ St w0 b L S gv w') ∨ ∃ j k lv reqs ws v, e = .returned (.tuple #[v, .int .i64 1]) ∧ One w0 b L S j k lv gv reqs ws v w' ∧ S.length ≤ j + g := by
  rcases h with ⟨j, lv, wv, reqs, hl, hg⟩ | ⟨j, wd, reqs, ht⟩
  · have hlen : (S.drop j).length = S.length - j := List.length_drop
    have hjl := hl.jl
    refine (next_one_call b L (S.drop j) j lv wv w hL hl.ps (by omega) (hh.later hl.bel) h8 (Or.inr Double2.double_means)).mono ?_
    intro e w' hN
    cases hn : nextS L (S.drop j) with
    | more k =>
      rw [hn] at hN
      obtain ⟨rfl, lv', wv', q1, q2, q3, q4⟩ := hN
      exact Or.inl ⟨0, rfl, rfl, Or.inl ⟨j + k, lv', wv', reqs, hl.more hn q1 q2 q3 q4⟩⟩
    | fault k wd =>
      rw [hn] at hN
      obtain ⟨rfl, q1, q2⟩ := hN
      exact Or.inl ⟨2, rfl, rfl, Or.inr ⟨j + k, wd, reqs, hl.fault hn q1 q2⟩⟩
    | one k ws =>
      rw [hn] at hN
      obtain ⟨v, rfl, q1, q2, lv', q3, q4, q5⟩ := hN
      obtain ⟨a1, a2, a3, a4, a5, a6, a7⟩ := hl.one hn q4 q5
      exact Or.inr ⟨j, k, lv', reqs, ws, v, rfl, ⟨a1, a2, hl.rl, by rw [a6]; exact q3, a3, q1, a4, a5, hl.gb, hl.bb, a7⟩, hg⟩
  · refine (next_told b _ _ _ _ _ _ _ _ (mk_empty ht.wn) w ht.rb).mono ?_
    rintro e w' ⟨rfl, hb⟩
    exact Or.inl ⟨2, rfl, rfl, Or.inr ⟨j, wd, reqs, ht.below hb⟩⟩
theorem One.app {w0 : World} {b : Nat} {L : Lim} {S : List UInt8} {j k g : Nat} {lv gv : Value} {reqs : Rs} {ws : List (List UInt8)} {v v' : Value} {w w4 : World} {us : List Value} (h : One w0 b L S j k lv gv reqs ws v w) (hg : S.length ≤ j + g) (o1 : w.ownsRow 8 24 1 gv us.length us) (o2 : us.length = reqs.length) (o3 : ∀ (k : Nat) u r, us[k]? = some u → reqs[k]? = some r → WS w u r)
    (ha : Append.Apd 24 gv us.length 1 (us ++ [v]) v' (w.alloc (.cells #[v] 24)) w4) : St2 w0 b L S (g - k) v' w4 := by
  have hB : Below w.heap.size w (w.alloc (.cells #[v] 24)) := (Below.refl _ w).alloc (Nat.le_refl _) _
  have hbA : Below w0.heap.size w0 (w.alloc (.cells #[v] 24)) := h.bel.alloc h.bel.size _
  have hO := owns_below o1 hB
  have hk := h.hk
  have hrl := h.rl
  refine Or.inl ⟨j + k, lv, .slice none 0 0, reqs ++ [ws], ⟨ps_keep (ps_keep h.ps (kp_below hB)) (kp_grown hO ha.2.1), wg_nil (wa_snoc hO o2 (fun k u r hu hr => owns_below (o3 k u r hu hr) hB) (owns_below h.row hB) ha), h.lb, fun g hg => (by cases hg), fun g hg => ?_, by rw [List.length_append, List.length_singleton]; omega, h.hjk, h.tell, hbA.grown ha.2.1 hbA.size h.gb, h.bb⟩, by have := h.hjk; omega⟩
  rcases ha.2.2.1 g hg with q | q
  · exact h.gb g q
  · exact Nat.le_trans hbA.size q
theorem St.wa {w0 : World} {b : Nat} {L : Lim} {S : List UInt8} {gv : Value} {w : World} (h : St w0 b L S gv w) : Below w0.heap.size w0 w ∧ ∃ j wd reqs L' lv k wv wanted read, RB b L' lv k wv wanted read j (Base.mk wd) w ∧ WA w gv reqs ∧ wholeS L S = ⟨reqs, wd, j⟩ := by
  rcases h with ⟨j, lv, wv, reqs, hl, hn⟩ | ⟨j, wd, reqs, ht⟩
  · refine ⟨hl.bel, j, [], reqs, ?_⟩
    obtain ⟨t, k, ws, wanted, read, h1, _⟩ := hl.ps
    exact ⟨_, _, _, _, _, _, h1.rb, wg_wa hl.wg, hl.done hn⟩
  · exact ⟨ht.bel, j, wd, reqs, _, _, _, _, _, _, ht.rb, ht.wa, ht.done⟩
theorem mk_cat (a b : List UInt8) : Base.mk a ++ Base.mk b = Base.mk (a ++ b) := by
  unfold Base.mk
  apply ByteArray.ext
  simp
end Go.Proofs.YtfkilbhhpipjbabGreatDoor.PieceM
