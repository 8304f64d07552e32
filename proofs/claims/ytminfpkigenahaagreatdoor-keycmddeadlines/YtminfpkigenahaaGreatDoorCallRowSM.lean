/- container/heap's own calls, moving RowS. An index's row over texts is a thing that container/heap moves. The calls of an index over texts: Len, Due, Drop, Set, Next. Set of an index over texts. Bytes and the numbers whose bytes they are, the lowest first: plain lists and numbers; no program is met here. -/
import Derived.Test.YtminfpkigenahaaGreatDoorHeap2M
import Derived.Test.YtminfpkigenahaaGreatDoorHeapRowSM
import Derived.OwnWalk
import Derived.Test.YtminfpkigenahaaGreatDoorPushRM
import Derived.RowKit
import Derived.Laws.BitsAllLaws
section
namespace Go.Proofs.YtminfpkigenahaaGreatDoor.Heap
open Go.RowKit
open Go.Proofs.YtminfpkigenahaaGreatDoor.HeapMath
set_option linter.unusedVariables false
set_option linter.unusedSimpArgs false
set_option maxHeartbeats 1000000 in
set_option maxRecDepth 100000 in
theorem pushRowS {α : Type} [Inhabited α] [DecidableEq α] {lt : α → α → Prop} [DecidableRel lt] (o : STO lt) (pv : Value) {xv : α → Value} {ok : α → List α → Prop} {R : World → List α → Prop} {F : World → World → Prop} (M : Thing 216 218 219 220 221 lt pv xv ok R F) (w : World) (l : List α) (a : α) (h : R w l) (ha : ok a l) (hb : l.length < 1099511627776) (hh : Hp lt l l.length) :
    Calls Tryz.prog 34 #[.iface 98 pv, xv a] w fun e w' => e = .returned (.tuple #[]) ∧ (∃ l', R w' l' ∧ Hp lt l' l'.length ∧ l'.Perm (l ++ [a])) ∧ F w w' := by
  have H1 := hid_of (M.push w l a h ha)
  have HM := hid_of M
  have HU := hid_of (fun W (hW : R W (l ++ [a])) => upRowS o pv M.moves W (l ++ [a]) (l.length + 1) l.length hW (by simp) (by simp; omega) (by omega) (up_new hh))
  obtain ⟨n, HN⟩ : ∃ n, Hid (n = l.length) := ⟨_, hid_of rfl⟩
  have hn : n < 1099511627776 := by rw [HN.out]; exact hb
  generalize xv a = X at *
  clear M o h ha hh hb
  go_enter Tryz.func34, Tryz.ntmps34
  go_wp2_with fail
  refine H1.out.mono ?_
  rintro e w1 ⟨rfl, r1, f1⟩
  have H2 := hid_of (HM.out.len w1 _ r1)
  rw [show ((l ++ [a]).length : Int) = (n : Int) + 1 by rw [HN.out]; simp] at H2
  have F1 := hid_of f1
  clear r1 f1
  go_wp2_with fail
  refine H2.out.mono ?_
  rintro e w2 ⟨rfl, r2, f2⟩
  have H3 := hid_of (HU.out w2 r2)
  rw [← HN.out] at H3
  have F2 := hid_of (HM.out.moves.trans _ _ _ F1.out f2)
  clear r2 f2
  go_wp2_with fail
  refine H3.out.mono ?_
  rintro e w3 ⟨rfl, ⟨l', r3, hw⟩, f3⟩
  have HE := hid_of (And.intro r3 (And.intro hw (HM.out.moves.trans _ _ _ F2.out f3)))
  clear r3 hw f3
  go_wp2_with fail
  go_end0
  refine ⟨rfl, ⟨l', HE.out.1, ?_, HE.out.2.1.2.1⟩, HE.out.2.2⟩
  have := HE.out.2.1.1
  rw [HE.out.2.1.2.1.length_eq]
  rw [show (l ++ [a]).length = n + 1 by rw [HN.out]; simp]
  exact this
set_option maxHeartbeats 1000000 in
set_option maxRecDepth 100000 in
theorem fixRowS {α : Type} [Inhabited α] [DecidableEq α] {lt : α → α → Prop} [DecidableRel lt] (o : STO lt) (pv : Value) {xv : α → Value} {ok : α → List α → Prop} {R : World → List α → Prop} {F : World → World → Prop} (M : Thing 216 218 219 220 221 lt pv xv ok R F) (w : World) (l : List α) (i : Nat) (h : R w l) (hi : i < l.length) (hb : l.length < 1099511627776) (hh : D0 lt l l.length i) :
    Calls Tryz.prog 33 #[.iface 98 pv, .int .i64 (i : Int)] w fun e w' => e = .returned (.tuple #[]) ∧ (∃ l', R w' l' ∧ Hp lt l' l'.length ∧ l'.Perm l) ∧ F w w' := by
  have H1 := hid_of (M.len w l h)
  have HM := hid_of M
  have HDn := hid_of (fun W (hW : R W l) => downRowS o pv M.moves W l l.length i hW (Nat.le_refl _) (by omega) hi hh)
  have HUp := hid_of (fun W (hW : R W l) (hu : Up lt l l.length i) => upRowS o pv M.moves W l l.length i hW (Nat.le_refl _) (by omega) hi hu)
  obtain ⟨n, HN⟩ : ∃ n, Hid (n = l.length) := ⟨_, hid_of rfl⟩
  rw [← HN.out] at H1 HDn HUp
  clear M o h hh hb
  go_enter Tryz.func33, Tryz.ntmps33
  go_wp2_with fail
  refine H1.out.mono ?_
  rintro e w1 ⟨rfl, r1, f1⟩
  have H2 := hid_of (HDn.out w1 r1)
  have F1 := hid_of f1
  clear r1 f1
  go_wp2_with fail
  refine H2.out.mono ?_
  rintro e w2 ⟨b, l', rfl, r2, hd, f2⟩
  have F2 := hid_of (HM.out.moves.trans _ _ _ F1.out f2)
  cases b with
  | true =>
    have HE := hid_of (And.intro r2 (And.intro hd (hd.2.2.1 rfl)))
    clear r2 hd f2
    go_wp2_with fail
    go_end0
    exact ⟨rfl, ⟨l', HE.out.1, by rw [HE.out.2.1.1.length_eq, ← HN.out]; exact HE.out.2.2, HE.out.2.1.1⟩, F2.out⟩
  | false =>
    obtain ⟨e1, hu⟩ := hd.2.2.2 rfl
    rw [e1] at r2
    have H3 := hid_of (HUp.out w2 r2 hu)
    clear r2 hd f2 e1 hu
    go_wp2_with fail
    refine H3.out.mono ?_
    rintro e w3 ⟨rfl, ⟨l2, r3, hw⟩, f3⟩
    have HE := hid_of (And.intro r3 (And.intro hw (HM.out.moves.trans _ _ _ F2.out f3)))
    clear r3 hw f3
    go_wp2_with fail
    go_end0
    exact ⟨rfl, ⟨l2, HE.out.1, by rw [HE.out.2.1.2.1.length_eq, ← HN.out]; exact HE.out.2.1.1, HE.out.2.1.2.1⟩, HE.out.2.2⟩
set_option maxHeartbeats 1000000 in
set_option maxRecDepth 100000 in
theorem removeRowS {α : Type} [Inhabited α] [DecidableEq α] {lt : α → α → Prop} [DecidableRel lt] (o : STO lt) (pv : Value) {xv : α → Value} {ok : α → List α → Prop} {R : World → List α → Prop} {F : World → World → Prop} (M : Thing 216 218 219 220 221 lt pv xv ok R F) (w : World) (l : List α) (i : Nat) (h : R w l) (h0 : i < l.length) (hb : l.length < 1099511627776) (hh : Hp lt l l.length) :
    Calls Tryz.prog 35 #[.iface 98 pv, .int .i64 (i : Int)] w fun e w' => e = .returned (xv (pl l i)) ∧ (∃ l', R w' l' ∧ Hp lt l' l'.length ∧ (l' ++ [pl l i]).Perm l) ∧ F w w' := by
  have H1 := hid_of (M.len w l h)
  have HM := hid_of M
  obtain ⟨n, HN⟩ : ∃ n, Hid (l.length = n + 1) := ⟨l.length - 1, by have : l.length = l.length - 1 + 1 := (by omega); exact this⟩
  have hn : n < 1099511627776 := by have := HN.out; omega
  have hin : i ≤ n := by have := HN.out; omega
  have HSw := hid_of (fun W (hW : R W l) => M.moves.swap W l i n hW h0 (by have := HN.out; omega))
  have HDn := hid_of (fun W (hW : R W (swp l i n)) (h1 : i < n) => downRowS o pv M.moves W (swp l i n) n i hW (by rw [swp_len, HN.out]; omega) (by rw [swp_len]; omega) h1 (by have := brought o hh (i := i) (by rw [HN.out]; omega); rw [HN.out] at this; exact this))
  have HUp := hid_of (fun W (hW : R W (swp l i n)) (h1 : i < n) (hu : Up lt (swp l i n) n i) => upRowS o pv M.moves W (swp l i n) n i hW (by rw [swp_len, HN.out]; omega) (by rw [swp_len]; omega) h1 hu)
  have HQ := hid_of (fun (l' : List α) (h1 : l'.Perm (swp l i n)) (h2 : pl l' n = pl (swp l i n) n) => (show l'.length = n + 1 ∧ pl l' (l'.length - 1) = pl l i ∧ (l'.take (l'.length - 1) ++ [pl l i]).Perm l from by
    have e1 : l'.length = n + 1 := by rw [h1.length_eq, swp_len]; exact HN.out
    have e2 : pl l' n = pl l i := by rw [h2, swp_at h0 (by have := HN.out; omega), if_pos rfl]
    refine ⟨e1, by rw [e1]; exact e2, ?_⟩
    exact left_perm (by omega) (h1.trans (swp_perm h0 (by have := HN.out; omega))) (by rw [HN.out]; exact e2)))
  rw [HN.out] at H1
  have e0 : ((n + 1 : Nat) : Int) = (n : Int) + 1 := by omega
  rw [e0] at H1
  have HB := hid_of hb
  have HH := hid_of hh
  clear M o h hh hb e0
  go_enter Tryz.func35, Tryz.ntmps35
  go_wp2_with fail
  refine H1.out.mono ?_
  rintro e w1 ⟨rfl, r1, f1⟩
  have F1 := hid_of f1
  by_cases hn0 : n = i
  · subst hn0
    have es : swp l n n = l := swp_self l n h0
    have HP0 := HQ.out l (by rw [es]) (by rw [es])
    have H3 := hid_of (HM.out.pop w1 _ r1 (by rw [HP0.1]; omega))
    rw [HP0.2.1] at H3
    have HP := hid_of HP0
    clear HP0 r1 f1 es
    go_wp2_with fail
    refine H3.out.mono ?_
    rintro e w4 ⟨rfl, r4, f4⟩
    have HE := hid_of (And.intro r4 (HM.out.moves.trans _ _ _ F1.out f4))
    clear r4 f4
    go_wp2_with fail
    go_ret
    refine ⟨rfl, ⟨_, HE.out.1, ?_, HP.out.2.2⟩, HE.out.2⟩
    have q := HP.out.1
    rw [List.length_take, q, show min (n + 1 - 1) (n + 1) = n by omega, show n + 1 - 1 = n by omega]
    exact hp_take (fun k hk hkn => HH.out k hk (by omega))
  · have hne : ¬ (n : Int) = (i : Int) := by omega
    have hlt : i < n := by omega
    have H2 := hid_of (HSw.out w1 r1)
    clear r1 f1
    go_wp2_with fail
    refine H2.out.mono ?_
    rintro e w2 ⟨rfl, r2, f2⟩
    have F2 := hid_of (HM.out.moves.trans _ _ _ F1.out f2)
    have H3 := hid_of (HDn.out w2 r2 hlt)
    clear r2 f2
    go_wp2_with fail
    refine H3.out.mono ?_
    rintro e w3 ⟨b, l', rfl, r3, hd, f3⟩
    have F3 := hid_of (HM.out.moves.trans _ _ _ F2.out f3)
    cases b with
    | true =>
      have HP0 := HQ.out l' hd.1 (hd.2.1 n (Nat.le_refl _))
      have H4 := hid_of (HM.out.pop w3 _ r3 (by rw [HP0.1]; omega))
      rw [HP0.2.1] at H4
      have HP := hid_of HP0
      have HHp : Hid (Hp lt l' n) := hd.2.2.1 rfl
      clear HP0 hd r3 f3
      go_wp2_with fail
      refine H4.out.mono ?_
      rintro e w4 ⟨rfl, r4, f4⟩
      have HE := hid_of (And.intro r4 (HM.out.moves.trans _ _ _ F3.out f4))
      clear r4 f4
      go_wp2_with fail
      go_ret
      refine ⟨rfl, ⟨_, HE.out.1, ?_, HP.out.2.2⟩, HE.out.2⟩
      have q := HP.out.1
      rw [List.length_take, q, show min (n + 1 - 1) (n + 1) = n by omega, show n + 1 - 1 = n by omega]
      exact hp_take HHp.out
    | false =>
      obtain ⟨q1, q2⟩ := hd.2.2.2 rfl
      rw [q1] at r3
      have H5 := hid_of (HUp.out w3 r3 hlt q2)
      clear hd r3 f3 q1 q2
      go_wp2_with fail
      refine H5.out.mono ?_
      rintro e w5 ⟨rfl, ⟨l2, r5, hw⟩, f5⟩
      have F5 := hid_of (HM.out.moves.trans _ _ _ F3.out f5)
      have HP0 := HQ.out l2 hw.2.1 (hw.2.2 n (Nat.le_refl _))
      have H4 := hid_of (HM.out.pop w5 _ r5 (by rw [HP0.1]; omega))
      rw [HP0.2.1] at H4
      have HP := hid_of HP0
      have HHp : Hid (Hp lt l2 n) := hw.1
      clear HP0 hw r5 f5
      go_wp2_with fail
      refine H4.out.mono ?_
      rintro e w4 ⟨rfl, r4, f4⟩
      have HE := hid_of (And.intro r4 (HM.out.moves.trans _ _ _ F5.out f4))
      clear r4 f4
      go_wp2_with fail
      go_ret
      refine ⟨rfl, ⟨_, HE.out.1, ?_, HP.out.2.2⟩, HE.out.2⟩
      have q := HP.out.1
      rw [List.length_take, q, show min (n + 1 - 1) (n + 1) = n by omega, show n + 1 - 1 = n by omega]
      exact hp_take HHp.out
end Go.Proofs.YtminfpkigenahaaGreatDoor.Heap
end
section
namespace Go.Proofs.YtminfpkigenahaaGreatDoor.ThingS
open Go.RowKit Go.Maps
open Go.Proofs.YtminfpkigenahaaGreatDoor.HeapMath
open Go.Proofs.YtminfpkigenahaaGreatDoor.Heap
open Go.Proofs.YtminfpkigenahaaGreatDoor.Turn
open Go.Proofs.YtminfpkigenahaaGreatDoor.Before
open Go.Proofs.YtminfpkigenahaaGreatDoor.Base (mk mk_list)
open Go.Proofs.YtminfpkigenahaaGreatDoor.Spots
open Go.Proofs.YtminfpkigenahaaGreatDoor.RowB
open Go.Proofs.YtminfpkigenahaaGreatDoor.Swap
open Go.Proofs.YtminfpkigenahaaGreatDoor.Pop
open Go.Proofs.YtminfpkigenahaaGreatDoor.PushR
open Go.Proofs.YtminfpkigenahaaGreatDoor.PushR0
open Go.Proofs.YtminfpkigenahaaGreatDoor.Push
set_option linter.unusedVariables false
set_option linter.unusedSimpArgs false
theorem push_call {M : Nat → Prop} {b : Nat} {l : Es} {w : World} {e : Bs × Int} (h : RS M b w l) (we : e.1.length ≤ 281474976710656) (hne : ∀ i, i < l.length → (pl l i).1 ≠ e.1) (hb : l.length < 1099511627776) :
    Calls Tryz.prog 220 #[ptr b, .iface 96 (eS e)] w fun r w' => r = .returned (.tuple #[]) ∧ RS M b w' (l ++ [e]) ∧ Ev M w w' := by
  obtain ⟨ev, mv, h⟩ := h
  have hbl := lt_of h.idx
  rcases h.map with ⟨rfl, rfl⟩ | ⟨bm, D, rfl, hbm, own, sp⟩
  · have i1 := set_at (i := 1) h.idx (.map (some w.heap.size))
    obtain ⟨U, hU⟩ : ∃ U, U = w.setCell ⟨b, 1, none⟩ (.map (some w.heap.size)) := ⟨_, rfl⟩
    rw [← hU] at i1
    have hus : U.heap.size = w.heap.size := by rw [hU, size_set]
    obtain ⟨W1, hW1⟩ : ∃ W1, W1 = (U.alloc (.map #[] 0)).alloc (.cells #[.string (mk e.1), .int .i64 e.2] 96) := ⟨_, rfl⟩
    have s1 : (U.alloc (.map #[] 0)).heap.size = w.heap.size + 1 := by rw [← hus]; show (U.heap.push _).size = _; simp
    have idx1 : W1.heap[b]? = some (.cells #[ev, .map (some w.heap.size)] 90 (0, 0)) := by
      rw [hW1, Below.heap_alloc _ _ b (by omega), Below.heap_alloc _ _ b (by omega)]; exact i1
    have own1 : W1.ownsMap (H := Unit) Tryz.prog 9 (plainElem Tryz.prog 3) w.heap.size 0 (.map []) := by
      rw [hW1]
      have := World.ownsMap_made (H := Unit) U Tryz.prog 9 (plainElem Tryz.prog 3)
      rw [hus] at this
      exact this.alloc _
    have hx : W1.heap[w.heap.size + 1]? = some (.cells #[.string (mk e.1), .int .i64 e.2] 96 (0, 0)) := by
      have := new_at (U.alloc (.map #[] 0)) (.cells #[.string (mk e.1), .int .i64 e.2] 96)
      rw [s1, ← hW1] at this
      exact this
    have ent1 : W1.ownsRow 0 96 2 ev ([] : Es).length (([] : Es).flatMap cS) := row_later h.ent fun g hg => by
      have q := row_kd h.ent hg
      have ng : g ≠ b := fun x => by have := q.1; rw [x, kd_cells h.idx] at this; cases this
      rw [hW1, Below.heap_alloc _ _ g (by omega), Below.heap_alloc _ _ g (by omega), hU, set_ne ng]
    have v1 : Ev M w W1 := by
      rw [hW1, hU]
      exact ((Ev.set h.bb _).alloc _).alloc _
    have hbb := h.bb
    obtain ⟨a, c, a', c', W2, W3, rfl, H1, H2, hR, hE⟩ := push_end (e := e) idx1 h.bb (h.up _ (Nat.le_refl _)) ent1 own1 (sp := ⟨rfl, fun i hi => absurd hi (by simp), fun k _ => rfl⟩) h.keys h.wide we hne hx hb h.eb (fun k hk => h.up k (Nat.le_trans v1.size hk))
    refine (push_raw0 b 0 c 1 c' w.heap.size a a' w W1 W2 W3 (mk e.1) e.2 (by omega) hbl (Lib.cell_of_heap h.idx 1) (Lib.frozen_of_heap h.idx 1) rfl (hid_of (by rw [hW1, hU])) (hid_of H1) (hid_of H2)).mono ?_
    rintro r w' ⟨rfl, rfl⟩
    exact ⟨rfl, hR, v1.trans hE⟩
  · obtain ⟨W1, hW1⟩ : ∃ W1, W1 = w.alloc (.cells #[.string (mk e.1), .int .i64 e.2] 96) := ⟨_, rfl⟩
    have idx1 : W1.heap[b]? = some (.cells #[ev, .map (some bm)] 90 (0, 0)) := by rw [hW1, Below.heap_alloc _ _ b hbl]; exact h.idx
    have own1 : W1.ownsMap Tryz.prog 9 (plainElem Tryz.prog 3) bm l.length D := by rw [hW1]; exact own.alloc _
    have hx : W1.heap[w.heap.size]? = some (.cells #[.string (mk e.1), .int .i64 e.2] 96 (0, 0)) := by rw [hW1]; exact new_at w _
    have ent1 : W1.ownsRow 0 96 2 ev l.length (l.flatMap cS) := row_later h.ent fun g hg => by
      rw [hW1, Below.heap_alloc _ _ g (row_kd h.ent hg).2.1]
    have v1 : Ev M w W1 := by rw [hW1]; exact (Ev.refl M w).alloc _
    have hbb := h.bb
    obtain ⟨a, c, a', c', W2, W3, rfl, H1, H2, hR, hE⟩ := push_end (e := e) idx1 h.bb hbm ent1 own1 sp h.keys h.wide we hne hx hb h.eb (fun k hk => h.up k (Nat.le_trans v1.size hk))
    refine (push_raw b l.length c (l.length + 1) c' bm a a' w W1 W2 W3 (mk e.1) e.2 hb hbl (Lib.cell_of_heap h.idx 1) (hid_of hW1.symm) (hid_of H1) (hid_of H2)).mono ?_
    rintro r w' ⟨rfl, rfl⟩
    exact ⟨rfl, hR, v1.trans hE⟩
theorem RS.below {M : Nat → Prop} {b : Nat} {l : Es} {w w' : World} (h : RS M b w l) (hb : Below w.heap.size w w') : RS M b w' l := by
  obtain ⟨ev, mv, h⟩ := h
  refine ⟨ev, mv, ⟨(hb.block b (lt_of h.idx)).trans h.idx, h.bb, row_later h.ent fun g hg => hb.block g (row_kd h.ent hg).2.1, ?_, h.keys, h.wide, h.eb, fun k hk => h.up k (Nat.le_trans hb.size hk)⟩⟩
  rcases h.map with q | ⟨bm, D, e, hbm, own, sp⟩
  · exact .inl q
  · refine .inr ⟨bm, D, e, hbm, ?_, sp⟩
    have hl := own.lt
    obtain ⟨es, c, q, r⟩ := own
    exact ⟨es, c, (hb.block bm hl).trans q, r⟩
/-- the row, of a length that a machine can hold -/
def RT (M : Nat → Prop) (b : Nat) (w : World) (l : Es) : Prop := RS M b w l ∧ l.length < 1099511627776
/-- an entry that may be laid behind a row -/
def okS (e : Bs × Int) (l : Es) : Prop := e.1.length ≤ 281474976710656 ∧ (∀ i, i < l.length → (pl l i).1 ≠ e.1) ∧ l.length + 1 < 1099511627776
theorem thingS (M : Nat → Prop) (b : Nat) : Thing 216 218 219 220 221 ltS (ptr b) (fun e => .iface 96 (eS e)) okS (RT M b) (Ev M) where
  moves := {
    refl := Ev.refl M
    trans := fun _ _ _ h k => h.trans k
    less := fun w l i j h hi hj => (less_call h.1 i j hi hj h.2).mono (by
      rintro e w' ⟨rfl, hb⟩
      exact ⟨rfl, ⟨RS.below h.1 hb, h.2⟩, Ev.of_below hb⟩)
    swap := fun w l i j h hi hj => (swap_call h.1 i j hi hj h.2).mono (by
      rintro e w' ⟨rfl, hr, hv⟩
      exact ⟨rfl, ⟨hr, by rw [swp_len]; exact h.2⟩, hv⟩) }
  len := fun w l h => (len_call h.1).mono (by
    rintro e w' ⟨rfl, rfl⟩
    exact ⟨rfl, h, Ev.refl _ _⟩)
  push := fun w l a h ha => (push_call h.1 ha.1 ha.2.1 h.2).mono (by
    rintro e w' ⟨rfl, hr, hv⟩
    exact ⟨rfl, ⟨hr, by have := ha.2.2; simp; omega⟩, hv⟩)
  pop := fun w l h h0 => (pop_call h.1 h0 h.2).mono (by
    rintro e w' ⟨rfl, hr, hv⟩
    exact ⟨rfl, ⟨hr, by have := h.2; rw [List.length_take]; omega⟩, hv⟩)
end Go.Proofs.YtminfpkigenahaaGreatDoor.ThingS
end
section
namespace Go.Proofs.YtminfpkigenahaaGreatDoor.IndexS
open Go.RowKit Go.Maps
open Go.Proofs.YtminfpkigenahaaGreatDoor.HeapMath
open Go.Proofs.YtminfpkigenahaaGreatDoor.Heap
open Go.Proofs.YtminfpkigenahaaGreatDoor.Turn
open Go.Proofs.YtminfpkigenahaaGreatDoor.Before
open Go.Proofs.YtminfpkigenahaaGreatDoor.Base (mk mk_list)
open Go.Proofs.YtminfpkigenahaaGreatDoor.Spots
open Go.Proofs.YtminfpkigenahaaGreatDoor.RowB
open Go.Proofs.YtminfpkigenahaaGreatDoor.Swap
open Go.Proofs.YtminfpkigenahaaGreatDoor.Push
open Go.Proofs.YtminfpkigenahaaGreatDoor.ThingS
set_option linter.unusedVariables false
set_option linter.unusedSimpArgs false
theorem zero3 (w : World) : (zeroValue 3).run Tryz.prog w = .ok (.int .i64 0) w := by kernel_rfl
/-- an index: a row in the order of a heap, whose entries are those of s -/
def IX (M : Nat → Prop) (b : Nat) (w : World) (s : Es) : Prop := ∃ l, RT M b w l ∧ Hp ltS l l.length ∧ l.Perm s
theorem find_run {M : Nat → Prop} {b : Nat} {l : Es} {w : World} (h : RS M b w l) (k : Bs) (hk : k.length ≤ 281474976710656) :
    ∃ mv p q, w.cell? ⟨b, 1, none⟩ = some mv ∧ (Instr.lookup 86 mv (.string (mk k)) true).run Tryz.prog w = .ok (.tuple #[.int .i64 ((p : Nat) : Int), .bool q]) w ∧ ((q = true ∧ p < l.length ∧ (pl l p).1 = k) ∨ (q = false ∧ ∀ i, i < l.length → (pl l i).1 ≠ k)) := by
  obtain ⟨ev, mv, h⟩ := h
  rcases h.map with ⟨rfl, rfl⟩ | ⟨bm, D, rfl, hbm, own, sp⟩
  · have c1 : w.cell? ⟨b, 1, none⟩ = some (.map none) := (Lib.cell_of_heap h.idx 1).trans rfl
    have hl := look_nil (P := Tryz.prog) (w := w) true law9 Tryz.underlying86 (zero3 w) (key9 k hk)
    exact ⟨.map none, 0, false, c1, hl, .inr ⟨rfl, fun i hi => absurd hi (by simp)⟩⟩
  · obtain ⟨v, ps, hrun, hv⟩ := own.look_ok law9 Tryz.underlying86 (zero3 w) (zd := num 0) (zp := []) (val3 0 (by omega)) (key9 k hk)
    by_cases hex : ∃ i, i < l.length ∧ (pl l i).1 = k
    · obtain ⟨i, hi, rfl⟩ := hex
      have s1 := sp.some i hi
      rw [s1.1] at hrun
      rw [s1.2] at hv
      obtain ⟨c, rfl, hc, _⟩ := plainElem_int_inv Tryz.underlying3 hv
      have ec : c = (i : Int) := by simp at hc; exact hc.1.symm
      rw [ec] at hrun
      exact ⟨_, i, true, Lib.cell_of_heap h.idx 1, hrun, .inl ⟨rfl, hi, rfl⟩⟩
    · have s0 : ∀ i, i < l.length → (pl l i).1 ≠ k := fun i hi e => hex ⟨i, hi, e⟩
      rw [sp.none k s0] at hrun
      have hz := sp.none k s0
      rw [atKey_of_not_has hz] at hv
      obtain ⟨c, rfl, hc, _⟩ := plainElem_int_inv Tryz.underlying3 hv
      have ec : c = ((0 : Nat) : Int) := by simp at hc; exact hc.1.symm
      rw [ec] at hrun
      exact ⟨_, 0, false, Lib.cell_of_heap h.idx 1, hrun, .inr ⟨rfl, s0⟩⟩
set_option maxRecDepth 100000 in
theorem ilen_call {M : Nat → Prop} {b : Nat} {l : Es} {w : World} (h : RS M b w l) : Calls Tryz.prog 215 #[ptr b] w fun e w' => e = .returned (.int .i64 (l.length : Int)) ∧ w' = w := by
  have H := hid_of (len_call h)
  clear h
  go_enter Tryz.func215, Tryz.ntmps215
  go_wp2_with fail
  refine H.out.mono ?_
  rintro e w1 ⟨rfl, rfl⟩
  go_wp2_with fail
  go_ret
  exact ⟨rfl, rfl⟩
set_option maxRecDepth 100000 in
theorem drop_call {M : Nat → Prop} {b : Nat} {s : Es} {w : World} (h : IX M b w s) (k : Bs) (hk : k.length ≤ 281474976710656) : Calls Tryz.prog 27 #[ptr b, .string (mk k)] w fun e w' => ∃ q, e = .returned (.bool q) ∧ ((q = true ∧ ∃ x s', x.1 = k ∧ (s' ++ [x]).Perm s ∧ IX M b w' s') ∨ (q = false ∧ (∀ x ∈ s, x.1 ≠ k) ∧ IX M b w' s)) ∧ Ev M w w' := by
  obtain ⟨l, hr, hh, hp⟩ := h
  obtain ⟨mv, p, q, c1, hl, hq⟩ := find_run hr.1 k hk
  rcases hq with ⟨rfl, hpl, hpk⟩ | ⟨rfl, hno⟩
  · have H := hid_of (removeRowS (ent_sto keysS) (ptr b) (thingS M b) w l p hr hpl hr.2 hh)
    have HP := hid_of (And.intro hpk hp)
    clear hr hh hp hpl hpk
    go_enter Tryz.func27, Tryz.ntmps27
    go_wp2_with fail
    refine H.out.mono ?_
    rintro e w1 ⟨rfl, ⟨l', r1, h1, p1⟩, f1⟩
    have HE := hid_of (And.intro r1 (And.intro h1 (And.intro p1 f1)))
    clear r1 h1 p1 f1
    go_wp2_with fail
    go_ret
    exact ⟨true, rfl, .inl ⟨rfl, _, l', HP.out.1, HE.out.2.2.1.trans HP.out.2, ⟨l', HE.out.1, HE.out.2.1, List.Perm.refl _⟩⟩, HE.out.2.2.2⟩
  · have H := hid_of (And.intro hr (And.intro hh hp))
    have HN := hid_of hno
    clear hr hh hp hno
    go_enter Tryz.func27, Tryz.ntmps27
    go_wp2_with fail
    go_ret
    refine ⟨false, rfl, .inr ⟨rfl, fun x hx e => ?_, ⟨l, H.out⟩⟩, Ev.refl _ _⟩
    obtain ⟨i, hi, e2⟩ := List.getElem_of_mem (H.out.2.2.mem_iff.2 hx)
    exact HN.out i hi (by rw [pl_in hi, e2]; exact e)
end Go.Proofs.YtminfpkigenahaaGreatDoor.IndexS
end
section
namespace Go.Proofs.YtminfpkigenahaaGreatDoor.SetS
open Go.RowKit Go.Maps
open Go.Proofs.YtminfpkigenahaaGreatDoor.HeapMath
open Go.Proofs.YtminfpkigenahaaGreatDoor.Heap
open Go.Proofs.YtminfpkigenahaaGreatDoor.Turn
open Go.Proofs.YtminfpkigenahaaGreatDoor.Before
open Go.Proofs.YtminfpkigenahaaGreatDoor.Base (mk mk_list)
open Go.Proofs.YtminfpkigenahaaGreatDoor.Spots
open Go.Proofs.YtminfpkigenahaaGreatDoor.RowB
open Go.Proofs.YtminfpkigenahaaGreatDoor.Swap
open Go.Proofs.YtminfpkigenahaaGreatDoor.Push
open Go.Proofs.YtminfpkigenahaaGreatDoor.ThingS
open Go.Proofs.YtminfpkigenahaaGreatDoor.IndexS
set_option linter.unusedVariables false
set_option linter.unusedSimpArgs false
/-- one entry of a heap is another one now -/
theorem turned_one {α : Type} [Inhabited α] {lt : α → α → Prop} (o : STO lt) {l : List α} {i : Nat} (h : Hp lt l l.length) (hi : i < l.length) (a : α) : D0 lt (l.set i a) (l.set i a).length i := by
  rw [List.length_set]
  refine ⟨fun k hk hkn h1 h2 => ?_, fun k hk hkn h1 h2 => ?_⟩
  · rw [pl_set hi, pl_set hi, if_neg h1, if_neg h2]
    exact h k hk hkn
  · have h3 := par_lt hk
    have h4 := par_lt h2
    rw [pl_set hi, pl_set hi, if_neg (by omega), if_neg (by omega)]
    have q := h k hk hkn
    rw [h1] at q
    exact o.le_trans (h i h2 (by omega)) q
theorem tick_set {base : Nat} {w : World} {v : Value} {l : Es} {g : Nat} (h : w.ownsRow base 96 2 v l.length (l.flatMap cS)) (hg : v.ownBlock = some g) (i : Nat) (hi : i < l.length) (t : Int) :
    (w.setCell ⟨g, i * 2 + 1, none⟩ (.int .i64 t)).ownsRow base 96 2 v (l.set i ((pl l i).1, t)).length ((l.set i ((pl l i).1, t)).flatMap cS) := by
  refine ⟨by rw [c_len], ?_⟩
  rcases h.2 with ⟨rfl, hn⟩ | ⟨g', cap, cur, rfl, hb, hgg, h1, h2, h3, h4⟩
  · omega
  · cases hg
    rw [List.length_set]
    refine .inr ⟨g', cap, _, rfl, hb, set_at hgg _, h1, h2, by simpa using h3, ?_⟩
    have q : (l.flatMap cS).set (i * 2) (.string (mk (pl l i).1)) = l.flatMap cS := by
      have e := (c_get l i hi).1
      rw [← pl_in hi] at e
      obtain ⟨hlt, e2⟩ := List.getElem?_eq_some_iff.1 e
      rw [← e2]
      exact List.set_getElem_self hlt
    rw [flat_set, q, ← h4]
    simp [List.take_set]
theorem set_perm {α : Type} (l : List α) (i : Nat) (hi : i < l.length) (a : α) : (l.set i a).Perm (a :: l.eraseIdx i) := by
  induction l generalizing i with
  | nil => exact absurd hi (by simp)
  | cons x r ih =>
    cases i with
    | zero => exact List.Perm.refl _
    | succ i =>
      rw [List.set_cons_succ, List.eraseIdx_cons_succ]
      exact ((ih i (by simpa using hi)).cons x).trans (List.Perm.swap _ _ _)
theorem get_perm {α : Type} (l : List α) (i : Nat) (hi : i < l.length) : (l[i] :: l.eraseIdx i).Perm l := by
  have := (set_perm l i hi l[i]).symm
  rw [List.set_getElem_self hi] at this
  exact this
/-- what s is once k has the tick t -/
def Given (s : Es) (k : Bs) (t : Int) (s' : Es) : Prop := (∃ x s0, x.1 = k ∧ (s0 ++ [x]).Perm s ∧ s'.Perm (s0 ++ [(k, t)])) ∨ ((∀ x ∈ s, x.1 ≠ k) ∧ s'.Perm (s ++ [(k, t)]))
set_option maxHeartbeats 1000000 in
set_option maxRecDepth 100000 in
theorem set_call {M : Nat → Prop} {b : Nat} {s : Es} {w : World} (h : IX M b w s) (k : Bs) (hk : k.length ≤ 281474976710656) (t : Int) (ht : 0 ≤ t) (ht2 : t ≤ 9007199254740992) (hs : s.length + 1 < 1099511627776) :
    Calls Tryz.prog 26 #[ptr b, .string (mk k), .int .i64 t] w fun e w' => e = .returned (.int .i64 0) ∧ (∃ s', Given s k t s' ∧ IX M b w' s') ∧ Ev M w w' := by
  obtain ⟨l, hr, hh, hp⟩ := h
  obtain ⟨mv, p, q, c1, hl, hq⟩ := find_run hr.1 k hk
  have g1 : ¬ t < 0 := by omega
  have g2 : ¬ 9007199254740992 < t := by omega
  rcases hq with ⟨rfl, hpl, hpk⟩ | ⟨rfl, hno⟩
  · obtain ⟨ev, mv', h'⟩ := hr.1
    obtain ⟨g, c, cur, rfl, _, hg⟩ := row_info h'.ent (by omega)
    have hbg : M g := h'.eb g rfl
    obtain ⟨g', c', e', _, hc⟩ := row_block h'.ent (by omega)
    have eg : g = g' := by simp only [Value.slice.injEq, Option.some.injEq, Addr.mk.injEq] at e'; exact e'.1.1
    rw [← eg] at hc
    have c0 : w.cell? ⟨b, 0, none⟩ = some (.slice (some ⟨g, 0, none⟩) l.length c) := (Lib.cell_of_heap h'.idx 0).trans rfl
    have k1 := (hc p hpl).2
    have f1 : w.frozen? ⟨g, p * 2 + 1, none⟩ = false := Lib.frozen_of_heap hg _
    have nbg : b ≠ g := fun e => by have := h'.idx; rw [e, hg] at this; cases this
    have rt : RT M b (w.setCell ⟨g, p * 2 + 1, none⟩ (.int .i64 t)) (l.set p ((pl l p).1, t)) := by
      refine ⟨⟨_, mv', ⟨(set_ne nbg _).trans h'.idx, h'.bb, tick_set h'.ent rfl p hpl t, ?_, h'.keys.set hpl t, fun e he => ?_, h'.eb, fun k hk => h'.up k (by rw [size_set] at hk; exact hk)⟩⟩, by rw [List.length_set]; exact hr.2⟩
      · rcases h'.map with ⟨_, rfl⟩ | ⟨bm, D, e, hbm, own, sp⟩
        · simp at hpl
        · rw [List.length_set]
          exact .inr ⟨bm, D, e, hbm, own.setCell (owns_cells own hg) _, sp.set hpl t⟩
      · rcases List.mem_or_eq_of_mem_set he with q | rfl
        · exact h'.wide e q
        · exact h'.wide (pl l p) (by rw [pl_in hpl]; exact List.getElem_mem hpl)
    have v1 : Ev M w (w.setCell ⟨g, p * 2 + 1, none⟩ (.int .i64 t)) := Ev.set hbg _
    have H := hid_of (fixRowS (ent_sto keysS) (ptr b) (thingS M b) _ _ p rt (by rw [List.length_set]; exact hpl) rt.2 (turned_one (ent_sto keysS) hh hpl _))
    have HV := hid_of v1
    have HG := hid_of (show Given s k t (l.set p ((pl l p).1, t)) from .inl ⟨pl l p, l.eraseIdx p, hpk, by
      refine List.Perm.trans ?_ hp
      rw [pl_in hpl]
      exact (List.perm_append_singleton _ _).trans (get_perm l p hpl), by
      rw [hpk]
      exact (set_perm l p hpl _).trans (List.perm_append_singleton _ _).symm⟩)
    have hb := hr.2
    clear hr hh hp hpk h' hc rt v1 e' eg hg
    go_enter Tryz.func26, Tryz.ntmps26
    go_wp2_with fail
    refine H.out.mono ?_
    rintro e w1 ⟨rfl, ⟨l', r1, h1, p1⟩, f1⟩
    have HE := hid_of (And.intro r1 (And.intro h1 (And.intro p1 f1)))
    clear r1 h1 p1 f1
    go_wp2_with fail
    go_ret
    exact ⟨rfl, ⟨_, HG.out, ⟨l', HE.out.1, HE.out.2.1, HE.out.2.2.1⟩⟩, HV.out.trans HE.out.2.2.2⟩
  · have H := hid_of (pushRowS (ent_sto keysS) (ptr b) (thingS M b) w l (k, t) hr ⟨hk, hno, by rw [hp.length_eq]; exact hs⟩ hr.2 hh)
    have HG := hid_of (show Given s k t (s ++ [(k, t)]) from .inr ⟨fun x hx e => by
      obtain ⟨i, hi, e2⟩ := List.getElem_of_mem (hp.mem_iff.2 hx)
      exact hno i hi (by rw [pl_in hi, e2]; exact e), List.Perm.refl _⟩)
    have HP := hid_of hp
    unfold eS at H
    clear hr hh hp hno
    go_enter Tryz.func26, Tryz.ntmps26
    go_wp2_with fail
    refine H.out.mono ?_
    rintro e w1 ⟨rfl, ⟨l', r1, h1, p1⟩, f1⟩
    have HE := hid_of (And.intro r1 (And.intro h1 (And.intro p1 f1)))
    clear r1 h1 p1 f1
    go_wp2_with fail
    go_ret
    exact ⟨rfl, ⟨_, HG.out, ⟨l', HE.out.1, HE.out.2.1, HE.out.2.2.1.trans (HP.out.append_right _)⟩⟩, HE.out.2.2.2⟩
end Go.Proofs.YtminfpkigenahaaGreatDoor.SetS
end
section
namespace Go.Proofs.YtminfpkigenahaaGreatDoor.BytesMath

def leN : List UInt8 → Nat
  | [] => 0
  | c :: t => c.toNat + 256 * leN t
theorem leN_append (l m : List UInt8) : leN (l ++ m) = leN l + 256 ^ l.length * leN m := by
  induction l with
  | nil => simp [leN]
  | cons c t ih =>
    simp only [List.cons_append, leN, ih, List.length_cons, Nat.pow_succ]
    rw [Nat.mul_add, Nat.add_assoc, Nat.mul_comm (256 ^ t.length) 256, Nat.mul_assoc]
theorem leN_lt (l : List UInt8) : leN l < 256 ^ l.length := by
  induction l with
  | nil => simp [leN]
  | cons c t ih =>
    have := c.toNat_lt
    simp only [leN, List.length_cons, Nat.pow_succ]; omega
theorem len_eq (s : ByteArray) : s.data.toList.length = s.size := Array.length_toList
theorem take_snoc (s : ByteArray) (k : Nat) (h : k < s.size) : s.data.toList.take (k + 1) = s.data.toList.take k ++ [s[k]] := by
  rw [List.take_succ_eq_append_getElem (by simpa using h)]; rfl
theorem drop_cons (s : ByteArray) (k : Nat) (h : k < s.size) : s.data.toList.drop k = s[k] :: s.data.toList.drop (k + 1) := by
  rw [List.drop_eq_getElem_cons (by simpa using h)]; rfl
theorem pow256 (k : Nat) : (256 : Nat) ^ k = 2 ^ (8 * k) := by rw [show (256 : Nat) = 2 ^ 8 from rfl, ← Nat.pow_mul]
theorem or_step (x c k : Nat) (hk : k < 8) (hx : x < 256 ^ k) (hc : c < 256) :
    bits .or .u64 (x : Int) (IntKind.u64.wrap (IntKind.u64.wrap (c : Int) * 2 ^ (8 * k))) = ((x + 256 ^ k * c : Nat) : Int) := by
  have hp : 2 ^ (8 * k) ≤ 2 ^ 56 := Nat.pow_le_pow_right (by omega) (by omega)
  have hb : c * 2 ^ (8 * k) ≤ 255 * 2 ^ 56 := Nat.mul_le_mul (by omega) hp
  rw [pow256] at hx
  have e1 : IntKind.u64.wrap (c : Int) = (c : Int) := by rw [IntKind.wrap_u64]; omega
  have e2 : ((c : Int) * 2 ^ (8 * k)) = ((c * 2 ^ (8 * k) : Nat) : Int) := by simp
  have e3 : IntKind.u64.wrap ((c * 2 ^ (8 * k) : Nat) : Int) = ((c * 2 ^ (8 * k) : Nat) : Int) := by rw [IntKind.wrap_u64]; omega
  rw [e1, e2, e3, u64_or_nat _ _ (by omega) (by omega), pow256, Nat.or_comm, Nat.mul_comm c, ← Nat.two_pow_add_eq_or_of_lt hx, Nat.add_comm]
theorem unfix_step (s : ByteArray) (k : Nat) (hk : k < s.size) (h8 : s.size ≤ 8) :
    bits .or .u64 ((leN (s.data.toList.take k) : Nat) : Int) (IntKind.u64.wrap (IntKind.u64.wrap (s[k].toNat : Int) * 2 ^ (8 * k))) = ((leN (s.data.toList.take (k + 1)) : Nat) : Int) := by
  have hl : (s.data.toList.take k).length = k := by
    have : s.data.toList.length = s.size := len_eq s
    simp; omega
  have hx := leN_lt (s.data.toList.take k)
  rw [hl] at hx
  rw [take_snoc s k hk, leN_append, hl, or_step _ _ _ (by omega) hx (s[k].toNat_lt)]
  simp [leN]
theorem runfix_step (s : ByteArray) (k : Nat) (h1 : 1 ≤ k) (hk : k ≤ s.size) (h8 : s.size ≤ 8) (hi : k - 1 < s.size) :
    IntKind.u64.wrap (IntKind.u64.wrap (256 * ((leN (s.data.toList.drop k) : Nat) : Int)) + IntKind.u64.wrap (s[k - 1].toNat : Int)) = ((leN (s.data.toList.drop (k - 1)) : Nat) : Int) := by
  have hl : (s.data.toList.drop (k - 1)).length ≤ 8 := by
    have : s.data.toList.length = s.size := len_eq s
    simp; omega
  have hx := leN_lt (s.data.toList.drop (k - 1))
  have hp : 256 ^ (s.data.toList.drop (k - 1)).length ≤ 256 ^ 8 := Nat.pow_le_pow_right (by omega) hl
  have e := drop_cons s (k - 1) hi
  rw [show k - 1 + 1 = k from by omega] at e
  rw [e] at hx hp ⊢
  simp only [leN] at hx ⊢
  simp only [IntKind.wrap_u64]
  omega
theorem take_all (s : ByteArray) (k : Nat) (h : s.size ≤ k) : s.data.toList.take k = s.data.toList :=
  List.take_of_length_le (by have : s.data.toList.length = s.size := len_eq s
                             omega)
theorem drop_all (s : ByteArray) : s.data.toList.drop s.size = [] :=
  List.drop_eq_nil_of_le (by have : s.data.toList.length = s.size := len_eq s
                             omega)
def unfB (s : ByteArray) : Bool := decide (1 ≤ s.size ∧ s.size ≤ 8)
def unfV (s : ByteArray) : Int := if unfB s = true then (leN s.data.toList : Int) else 0
def unfE (s : ByteArray) : Int := if unfB s = true then 0 else 12
end Go.Proofs.YtminfpkigenahaaGreatDoor.BytesMath
end
