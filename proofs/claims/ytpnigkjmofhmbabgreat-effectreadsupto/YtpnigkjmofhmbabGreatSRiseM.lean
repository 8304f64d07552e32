/- rising: the keys whose entries are wanted, in their order. Rows whose elements have eight cells. -/
import Derived.Test.YtpnigkjmofhmbabGreatDecM
import Derived.Test.YtpnigkjmofhmbabGreatShelf
import Derived.Maps.RangeWalk
import Derived.Sort.KeysCollected
section
namespace Go.Proofs.YtpnigkjmofhmbabGreat.SRise
open Go.RowKit Go.Maps Go.Sort
open Go.Proofs.YtpnigkjmofhmbabGreat.SpaceMath (wout withL lkp keys Ris toD ok has_D at_D size_D keys_D ris_keys sort_keys)
open Go.Proofs.YtpnigkjmofhmbabGreat.Base (mk mk_list mk_size Gr hid_of)
open Go.Proofs.YtpnigkjmofhmbabGreat.Turn
open Go.Proofs.YtpnigkjmofhmbabGreat.RowB (Es)
open Go.Proofs.YtpnigkjmofhmbabGreat.Swap (law9)
open Go.Proofs.YtpnigkjmofhmbabGreat.SBase
open Go.Proofs.YtpnigkjmofhmbabGreat.SFind
open Go.Proofs.YtpnigkjmofhmbabGreat.SMath
open Go.Proofs.YtpnigkjmofhmbabGreat.SSet
open Go.Proofs.YtpnigkjmofhmbabGreat.SDrop
set_option linter.unusedVariables false
set_option linter.unusedSimpArgs false
theorem bel_grown {w w' : World} (h : Below w.heap.size w w') : w.grownBy w' none := ⟨h.os, h.tape, h.output, h.size, fun k hk _ => h.block k hk⟩
/-- the keys whose entries are wanted -/
def wantB (l : KL En) (p : En → Bool) (k : Bs) : Bool := ((lkp l k).map p).getD false
def RisE (ks : List Bs) (w : World) (e : Ending) (w' : World) : Prop := ∃ v, e = .returned v ∧ w'.ownsRow w.heap.size 9 1 v ks.length (ks.map encStr) ∧ Below w.heap.size w w'
theorem end_perm {L : KL Value} {P : Bs → Bool} (hr : Ris L) {ss all : List Bs} (hs : ss = all.filter P) (hp : all.Perm (strKeys (toD L))) : ss.mergeSort leB = (keys L).filter P := by
  have h1 : ss.Perm ((keys L).filter P) := by rw [hs, ← keys_D]; exact hp.filter P
  rw [mergeSort_of_perm h1]
  exact sort_keys (List.Pairwise.sublist List.filter_sublist (ris_keys hr))
/-- what comes up in the round -/
theorem comes {X : Nat → Prop} {w : World} {L : KL Value} {l : KL En} (ent : ∀ k, Two (EnAt X w k) (lkp L k) (lkp l k)) {x : Bs} {c : Value} {y : DataW Value × List MemPlace} (hv : RH c = some y) (hat : ∀ zd, (toD L).atKey (.string x) zd = y.1) : ∃ e, lkp l x = some e ∧ EnAt X w x c e := by
  have hh : has (toD L) (.string x) = true := has_true_of_atKey hat
  rw [has_D] at hh
  have ha := hat (.held zE)
  rw [at_D] at ha
  have hy : y = (.held c, []) := by unfold RH at hv; cases hv; rfl
  rw [hy] at ha
  have ha : (lkp L x).getD zE = c := by injection ha
  have := ent x
  unfold ok at hh
  cases h1 : lkp L x with
  | none => rw [h1] at hh; cases hh
  | some v =>
    rw [h1] at this ha
    cases h2 : lkp l x with
    | none => rw [h2] at this; exact absurd this (by simp [Two])
    | some e =>
      rw [h2] at this
      have ha : v = c := ha
      subst ha
      exact ⟨e, rfl, this⟩
set_option maxRecDepth 100000 in
theorem rising_nil (K : Value) (w : World) : Calls Tryz.prog 75 #[.pointer none, K] w fun e w' => e = .returned (.slice none 0 0) ∧ w' = w := by
  go_enter Tryz.func75, Tryz.ntmps75
  go_wp2
  go_ret
  exact ⟨rfl, rfl⟩
theorem info9 : (Tryz.prog.info? 9).map (fun i => (i.zero, i.size, i.bytes)) = some (some (.string ⟨#[]⟩), 1, 16) := by kernel_rfl
set_option maxRecDepth 100000 in
set_option maxHeartbeats 4000000 in
theorem rising_there {F X : Nat → Prop} {b : Nat} {w : World} {S : Sp} (h : SP F X b w S) (hmax : S.l.length < 8796093022208) :
    Calls Tryz.prog 75 #[ptr b, .func (.func 44) #[] #[]] w fun e w' => RisE ((keys S.l).filter (wantB S.l (fun _ => true))) w e w' := by
  obtain ⟨i0, hi, hz0, hz1, hz2⟩ := FRow.parts_of info9
  obtain ⟨FI, bm, bi, mv, L, s, h⟩ := h
  have hown := h.map
  have hbl := hown.lt
  have c0 : w.cell? ⟨b, 0, none⟩ = some (.map (some bm)) := Lib.cell_of_heap h.blk 0
  have HR := hid_of (And.intro h.ris (two_keys h.ris h.ris2 h.ent))
  have hlen : L.length < 8796093022208 := by rw [spa_len h]; exact hmax
  have HSZ := hid_of (size_D L)
  have HE := hid_of h.ent
  obtain ⟨D0, hD0⟩ : ∃ D0, D0 = toD L := ⟨_, rfl⟩
  have HD := hid_of hD0
  rw [← hD0] at hown HSZ
  clear hD0 h
  go_enter Tryz.func75, Tryz.ntmps75
  go_wp2_with (first
    | (at_range; refine wpList_range_own _ rfl _ 74 rfl 9 81 law9 Tryz.underlying74 _ bm L.length _ rfl hown ?_; intro w0 hrg0 hg0 hs0)
    | go_in)
  go_frame
  go_loopw [5] (fun v wr => ∃ (left : Lit → Bool) (cnt : Nat) (ss all : List (List UInt8)), wr.ranges Tryz.prog 9 RH bm w.heap.size L.length D0 left cnt ∧ ss.length + cnt ≤ Maps.size D0 ∧
      wr.ownsRow w.heap.size 9 1 v ss.length (ss.map encStr) ∧ Hid (ss = all.filter (wantB S.l (fun _ => true))) ∧ Collected D0 left all ∧ Below w.heap.size w wr)
    (fun _ wr => wr.rangeLeft bm w.heap.size)
  case atStart =>
    exact ⟨_, _, [], [], hrg0, by simp, World.ownsRow_nil _ _ _ _, hid_of rfl, Collected.start D0, (Below.refl _ _).grown hg0 (Nat.le_refl _) (fun j hj => by cases hj)⟩
  case round =>
    obtain ⟨left, cnt, ss, all, hrg, hcs0, hrow, HSS, hC, hnx⟩ := hrel
    have hcs : ss.length + cnt ≤ L.length := by rw [HSZ.out] at hcs0; exact hcs0
    clear hcs0
    go_wp2_with (first
      | (at_next; refine wpList_next_ranges _ rfl _ rfl 9 law9 RH encStr (fun c : Value => c) (fun key kl hk => by obtain ⟨x, hx, _⟩ := Maps.keyOf_str Tryz.underlying9 hk; exact ⟨x, hx⟩) (fun v y _ => ⟨v, rfl⟩) bm w.heap.size L.length _ _ _ rfl hrg ?_ ?_)
      | go_in)
    · intro hcn hl0
      have HP := hid_of (end_perm HR.out.1 HSS.out (by have := hC.perm hown law9 Tryz.underlying9 hl0; rw [HD.out] at this; exact this))
      rw [HR.out.2] at HP
      rcases hrow.2 with ⟨rfl, h0⟩ | ⟨g, cap, cur, rfl, hbase, hb, h1, h2, h3, h4⟩
      · have hc := Tryz.slices_Sort_string_none none 0 wr
        have hss : ss = [] := List.length_eq_zero_iff.1 h0
        subst hss
        clear hrow h0
        go_wp2_with (go_at_call 97; refine hc.mono ?_; rintro e w' ⟨rfl, rfl⟩)
        go_ret
        refine ⟨.slice none 0 0, rfl, ?_, hnx⟩
        rw [← HP.out, List.mergeSort_nil]
        exact World.ownsRow_nil _ _ _ _
      · have hH : Holds encStr wr g 0 ss.toArray := holds_of_block hb (by simpa using h4)
        have hgl : g < wr.heap.size := (Array.getElem?_eq_some_iff.1 hb).1
        have hc := Tryz.slices_Sort_string g 0 cap ss wr hH hgl (by omega)
        go_wp2_with (go_at_call 97; refine hc.mono ?_; rintro e w' ⟨rfl, nn, os, rfl⟩)
        go_ret
        refine ⟨.slice (some ⟨g, 0, none⟩) ss.length cap, rfl, ?_, hnx.grown (grownBy_sorted _) hnx.size (fun j hj => by cases hj; exact hbase)⟩
        have e1 : ss.mergeSort (fun x y => decide (x ≤ y)) = (keys S.l).filter (wantB S.l (fun _ => true)) := HP.out
        have e2 : ((keys S.l).filter (wantB S.l (fun _ => true))).length = ss.length := by rw [← e1, List.length_mergeSort]
        rw [e2, ← e1]
        exact ownsRow_sorted (by simp) hbase hb h1 h2 h3
    · intro x c kl yd yp w2 cnt2 hkey hlk hv hat hrg2 hlt hg2 hs2 hen
      obtain ⟨x', ex, rfl, _⟩ := Maps.keyOf_str Tryz.underlying9 hkey
      obtain rfl : x = x' := encStr_inj ex
      have hrow2 := hrow.kept hg2 (Or.inr (row_ne_iter hrow hrg).symm)
      clear hs2
      have hnx2 := hnx.grown hg2 hnx.size (fun j hj => by cases hj; exact Nat.le_refl _)
      obtain ⟨e, he, hE⟩ := comes HE.out hv (by rw [← HD.out]; exact hat)
      have hver := hE.ver.1
      obtain ⟨T, kd, a1, n1, c1, a2, n2, c2, a3, n3, c3, rfl, -⟩ := en_cells hE
      obtain ⟨WB, hWB⟩ : ∃ WB, WB = w2.alloc (eO (mk x) T kd (.slice a1 n1 c1) (.slice a2 n2 c2) (.slice a3 n3 c3) e.due (e.ver : Int)) := ⟨_, rfl⟩
      have hrow2a := hid_of (show WB.ownsRow w.heap.size 9 1 _ ss.length (ss.map encStr) by rw [hWB]; exact hrow2.alloc _)
      have hrg2a := hid_of (show WB.ranges Tryz.prog 9 RH bm w.heap.size L.length D0 _ cnt2 by rw [hWB]; exact hrg2.alloc _)
      have hnx2a := hid_of (show Below w.heap.size w WB by rw [hWB]; exact hnx2.alloc hnx2.size _)
      have HC := hid_of (there_call (mk x) T kd e.due a1 a2 a3 n1 c1 n2 c2 n3 c3 e.ver WB)
      rw [decide_eq_true hver] at HC
      have HWB := hid_of hWB
      clear hE hrow2 hrg2 hnx2 hWB
      have HS2 : Hid (ss ++ [x] = (all ++ [x]).filter (wantB S.l (fun _ => true))) := by show _ = _; rw [List.filter_append, ← HSS.out]; simp [wantB, he]
      clear he
      go_wp2_with fail
      rw [← HWB.out]
      refine HC.out.mono ?_
      rintro e' w3 hw3
      obtain ⟨rfl, hb3⟩ := hw3
      have hrow3 := FRow.row_below hrow2a.out hb3
      have hrg3 := hrg2a.out.kept (bel_grown hb3) (by simp) (by simp)
      have hnx3 := hnx2a.out.trans (hb3.mono hnx2a.out.size)
      clear hrow2a hrg2a hb3 hnx2a HC
      go_wp2_with (first
        | (at_builtin; refine wpList_append_own _ rfl _ _ 34 rfl w.heap.size 9 i0 (.string ⟨#[]⟩) 1 16 Tryz.underlying34 hi hz0 hz1 hz2 rfl (by decide) _ _ _ rfl (hrow3.alloc _) ⟨w3.heap.size, 0, none⟩ 1 1 [encStr x] rfl rfl (cell_one_new _ _ _) (by simp [Value.oneCell', encStr]) (by unfold maxLen at *; omega) (by omega) (by have := hnx3.size; simp; omega) ?_; intro v' w4 hown' hg4 hnil4; go_frame)
        | go_in)
      have hrg4 := (hrg3.alloc _).kept hg4 (row_ne_low hrow3 hbl) (row_ne_iter hrow3 hrg3)
      go_roundw
      case rel => exact ⟨_, cnt2, ss ++ [x], all ++ [x], hrg4, by rw [HSZ.out]; simp; omega, by simpa using hown', HS2, hC.step hlk hat, (hnx3.alloc hnx3.size _).grown hg4 (by have := hnx3.size; simp; omega) (fun j hj => (hrow3.lt j hj).1)⟩
      case measure => rw [hrg4.left_eq, hrg.left_eq]; exact hlt
end Go.Proofs.YtpnigkjmofhmbabGreat.SRise
end
section
namespace Go.Proofs.YtpnigkjmofhmbabGreat.Chunk
open Go.RowKit Go.Maps
open Go.Proofs.YtpnigkjmofhmbabGreat.Base (hid_of)
open Go.Proofs.YtpnigkjmofhmbabGreat.Turn
set_option linter.unusedVariables false
set_option linter.unusedSimpArgs false
abbrev Cs := List (List Value)
def E8 (C : Cs) : Prop := ∀ c ∈ C, c.length = 8
theorem E8.tail {c : List Value} {C : Cs} (h : E8 (c :: C)) : E8 C := fun x hx => h x (List.mem_cons_of_mem _ hx)
theorem E8.head {c : List Value} {C : Cs} (h : E8 (c :: C)) : c.length = 8 := h c List.mem_cons_self
theorem fl_len : ∀ {C : Cs}, E8 C → C.flatten.length = C.length * 8
  | [], _ => rfl
  | c :: C, h => by
    rw [List.flatten_cons, List.length_append, h.head, fl_len h.tail, List.length_cons]
    omega
theorem fl_get : ∀ {C : Cs}, E8 C → ∀ (k j : Nat) (hk : k < C.length), j < 8 → C.flatten[k * 8 + j]? = (C[k]'hk)[j]?
  | c :: C, h, 0, j, hk, hj => by
    rw [List.flatten_cons, List.getElem?_append_left (by rw [h.head]; omega)]
    simp
  | c :: C, h, k + 1, j, hk, hj => by
    rw [List.flatten_cons, List.getElem?_append_right (by rw [h.head]; omega), h.head, show (k + 1) * 8 + j - 8 = k * 8 + j by omega, fl_get h.tail k j (by simpa using hk) hj]
    rfl
theorem fl_set : ∀ {C : Cs}, E8 C → ∀ (k j : Nat) (hk : k < C.length), j < 8 → ∀ y, C.flatten.set (k * 8 + j) y = (C.set k ((C[k]'hk).set j y)).flatten
  | c :: C, h, 0, j, hk, hj, y => by
    rw [List.flatten_cons, List.set_append_left _ _ (by rw [h.head]; omega)]
    simp
  | c :: C, h, k + 1, j, hk, hj, y => by
    rw [List.flatten_cons, List.set_append_right _ _ (by rw [h.head]; omega), h.head, show (k + 1) * 8 + j - 8 = k * 8 + j by omega, fl_set h.tail k j (by simpa using hk) hj y]
    rfl
theorem E8.set {C : Cs} (h : E8 C) {k : Nat} {c : List Value} (hc : c.length = 8) : E8 (C.set k c) := fun x hx => by
  rcases List.mem_or_eq_of_mem_set hx with q | rfl
  · exact h x q
  · exact hc
/-- block g holds the cells of C -/
structure RowC (t : TypeId) (g : Nat) (C : Cs) (w : World) : Prop where
  blk : ∃ cur : Array Value, w.heap[g]? = some (.cells cur t (0, 0)) ∧ cur.toList = C.flatten
  e8 : E8 C
theorem RowC.cell {t : TypeId} {g : Nat} {C : Cs} {w : World} (h : RowC t g C w) {k j : Nat} (hk : k < C.length) (hj : j < 8) : w.cell? ⟨g, k * 8 + j, none⟩ = (C[k]'hk)[j]? := by
  obtain ⟨cur, h1, h2⟩ := h.blk
  rw [Lib.cell_of_heap h1, ← fl_get h.e8 k j hk hj, ← h2]
  simp
theorem RowC.frozen {t : TypeId} {g : Nat} {C : Cs} {w : World} (h : RowC t g C w) (o : Nat) : w.frozen? ⟨g, o, none⟩ = false := by
  obtain ⟨cur, h1, h2⟩ := h.blk
  exact Lib.frozen_of_heap h1 o
theorem RowC.lt {t : TypeId} {g : Nat} {C : Cs} {w : World} (h : RowC t g C w) : g < w.heap.size := by
  obtain ⟨cur, h1, h2⟩ := h.blk
  exact lt_of h1
theorem RowC.keep {t : TypeId} {g : Nat} {C : Cs} {w w' : World} (h : RowC t g C w) (hk : w'.heap[g]? = w.heap[g]?) : RowC t g C w' := by
  obtain ⟨cur, h1, h2⟩ := h.blk
  exact ⟨⟨cur, hk.trans h1, h2⟩, h.e8⟩
theorem RowC.put {t : TypeId} {g : Nat} {C : Cs} {w : World} (h : RowC t g C w) {k j : Nat} (hk : k < C.length) (hj : j < 8) (y : Value) : RowC t g (C.set k ((C[k]'hk).set j y)) (w.setCell ⟨g, k * 8 + j, none⟩ y) := by
  obtain ⟨cur, h1, h2⟩ := h.blk
  refine ⟨⟨_, set_at h1 y, ?_⟩, h.e8.set (by rw [List.length_set]; exact h.e8 _ (List.getElem_mem hk))⟩
  rw [Array.toList_setIfInBounds, h2, fl_set h.e8 k j hk hj]
/-- the row is its own -/
theorem RowC.own {t : TypeId} {B g : Nat} {C : Cs} {w : World} (h : RowC t g C w) (hB : B ≤ g) (hn : C.length ≤ maxLen) : w.ownsRow B t 8 (.slice (some ⟨g, 0, none⟩) C.length C.length) C.length C.flatten := by
  obtain ⟨cur, h1, h2⟩ := h.blk
  refine ⟨fl_len h.e8, .inr ⟨g, C.length, cur, rfl, hB, h1, Nat.le_refl _, hn, ?_, ?_⟩⟩
  · rw [← Array.length_toList, h2, fl_len h.e8]
  · rw [h2, List.take_of_length_le (by rw [fl_len h.e8]; omega)]
theorem of_own {t : TypeId} {B : Nat} {v : Value} {n : Nat} {xs : List Value} {w : World} {a : Option Addr} (h : w.ownsRow B t 8 (.slice (some ⟨B, 0, none⟩) n n) n xs) (C : Cs) (he : E8 C) (hC : C.flatten = xs) (hl : C.length = n) : RowC t B C w := by
  rcases h.2 with ⟨e, _⟩ | ⟨g, cap, cur, e, hb, hg, q1, q2, q3, q4⟩
  · cases e
  · injection e with e1 e2 e3
    injection e1 with e1
    injection e1 with e1
    subst e1 e3
    refine ⟨⟨cur, hg, ?_⟩, he⟩
    rw [hC, ← q4, List.take_of_length_le (by rw [Array.length_toList, q3]; omega)]
theorem rep8 (n : Nat) (z : List Value) (hz : z.length = 8) : E8 (List.replicate n z) := fun c hc => by
  rw [(List.mem_replicate.1 hc).2]
  exact hz
end Go.Proofs.YtpnigkjmofhmbabGreat.Chunk
end
