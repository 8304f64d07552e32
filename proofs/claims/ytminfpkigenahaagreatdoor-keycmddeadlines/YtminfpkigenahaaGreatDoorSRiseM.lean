/- rising: the keys whose entries are wanted, in their order. The keys that are there: a space's Keys. KEYS. strings.Builder at this program: the contracts of copyCheck, WriteByte and WriteString. -/
import Derived.Test.YtminfpkigenahaaGreatDoorDecM
import Derived.Test.YtminfpkigenahaaGreatDoorShelfM
import Derived.Maps.RangeWalk
import Derived.Sort.KeysCollected
import Derived.Test.YtminfpkigenahaaGreatDoorParseM
import Derived.Test.YtminfpkigenahaaGreatDoorGMatchM
import Derived.Deep.RegionHeld3
import Derived.Test.YtminfpkigenahaaGreatDoorEqualM
import Derived.WalkKit
import Derived.Lib.OthersKept
section
namespace Go.Proofs.YtminfpkigenahaaGreatDoor.SRise
open Go.RowKit Go.Maps Go.Sort
open Go.Proofs.YtminfpkigenahaaGreatDoor.SpaceMath (wout withL lkp keys Ris toD ok has_D at_D size_D keys_D ris_keys sort_keys)
open Go.Proofs.YtminfpkigenahaaGreatDoor.Base (mk mk_list mk_size Gr hid_of)
open Go.Proofs.YtminfpkigenahaaGreatDoor.Turn
open Go.Proofs.YtminfpkigenahaaGreatDoor.RowB (Es)
open Go.Proofs.YtminfpkigenahaaGreatDoor.Swap (law9)
open Go.Proofs.YtminfpkigenahaaGreatDoor.SBase
open Go.Proofs.YtminfpkigenahaaGreatDoor.SFind
open Go.Proofs.YtminfpkigenahaaGreatDoor.SMath
open Go.Proofs.YtminfpkigenahaaGreatDoor.SSet
open Go.Proofs.YtminfpkigenahaaGreatDoor.SDrop
set_option linter.unusedVariables false
set_option linter.unusedSimpArgs false
theorem bel_grown {w w' : World} (h : Below w.heap.size w w') : w.grownBy w' none := ⟨h.os, h.tape, h.output, h.size, fun k hk _ => h.block k hk⟩
/-- the keys whose entries are wanted -/
def wantB (l : KL En) (p : En → Bool) (k : Bs) : Bool := ((lkp l k).map p).getD false
def RisE (ks : List Bs) (w : World) (e : Ending) (w' : World) : Prop := ∃ v, e = .returned v ∧ w'.ownsRow w.heap.size 9 1 v ks.length (ks.map encStr) ∧ Below w.heap.size w w'
theorem end_perm {L : KL Value} {P : Bs → Bool} (hr : Ris L) {ss all : List Bs} (hs : ss = all.filter P) (hp : all.Perm (strKeys (toD L))) : ss.mergeSort leB = (keys L).filter P := by
  have h1 : ss.Perm ((keys L).filter P) := by rw [hs, ← keys_D]; exact hp.filter P
  rw [mergeSort_of_perm h1]
  exact sort_keys (List.Pairwise.sublist List.filter_sublist (ris_keys hr))
/-- what comes up in the round -/
theorem comes {X : Nat → Prop} {w : World} {L : KL Value} {l : KL En} (ent : ∀ k, Two (EnAt X w k) (lkp L k) (lkp l k)) {x : Bs} {c : Value} {y : DataW Value × List MemPlace} (hv : RH c = some y) (hat : ∀ zd, (toD L).atKey (.string x) zd = y.1) : ∃ e, lkp l x = some e ∧ EnAt X w x c e := by
  have hh : has (toD L) (.string x) = true := has_true_of_atKey hat
  rw [has_D] at hh
  have ha := hat (.held zE)
  rw [at_D] at ha
  have hy : y = (.held c, []) := by unfold RH at hv; cases hv; rfl
  rw [hy] at ha
  have ha : (lkp L x).getD zE = c := by injection ha
  have := ent x
  unfold ok at hh
  cases h1 : lkp L x with
  | none => rw [h1] at hh; cases hh
  | some v =>
    rw [h1] at this ha
    cases h2 : lkp l x with
    | none => rw [h2] at this; exact absurd this (by simp [Two])
    | some e =>
      rw [h2] at this
      have ha : v = c := ha
      subst ha
      exact ⟨e, rfl, this⟩
set_option maxRecDepth 100000 in
theorem rising_nil (K : Value) (w : World) : Calls Tryz.prog 109 #[.pointer none, K] w fun e w' => e = .returned (.slice none 0 0) ∧ w' = w := by
  go_enter Tryz.func109, Tryz.ntmps109
  go_wp2
  go_ret
  exact ⟨rfl, rfl⟩
theorem info9 : (Tryz.prog.info? 9).map (fun i => (i.zero, i.size, i.bytes)) = some (some (.string ⟨#[]⟩), 1, 16) := by kernel_rfl
set_option maxRecDepth 100000 in
set_option maxHeartbeats 4000000 in
theorem rising_there {F X : Nat → Prop} {b : Nat} {w : World} {S : Sp} (h : SP F X b w S) (hmax : S.l.length < 8796093022208) :
    Calls Tryz.prog 109 #[ptr b, .func (.func 25) #[] #[]] w fun e w' => RisE ((keys S.l).filter (wantB S.l (fun _ => true))) w e w' := by
  obtain ⟨i0, hi, hz0, hz1, hz2⟩ := FRow.parts_of info9
  obtain ⟨FI, bm, bi, mv, L, s, h⟩ := h
  have hown := h.map
  have hbl := hown.lt
  have c0 : w.cell? ⟨b, 0, none⟩ = some (.map (some bm)) := Lib.cell_of_heap h.blk 0
  have HR := hid_of (And.intro h.ris (two_keys h.ris h.ris2 h.ent))
  have hlen : L.length < 8796093022208 := by rw [spa_len h]; exact hmax
  have HSZ := hid_of (size_D L)
  have HE := hid_of h.ent
  obtain ⟨D0, hD0⟩ : ∃ D0, D0 = toD L := ⟨_, rfl⟩
  have HD := hid_of hD0
  rw [← hD0] at hown HSZ
  clear hD0 h
  go_enter Tryz.func109, Tryz.ntmps109
  go_wp2_with (first
    | (at_range; refine wpList_range_own _ rfl _ 39 rfl 9 51 law9 Tryz.underlying39 _ bm L.length _ rfl hown ?_; intro w0 hrg0 hg0 hs0)
    | go_in)
  go_frame
  go_loopw [5] (fun v wr => ∃ (left : Lit → Bool) (cnt : Nat) (ss all : List (List UInt8)), wr.ranges Tryz.prog 9 RH bm w.heap.size L.length D0 left cnt ∧ ss.length + cnt ≤ Maps.size D0 ∧
      wr.ownsRow w.heap.size 9 1 v ss.length (ss.map encStr) ∧ Hid (ss = all.filter (wantB S.l (fun _ => true))) ∧ Collected D0 left all ∧ Below w.heap.size w wr)
    (fun _ wr => wr.rangeLeft bm w.heap.size)
  case atStart =>
    exact ⟨_, _, [], [], hrg0, by simp, World.ownsRow_nil _ _ _ _, hid_of rfl, Collected.start D0, (Below.refl _ _).grown hg0 (Nat.le_refl _) (fun j hj => by cases hj)⟩
  case round =>
    obtain ⟨left, cnt, ss, all, hrg, hcs0, hrow, HSS, hC, hnx⟩ := hrel
    have hcs : ss.length + cnt ≤ L.length := by rw [HSZ.out] at hcs0; exact hcs0
    clear hcs0
    go_wp2_with (first
      | (at_next; refine wpList_next_ranges _ rfl _ rfl 9 law9 RH encStr (fun c : Value => c) (fun key kl hk => by obtain ⟨x, hx, _⟩ := Maps.keyOf_str Tryz.underlying9 hk; exact ⟨x, hx⟩) (fun v y _ => ⟨v, rfl⟩) bm w.heap.size L.length _ _ _ rfl hrg ?_ ?_)
      | go_in)
    · intro hcn hl0
      have HP := hid_of (end_perm HR.out.1 HSS.out (by have := hC.perm hown law9 Tryz.underlying9 hl0; rw [HD.out] at this; exact this))
      rw [HR.out.2] at HP
      rcases hrow.2 with ⟨rfl, h0⟩ | ⟨g, cap, cur, rfl, hbase, hb, h1, h2, h3, h4⟩
      · have hc := Tryz.slices_Sort_string_none none 0 wr
        have hss : ss = [] := List.length_eq_zero_iff.1 h0
        subst hss
        clear hrow h0
        go_wp2_with (go_at_call 127; refine hc.mono ?_; rintro e w' ⟨rfl, rfl⟩)
        go_ret
        refine ⟨.slice none 0 0, rfl, ?_, hnx⟩
        rw [← HP.out, List.mergeSort_nil]
        exact World.ownsRow_nil _ _ _ _
      · have hH : Holds encStr wr g 0 ss.toArray := holds_of_block hb (by simpa using h4)
        have hgl : g < wr.heap.size := (Array.getElem?_eq_some_iff.1 hb).1
        have hc := Tryz.slices_Sort_string g 0 cap ss wr hH hgl (by omega)
        go_wp2_with (go_at_call 127; refine hc.mono ?_; rintro e w' ⟨rfl, nn, os, rfl⟩)
        go_ret
        refine ⟨.slice (some ⟨g, 0, none⟩) ss.length cap, rfl, ?_, hnx.grown (grownBy_sorted _) hnx.size (fun j hj => by cases hj; exact hbase)⟩
        have e1 : ss.mergeSort (fun x y => decide (x ≤ y)) = (keys S.l).filter (wantB S.l (fun _ => true)) := HP.out
        have e2 : ((keys S.l).filter (wantB S.l (fun _ => true))).length = ss.length := by rw [← e1, List.length_mergeSort]
        rw [e2, ← e1]
        exact ownsRow_sorted (by simp) hbase hb h1 h2 h3
    · intro x c kl yd yp w2 cnt2 hkey hlk hv hat hrg2 hlt hg2 hs2 hen
      obtain ⟨x', ex, rfl, _⟩ := Maps.keyOf_str Tryz.underlying9 hkey
      obtain rfl : x = x' := encStr_inj ex
      have hrow2 := hrow.kept hg2 (Or.inr (row_ne_iter hrow hrg).symm)
      clear hs2
      have hnx2 := hnx.grown hg2 hnx.size (fun j hj => by cases hj; exact Nat.le_refl _)
      obtain ⟨e, he, hE⟩ := comes HE.out hv (by rw [← HD.out]; exact hat)
      have hver := hE.ver.1
      obtain ⟨T, kd, a1, n1, c1, a2, n2, c2, a3, n3, c3, rfl, -⟩ := en_cells hE
      obtain ⟨WB, hWB⟩ : ∃ WB, WB = w2.alloc (eO (mk x) T kd (.slice a1 n1 c1) (.slice a2 n2 c2) (.slice a3 n3 c3) e.due (e.ver : Int)) := ⟨_, rfl⟩
      have hrow2a := hid_of (show WB.ownsRow w.heap.size 9 1 _ ss.length (ss.map encStr) by rw [hWB]; exact hrow2.alloc _)
      have hrg2a := hid_of (show WB.ranges Tryz.prog 9 RH bm w.heap.size L.length D0 _ cnt2 by rw [hWB]; exact hrg2.alloc _)
      have hnx2a := hid_of (show Below w.heap.size w WB by rw [hWB]; exact hnx2.alloc hnx2.size _)
      have HC := hid_of (there_call (mk x) T kd e.due a1 a2 a3 n1 c1 n2 c2 n3 c3 e.ver WB)
      rw [decide_eq_true hver] at HC
      have HWB := hid_of hWB
      clear hE hrow2 hrg2 hnx2 hWB
      have HS2 : Hid (ss ++ [x] = (all ++ [x]).filter (wantB S.l (fun _ => true))) := by show _ = _; rw [List.filter_append, ← HSS.out]; simp [wantB, he]
      clear he
      go_wp2_with fail
      rw [← HWB.out]
      refine HC.out.mono ?_
      rintro e' w3 hw3
      obtain ⟨rfl, hb3⟩ := hw3
      have hrow3 := FRow.row_below hrow2a.out hb3
      have hrg3 := hrg2a.out.kept (bel_grown hb3) (by simp) (by simp)
      have hnx3 := hnx2a.out.trans (hb3.mono hnx2a.out.size)
      clear hrow2a hrg2a hb3 hnx2a HC
      go_wp2_with (first
        | (at_builtin; refine wpList_append_own _ rfl _ _ 26 rfl w.heap.size 9 i0 (.string ⟨#[]⟩) 1 16 Tryz.underlying26 hi hz0 hz1 hz2 rfl (by decide) _ _ _ rfl (hrow3.alloc _) ⟨w3.heap.size, 0, none⟩ 1 1 [encStr x] rfl rfl (cell_one_new _ _ _) (by simp [Value.oneCell', encStr]) (by unfold maxLen at *; omega) (by omega) (by have := hnx3.size; simp; omega) ?_; intro v' w4 hown' hg4 hnil4; go_frame)
        | go_in)
      have hrg4 := (hrg3.alloc _).kept hg4 (row_ne_low hrow3 hbl) (row_ne_iter hrow3 hrg3)
      go_roundw
      case rel => exact ⟨_, cnt2, ss ++ [x], all ++ [x], hrg4, by rw [HSZ.out]; simp; omega, by simpa using hown', HS2, hC.step hlk hat, (hnx3.alloc hnx3.size _).grown hg4 (by have := hnx3.size; simp; omega) (fun j hj => (hrow3.lt j hj).1)⟩
      case measure => rw [hrg4.left_eq, hrg.left_eq]; exact hlt
set_option maxRecDepth 100000 in
theorem seenAt_call (K T : ByteArray) (kd d now : Int) (a1 a2 a3 : Option Addr) (n1 c1 n2 c2 n3 c3 n : Nat) (cb : Nat) (w : World) (hc : w.cell? ⟨cb, 0, none⟩ = some (.int .i64 now)) :
    Calls Tryz.prog 128 #[.agg #[.string K, .int .i64 kd, .string T, .slice a1 n1 c1, .slice a2 n2 c2, .slice a3 n3 c3, .int .i64 d, .int .u64 (n : Int)], .pointer (some ⟨cb, 0, none⟩)] w fun e w' => e = .returned (.bool (seenB d n now)) ∧ Below w.heap.size w w' := by
  obtain ⟨W, hW⟩ : ∃ W, W = w.alloc (eO K T kd (.slice a1 n1 c1) (.slice a2 n2 c2) (.slice a3 n3 c3) d (n : Int)) := ⟨_, rfl⟩
  have HT := hid_of (seen_call K T kd d now a1 a2 a3 n1 c1 n2 c2 n3 c3 n W)
  have HB := hid_of (show Below w.heap.size w W by rw [hW]; exact alb _ _)
  have hl : cb < w.heap.size := block_lt_of_cell hc
  have HW := hid_of hW
  clear hW
  generalize seenB d n now = r at *
  go_enter Tryz.func128, Tryz.ntmps128
  go_wp2_with fail
  rw [← HW.out]
  refine HT.out.mono ?_
  rintro e w1 ⟨rfl, hb⟩
  have HB1 := hid_of hb
  clear hb
  go_wp2_with fail
  go_ret
  exact ⟨rfl, HB.out.trans (HB1.out.mono HB.out.size)⟩
set_option maxRecDepth 100000 in
set_option maxHeartbeats 4000000 in
theorem rising_seen {F X : Nat → Prop} {b : Nat} {w : World} {S : Sp} (h : SP F X b w S) (hmax : S.l.length < 8796093022208) (now : Int) (cb : Nat) (hcb : w.cell? ⟨cb, 0, none⟩ = some (.int .i64 now)) :
    Calls Tryz.prog 109 #[ptr b, .func (.func 128) #[] #[.pointer (some ⟨cb, 0, none⟩)]] w fun e w' => RisE ((keys S.l).filter (wantB S.l (fun e => seenB e.due e.ver now))) w e w' := by
  obtain ⟨i0, hi, hz0, hz1, hz2⟩ := FRow.parts_of info9
  obtain ⟨FI, bm, bi, mv, L, s, h⟩ := h
  have hown := h.map
  have hbl := hown.lt
  have c0 : w.cell? ⟨b, 0, none⟩ = some (.map (some bm)) := Lib.cell_of_heap h.blk 0
  have HR := hid_of (And.intro h.ris (two_keys h.ris h.ris2 h.ent))
  have hlen : L.length < 8796093022208 := by rw [spa_len h]; exact hmax
  have HSZ := hid_of (size_D L)
  have HE := hid_of h.ent
  have HCB : Hid (∀ W, Below w.heap.size w W → W.cell? ⟨cb, 0, none⟩ = some (.int .i64 now)) := hid_of fun W hW => FRow.cell_on hW hcb
  clear hcb
  obtain ⟨D0, hD0⟩ : ∃ D0, D0 = toD L := ⟨_, rfl⟩
  have HD := hid_of hD0
  rw [← hD0] at hown HSZ
  clear hD0 h
  go_enter Tryz.func109, Tryz.ntmps109
  go_wp2_with (first
    | (at_range; refine wpList_range_own _ rfl _ 39 rfl 9 51 law9 Tryz.underlying39 _ bm L.length _ rfl hown ?_; intro w0 hrg0 hg0 hs0)
    | go_in)
  go_frame
  go_loopw [5] (fun v wr => ∃ (left : Lit → Bool) (cnt : Nat) (ss all : List (List UInt8)), wr.ranges Tryz.prog 9 RH bm w.heap.size L.length D0 left cnt ∧ ss.length + cnt ≤ Maps.size D0 ∧
      wr.ownsRow w.heap.size 9 1 v ss.length (ss.map encStr) ∧ Hid (ss = all.filter (wantB S.l (fun e => seenB e.due e.ver now))) ∧ Collected D0 left all ∧ Below w.heap.size w wr)
    (fun _ wr => wr.rangeLeft bm w.heap.size)
  case atStart =>
    exact ⟨_, _, [], [], hrg0, by simp, World.ownsRow_nil _ _ _ _, hid_of rfl, Collected.start D0, (Below.refl _ _).grown hg0 (Nat.le_refl _) (fun j hj => by cases hj)⟩
  case round =>
    obtain ⟨left, cnt, ss, all, hrg, hcs0, hrow, HSS, hC, hnx⟩ := hrel
    have hcs : ss.length + cnt ≤ L.length := by rw [HSZ.out] at hcs0; exact hcs0
    clear hcs0
    go_wp2_with (first
      | (at_next; refine wpList_next_ranges _ rfl _ rfl 9 law9 RH encStr (fun c : Value => c) (fun key kl hk => by obtain ⟨x, hx, _⟩ := Maps.keyOf_str Tryz.underlying9 hk; exact ⟨x, hx⟩) (fun v y _ => ⟨v, rfl⟩) bm w.heap.size L.length _ _ _ rfl hrg ?_ ?_)
      | go_in)
    · intro hcn hl0
      have HP := hid_of (end_perm HR.out.1 HSS.out (by have := hC.perm hown law9 Tryz.underlying9 hl0; rw [HD.out] at this; exact this))
      rw [HR.out.2] at HP
      rcases hrow.2 with ⟨rfl, h0⟩ | ⟨g, cap, cur, rfl, hbase, hb, h1, h2, h3, h4⟩
      · have hc := Tryz.slices_Sort_string_none none 0 wr
        have hss : ss = [] := List.length_eq_zero_iff.1 h0
        subst hss
        clear hrow h0
        go_wp2_with (go_at_call 127; refine hc.mono ?_; rintro e w' ⟨rfl, rfl⟩)
        go_ret
        refine ⟨.slice none 0 0, rfl, ?_, hnx⟩
        rw [← HP.out, List.mergeSort_nil]
        exact World.ownsRow_nil _ _ _ _
      · have hH : Holds encStr wr g 0 ss.toArray := holds_of_block hb (by simpa using h4)
        have hgl : g < wr.heap.size := (Array.getElem?_eq_some_iff.1 hb).1
        have hc := Tryz.slices_Sort_string g 0 cap ss wr hH hgl (by omega)
        go_wp2_with (go_at_call 127; refine hc.mono ?_; rintro e w' ⟨rfl, nn, os, rfl⟩)
        go_ret
        refine ⟨.slice (some ⟨g, 0, none⟩) ss.length cap, rfl, ?_, hnx.grown (grownBy_sorted _) hnx.size (fun j hj => by cases hj; exact hbase)⟩
        have e1 : ss.mergeSort (fun x y => decide (x ≤ y)) = (keys S.l).filter (wantB S.l (fun e => seenB e.due e.ver now)) := HP.out
        have e2 : ((keys S.l).filter (wantB S.l (fun e => seenB e.due e.ver now))).length = ss.length := by rw [← e1, List.length_mergeSort]
        rw [e2, ← e1]
        exact ownsRow_sorted (by simp) hbase hb h1 h2 h3
    · intro x c kl yd yp w2 cnt2 hkey hlk hv hat hrg2 hlt hg2 hs2 hen
      obtain ⟨x', ex, rfl, _⟩ := Maps.keyOf_str Tryz.underlying9 hkey
      obtain rfl : x = x' := encStr_inj ex
      have hrow2 := hrow.kept hg2 (Or.inr (row_ne_iter hrow hrg).symm)
      clear hs2
      have hnx2 := hnx.grown hg2 hnx.size (fun j hj => by cases hj; exact Nat.le_refl _)
      obtain ⟨e, he, hE⟩ := comes HE.out hv (by rw [← HD.out]; exact hat)
      have hver := hE.ver.1
      obtain ⟨T, kd, a1, n1, c1, a2, n2, c2, a3, n3, c3, rfl, -⟩ := en_cells hE
      obtain ⟨WB, hWB⟩ : ∃ WB, WB = w2.alloc (eO (mk x) T kd (.slice a1 n1 c1) (.slice a2 n2 c2) (.slice a3 n3 c3) e.due (e.ver : Int)) := ⟨_, rfl⟩
      have hrow2a := hid_of (show WB.ownsRow w.heap.size 9 1 _ ss.length (ss.map encStr) by rw [hWB]; exact hrow2.alloc _)
      have hrg2a := hid_of (show WB.ranges Tryz.prog 9 RH bm w.heap.size L.length D0 _ cnt2 by rw [hWB]; exact hrg2.alloc _)
      have hnx2a := hid_of (show Below w.heap.size w WB by rw [hWB]; exact hnx2.alloc hnx2.size _)
      have HC := hid_of (seenAt_call (mk x) T kd e.due now a1 a2 a3 n1 c1 n2 c2 n3 c3 e.ver cb WB (HCB.out WB hnx2a.out))
      have HWB := hid_of hWB
      clear hE hrow2 hrg2 hnx2 hWB
      by_cases hP : seenB e.due e.ver now = true
      · rw [hP] at HC
        have HS2 : Hid (ss ++ [x] = (all ++ [x]).filter (wantB S.l (fun e => seenB e.due e.ver now))) := by show _ = _; rw [List.filter_append, ← HSS.out]; simp [wantB, he, hP]
        clear hP he
        go_wp2_with fail
        rw [← HWB.out]
        refine HC.out.mono ?_
        rintro e' w3 hw3
        obtain ⟨rfl, hb3⟩ := hw3
        have hrow3 := FRow.row_below hrow2a.out hb3
        have hrg3 := hrg2a.out.kept (bel_grown hb3) (by simp) (by simp)
        have hnx3 := hnx2a.out.trans (hb3.mono hnx2a.out.size)
        clear hrow2a hrg2a hb3 hnx2a HC
        go_wp2_with (first
          | (at_builtin; refine wpList_append_own _ rfl _ _ 26 rfl w.heap.size 9 i0 (.string ⟨#[]⟩) 1 16 Tryz.underlying26 hi hz0 hz1 hz2 rfl (by decide) _ _ _ rfl (hrow3.alloc _) ⟨w3.heap.size, 0, none⟩ 1 1 [encStr x] rfl rfl (cell_one_new _ _ _) (by simp [Value.oneCell', encStr]) (by unfold maxLen at *; omega) (by omega) (by have := hnx3.size; simp; omega) ?_; intro v' w4 hown' hg4 hnil4; go_frame)
          | go_in)
        have hrg4 := (hrg3.alloc _).kept hg4 (row_ne_low hrow3 hbl) (row_ne_iter hrow3 hrg3)
        go_roundw
        case rel => exact ⟨_, cnt2, ss ++ [x], all ++ [x], hrg4, by rw [HSZ.out]; simp; omega, by simpa using hown', HS2, hC.step hlk hat, (hnx3.alloc hnx3.size _).grown hg4 (by have := hnx3.size; simp; omega) (fun j hj => (hrow3.lt j hj).1)⟩
        case measure => rw [hrg4.left_eq, hrg.left_eq]; exact hlt
      · have hP : seenB e.due e.ver now = false := by simpa using hP
        rw [hP] at HC
        have HS2 : Hid (ss = (all ++ [x]).filter (wantB S.l (fun e => seenB e.due e.ver now))) := by show _ = _; rw [List.filter_append, ← HSS.out]; simp [wantB, he, hP]
        clear hP he
        go_wp2_with fail
        rw [← HWB.out]
        refine HC.out.mono ?_
        rintro e' w3 hw3
        obtain ⟨rfl, hb3⟩ := hw3
        have hrow3 := FRow.row_below hrow2a.out hb3
        have hrg3 := hrg2a.out.kept (bel_grown hb3) (by simp) (by simp)
        have hnx3 := hnx2a.out.trans (hb3.mono hnx2a.out.size)
        clear hrow2a hrg2a hb3 hnx2a HC
        go_wp2_with fail
        go_roundw
        case rel => exact ⟨_, cnt2, ss, all ++ [x], hrg3, by rw [HSZ.out]; omega, hrow3, HS2, hC.step hlk hat, hnx3⟩
        case measure => rw [hrg3.left_eq, hrg.left_eq]; exact hlt
end Go.Proofs.YtminfpkigenahaaGreatDoor.SRise
end
section
namespace Go.Proofs.YtminfpkigenahaaGreatDoor.KKeys
open Go.RowKit Go.Maps
open Go.Proofs.YtminfpkigenahaaGreatDoor.SpaceMath (wout withL lkp keys Ris toD)
open Go.Proofs.YtminfpkigenahaaGreatDoor.ValueMath (Vl chk small)
open Go.Proofs.YtminfpkigenahaaGreatDoor.Base (mk mk_list mk_size Gr hid_of SL)
open Go.Proofs.YtminfpkigenahaaGreatDoor.Turn
open Go.Proofs.YtminfpkigenahaaGreatDoor.Vals
open Go.Proofs.YtminfpkigenahaaGreatDoor.Check0 (Wel)
open Go.Proofs.YtminfpkigenahaaGreatDoor.SBase
open Go.Proofs.YtminfpkigenahaaGreatDoor.SFind
open Go.Proofs.YtminfpkigenahaaGreatDoor.SPut (vO)
open Go.Proofs.YtminfpkigenahaaGreatDoor.QBase
open Go.Proofs.YtminfpkigenahaaGreatDoor.KCmd
open Go.Proofs.YtminfpkigenahaaGreatDoor.Parse (Has)
set_option linter.unusedVariables false
set_option linter.unusedSimpArgs false
open Go.Proofs.YtminfpkigenahaaGreatDoor.KEx
open Go.Proofs.YtminfpkigenahaaGreatDoor.SRise
def keysM (S : Sp) (now : Int) : List Bs := (keys S.l).filter (wantB S.l (fun e => seenB e.due e.ver now))
section
variable {F X : Nat → Prop} {b : Nat} {w : World} {S : Sp}
set_option maxHeartbeats 4000000 in
set_option maxRecDepth 100000 in
theorem keys_call (h : SP F X b w S) (hmax : S.l.length < 8796093022208) (now : Int) :
    Calls Tryz.prog 82 #[ptr b, .int .i64 now] w fun e w' => ∃ v, e = .returned v ∧ w'.ownsRow w.heap.size 9 1 v (keysM S now).length ((keysM S now).map encStr) ∧ Below w.heap.size w w' := by
  obtain ⟨W, hW⟩ : ∃ W, W = w.alloc (.cells #[.int .i64 now] 3) := ⟨_, rfl⟩
  have bW : Below w.heap.size w W := by rw [hW]; exact alb _ _
  have x0 : W.heap[w.heap.size]? = some (.cells #[.int .i64 now] 3) := by rw [hW]; exact heap_alloc_new w _
  have hc := Lib.cell_of_heap x0 0
  have sW : w.heap.size ≤ W.heap.size := bW.size
  have HSW := hid_of sW
  have HB := hid_of bW
  have HW := hid_of hW
  have H0 : Hid (Calls Tryz.prog 110 #[.int .i64 now] w fun e w' => e = .returned (.func (.func 128) #[] #[.pointer (some ⟨w.heap.size, 0, none⟩)]) ∧ w' = W) := hid_of (by
    clear hc x0 bW hW sW
    go_enter Tryz.func110, Tryz.ntmps110
    go_wp2_with fail
    rw [← HW.out]
    go_wp2_with fail
    go_ret
    exact ⟨rfl, rfl⟩)
  have H1 := hid_of (rising_seen (h.below bW) hmax now w.heap.size hc)
  clear hc x0 bW hW sW h
  go_enter Tryz.func82, Tryz.ntmps82
  go_wp2_with fail
  refine H0.out.mono ?_
  rintro e w1 ⟨rfl, rfl⟩
  go_wp2_with fail
  refine H1.out.mono ?_
  rintro e w2 ⟨v, rfl, ho, b2⟩
  have HO := hid_of ho
  have B2 := hid_of b2
  clear ho b2
  go_wp2_with fail
  go_ret
  exact ⟨_, rfl, FRow.row_mono HO.out HSW.out, FRow.bel HB.out B2.out (Nat.le_refl _)⟩
end
end Go.Proofs.YtminfpkigenahaaGreatDoor.KKeys
end
section
namespace Go.Proofs.YtminfpkigenahaaGreatDoor.KKc
open Go.RowKit Go.Maps
open Go.Proofs.YtminfpkigenahaaGreatDoor.SpaceMath (wout withL lkp keys Ris toD)
open Go.Proofs.YtminfpkigenahaaGreatDoor.ValueMath (Vl chk small)
open Go.Proofs.YtminfpkigenahaaGreatDoor.Base (mk mk_list mk_size Gr hid_of SL)
open Go.Proofs.YtminfpkigenahaaGreatDoor.Turn
open Go.Proofs.YtminfpkigenahaaGreatDoor.Vals
open Go.Proofs.YtminfpkigenahaaGreatDoor.Check0 (Wel)
open Go.Proofs.YtminfpkigenahaaGreatDoor.SBase
open Go.Proofs.YtminfpkigenahaaGreatDoor.SFind
open Go.Proofs.YtminfpkigenahaaGreatDoor.SPut (vO)
open Go.Proofs.YtminfpkigenahaaGreatDoor.QBase
open Go.Proofs.YtminfpkigenahaaGreatDoor.KCmd
open Go.Proofs.YtminfpkigenahaaGreatDoor.Parse (Has)
set_option linter.unusedVariables false
set_option linter.unusedSimpArgs false
open Go.Proofs.YtminfpkigenahaaGreatDoor.KEx
open Go.Proofs.YtminfpkigenahaaGreatDoor.KRow
open Go.Proofs.YtminfpkigenahaaGreatDoor.KKeys
open Go.Proofs.YtminfpkigenahaaGreatDoor.KMatch
theorem own_sl {B : Nat} {w : World} {v : Value} {l : List Bs} (h : w.ownsRow B 9 1 v l.length (l.map encStr)) : SL TT w v l := by
  rcases h.2 with ⟨rfl, h0⟩ | ⟨g, cap, cur, rfl, hb, hg, q1, q2, q3, q4⟩
  · have : l = [] := List.length_eq_zero_iff.1 h0
    subst this
    exact SL.nil _ _
  · refine ⟨_, cap, rfl, q1, Or.inr ⟨g, 0, rfl, trivial, fun j x hj => ?_⟩⟩
    have hlt := (List.getElem?_eq_some_iff.1 hj).1
    rw [Nat.zero_add, h.cellAt j (by omega), List.getElem?_map, hj]
    rfl
section
variable {F X : Nat → Prop} {b : Nat} {w : World} {S : Sp}
set_option maxHeartbeats 20000000 in
set_option maxRecDepth 100000 in
theorem keyscmd_call (h : SP F X b w S) (hmax : S.l.length < 4000000000000) (now : Int) {G : Nat → Prop} {a : Option Addr} {n c : Nat} {l : List Base.El} (hl : SL G w (.slice a n c) l) (hl0 : 0 < l.length) (hP : l[0].length ≤ 1000000000) (hkl : (keysM S now).length < 4000000000000) (hkb : ∀ x ∈ keysM S now, x.length ≤ 1000000000) :
    Calls Tryz.prog 47 #[cV b now a n c] w fun e w' => ∃ v, e = .returned (rpL v) ∧ RR w.heap.size w' v (matM (mk l[0]) (keysM S now)) ∧ Dn F X b w w' S := by
  obtain ⟨rfl, hcs⟩ := sl_get hl
  obtain ⟨ga, oa, rfl, hc0⟩ := hcs 0 (by omega)
  rw [Nat.add_zero] at hc0
  have hga : ga < w.heap.size := Base.cell_lt hc0
  obtain ⟨W, hW⟩ : ∃ W, W = (w.alloc (cO b now (some ⟨ga, oa, none⟩) l.length c)).alloc (rO 0 ⟨#[]⟩ 0 (.slice none 0 0)) := ⟨_, rfl⟩
  obtain ⟨bW, x0, x1, sW⟩ := two_boxes w (cO b now (some ⟨ga, oa, none⟩) l.length c) (rO 0 ⟨#[]⟩ 0 (.slice none 0 0)) ⟨_, _, rfl⟩
  rw [← hW] at bW x0 x1 sW
  have HH := hid_of h
  have HB := hid_of bW
  have HX0 := hid_of x0
  have HX1 := hid_of x1
  have HSW := hid_of sW
  have HW := hid_of hW
  have t0 : KCmd.Tmp w W w.heap.size := ⟨Nat.le_refl _, by rw [HSW.out]; omega⟩
  have t1 : KCmd.Tmp w W (w.heap.size + 1) := ⟨by omega, by rw [HSW.out]; omega⟩
  have HKy : Hid (∀ V, Below W.heap.size W V → Calls Tryz.prog 82 #[ptr b, .int .i64 now] V fun e w' => ∃ a n c, e = .returned (.slice a n c) ∧ SL TT w' (.slice a n c) (keysM S now) ∧ Below V.heap.size V w') := hid_of fun V hV => (keys_call ((h.below bW).below hV) (by omega) now).mono fun e w' ⟨v, h1, h2, h3⟩ => by
    have h4 : SL TT w' v (keysM S now) := own_sl h2
    obtain ⟨a1, c1, e1, _⟩ := id h4
    exact ⟨a1, _, c1, by rw [h1, e1], by rw [← e1]; exact h4, h3⟩
  have HMt : Hid (∀ V a1 n1 c1, SL TT V (.slice a1 n1 c1) (keysM S now) → Calls Tryz.prog 81 #[.slice a1 n1 c1, .string (mk l[0])] V fun e w' => ∃ v, e = .returned (rpL v) ∧ RR V.heap.size w' v (matM (mk l[0]) (keysM S now)) ∧ Below V.heap.size V w') := hid_of fun V a1 n1 c1 hs => matching_call V (mk l[0]) (by rw [mk_size]; exact hP) hs hkl hkb
  have HS : Hid (∀ U, Below W.heap.size W U → U.cell? ⟨w.heap.size, 0, none⟩ = some (ptr b) ∧ U.cell? ⟨w.heap.size, 1, none⟩ = some (.int .i64 now) ∧ U.cell? ⟨w.heap.size, 2, none⟩ = some (.slice (some ⟨ga, oa, none⟩) l.length c) ∧ U.cell? ⟨ga, oa, none⟩ = some (.string (mk l[0]))) := hid_of fun U hU => by
    obtain ⟨⟨c0, c1, c2⟩, -⟩ := box3 ((hU.block _ (lt_of HX0.out)).trans HX0.out)
    exact ⟨c0, c1, c2, ((hU.cell (p := ⟨ga, oa, none⟩) (Nat.lt_of_lt_of_le hga HB.out.size)).trans ((HB.out.cell (p := ⟨ga, oa, none⟩) hga).trans hc0))⟩
  obtain ⟨c0, c1, c2, c3⟩ := HS.out W (Below.refl _ W)
  have hlb0 : (0 : Int) < (l.length : Int) := by omega
  clear hW bW x0 x1 sW h hcs hl hc0 hkl hkb hP hmax
  generalize hMM : matM (mk l[0]) (keysM S now) = M at *
  generalize mk l[0] = KK at *
  generalize keysM S now = ks at *
  clear hMM
  go_enter Tryz.func47, Tryz.ntmps47
  go_wp2_with fail
  rw [← HW.out]
  go_region_with (first
    | (go_at_call 82; refine (HKy.out _ (Below.refl _ W).drew).mono ?_; rintro e w3 ⟨ka, kn, kc, rfl, hks, b3⟩; have B3 := hid_of (FRow.bel (Below.refl _ W).drew b3 (Nat.le_refl _)); have HKS := hid_of hks; obtain ⟨d0, d1, d2, d3⟩ := HS.out w3 B3.out; clear hks b3)
    | (go_at_call 81; refine (HMt.out _ _ _ _ HKS.out).mono ?_; rintro e w4 ⟨v, rfl, hr, b4⟩; obtain ⟨a5, n5, c5, rfl⟩ := rr_form hr; have D4 := Dn.of (sp_wide HH.out HB.out) (FRow.bel B3.out b4 (Nat.le_refl _)); have z2 := (dn_block HH.out HB.out D4 t1).trans HX1.out; have hz := fin4_at z2 (.int .i64 6) (.string ⟨#[]⟩) (.int .i64 0) (.slice a5 n5 c5); have hdn := dn_tmp HH.out HB.out D4 (ev_fin4 t1 (.int .i64 6) (.string ⟨#[]⟩) (.int .i64 0) (.slice a5 n5 c5)); have hrow : RR w.heap.size (fin4 w4 (w.heap.size + 1) (.int .i64 6) (.string ⟨#[]⟩) (.int .i64 0) (.slice a5 n5 c5)) (.slice a5 n5 c5) M := FRow.row_mono (FRow.row_later hr fun g cs t fz hg hgg ht => (by
        have hlt2 := (hr.lt g hg).1
        have h3 := B3.out.size
        have : g ≠ w.heap.size + 1 := by have := HSW.out; omega
        unfold fin4
        rw [set_ne this, set_ne this, set_ne this, set_ne this])) (by have := HSW.out; have h3 := B3.out.size; omega); have HZ := hid_of hz; have HDN := hid_of hdn; have HRW := hid_of hrow; unfold fin4 at HZ HDN HRW; obtain ⟨⟨v0, v1, v2, v3⟩, fv⟩ := box4 z2; have fv0 := fv 0; have fv1 := fv 1; have fv2 := fv 2; have fv3 := fv 3; clear fv z2 hz hdn hrow hr b4 D4))
  all_goals
    go_wp2_with fail
    obtain ⟨⟨g0, g1, g2, g3⟩, -⟩ := box4 HZ.out
    exact bodyPost_ret (v := rpL (.slice a5 n5 c5)) (by simp [results, Tryz.results47, go_sem, g0, g1, g2, g3]) rfl ⟨_, rfl, HRW.out, HDN.out⟩
end
end Go.Proofs.YtminfpkigenahaaGreatDoor.KKc
end
section
set_option linter.unusedVariables false
namespace Go.Proofs.YtminfpkigenahaaGreatDoor.Builder
open Go.RowKit Go.Shelf

/- below B all stands, and above it all but the builder's own block and rows of bytes -/
def Kp (B b : Nat) (w w' : World) : Prop := Below B w w' ∧ Lib.OthersKept 5 (some b) w w'
theorem Kp.refl (B b : Nat) (w : World) : Kp B b w w := ⟨Below.refl B w, Lib.OthersKept.refl _ _ w⟩
theorem Kp.trans {B b : Nat} {x y z : World} (h : Kp B b x y) (k : Kp B b y z) : Kp B b x z := ⟨h.1.trans k.1, h.2.trans k.2⟩
theorem Kp.alloc {B b : Nat} {x y : World} (h : Kp B b x y) (hB : B ≤ x.heap.size) (o : Obj) : Kp B b x (y.alloc o) := ⟨h.1.alloc (Nat.le_trans hB h.1.size) o, h.2.alloc o⟩
theorem Kp.size {B b : Nat} {x y : World} (h : Kp B b x y) : x.heap.size ≤ y.heap.size := h.1.size
theorem owns_kind {w : World} {B : Nat} {e : TypeId} {v : Value} {n z : Nat} {xs : List Value} (h : w.ownsRow B e z v n xs) : ∀ g, v.ownBlock = some g → ∃ c fz, w.heap[g]? = some (.cells c e fz) := by
  intro g hg
  rcases h.2 with ⟨rfl, _⟩ | ⟨g', cap, cur, rfl, _, hgg, _⟩
  · simp [Value.ownBlock] at hg
  · simp [Value.ownBlock] at hg
    subst hg
    exact ⟨cur, _, hgg⟩

theorem size59 : (Tryz.prog.info? 164).map (·.size) = some 2 := by kernel_rfl
theorem lies59 : liesAt Tryz.prog Tryz.prog.depth 164 (2 / Tryz.prog.cellsOf 164) 0 164 1 = true := by kernel_rfl
theorem info5 : (Tryz.prog.info? 5).map (fun i => (i.zero, i.size, i.bytes)) = some (some (.int .u8 0), 1, 1) := by kernel_rfl

set_option maxHeartbeats 1000000 in
set_option maxRecDepth 100000 in
theorem check_used (b : Nat) (w : World) (h0 : w.cell? ⟨b, 0, none⟩ = some (.pointer (some ⟨b, 0, none⟩))) :
    Calls Tryz.prog 124 #[.pointer (some ⟨b, 0, none⟩)] w fun e w' => e = .returned (.tuple #[]) ∧ w' = w := by
  obtain ⟨j, hj, _⟩ := Option.map_eq_some_iff.1 size59
  go_enter Tryz.func124, Tryz.ntmps124
  go_wp2
  rw [Lib.run_neq_ptr_same w _ Tryz.underlying162 hj]
  go_wp2
  go_end0
  exact ⟨rfl, rfl⟩
set_option maxHeartbeats 1000000 in
set_option maxRecDepth 100000 in
theorem check_fresh (b : Nat) (w : World) (h0 : w.cell? ⟨b, 0, none⟩ = some (.pointer none)) (hsh : w.shape? b = some (164, 2)) (hfz : w.frozen? ⟨b, 0, none⟩ = false) :
    Calls Tryz.prog 124 #[.pointer (some ⟨b, 0, none⟩)] w fun e w' => e = .returned (.tuple #[]) ∧ w' = w.setCell ⟨b, 0, none⟩ (.pointer (some ⟨b, 0, none⟩)) := by
  obtain ⟨j, hj, hjs⟩ := Option.map_eq_some_iff.1 size59
  go_enter Tryz.func124, Tryz.ntmps124
  go_wp2
  rw [Lib.run_to_unsafe w ⟨b, 0, none⟩ Tryz.underlying162 Tryz.underlying201 hj (by rw [hjs]; decide) hsh (Nat.zero_lt_succ 1)]
  simp only [Result.andThen]
  rw [Oper.upon_value]
  go_wp2
  rw [run_callFunc_extern Tryz.func143 (by kernel_rfl) (by kernel_rfl) (by kernel_rfl) (e := Extern.AbiNoEscape.same) (by kernel_rfl)]
  rw [Lib.run_noEscape]
  simp only [Result.andThen]
  rw [Oper.upon_value]
  go_wp2
  rw [Lib.run_from_unsafe w ⟨b, 0, none⟩ Tryz.underlying201 Tryz.underlying162 hj hsh lies59]
  simp only [Result.andThen]
  rw [Oper.upon_value]
  go_wp2
  go_end0
  exact ⟨rfl, rfl⟩
theorem check_any (B b : Nat) (bs : List Value) (w : World) (h : Lib.IsBuilder 164 5 B b bs w) :
    Calls Tryz.prog 124 #[.pointer (some ⟨b, 0, none⟩)] w fun e w' => e = .returned (.tuple #[]) ∧ (Lib.BuilderAt 164 5 B b (.pointer (some ⟨b, 0, none⟩)) bs w' ∧ Kp B b w w') := by
  rcases h with h | h
  · refine (check_fresh b w h.cell0 h.shape h.frozen0).mono ?_
    rintro e w' ⟨rfl, rfl⟩
    exact ⟨rfl, h.used _, (Below.refl B w).setCell (p := ⟨b, 0, none⟩) h.1 _, (Lib.OthersKept.refl _ _ w).setCell ⟨b, 0, none⟩ rfl _⟩
  · refine (check_used b w h.cell0).mono ?_
    rintro e w' ⟨rfl, rfl⟩
    exact ⟨rfl, h, Kp.refl B b _⟩
set_option maxHeartbeats 2000000 in
set_option maxRecDepth 100000 in
theorem put_byte (B b : Nat) (bs : List Value) (c : Int) (w : World) (h : Lib.IsBuilder 164 5 B b bs w) (hlen : bs.length + 1 ≤ 140737488355328) (hBw : B ≤ w.heap.size) :
    Calls Tryz.prog 104 #[.pointer (some ⟨b, 0, none⟩), .int .u8 c] w fun e w' => e = .returned .nilIface ∧ (Lib.BuilderAt 164 5 B b (.pointer (some ⟨b, 0, none⟩)) (bs ++ [.int .u8 c]) w' ∧ Kp B b w w') := by
  obtain ⟨i0, hi, hz0, hz1, hz2⟩ := info_parts info5
  go_enter Tryz.func104, Tryz.ntmps104
  go_wp2_with (go_at_call 124; refine (check_any B b bs _ h).mono ?_)
  rintro e w1 ⟨rfl, h1, hb1⟩
  obtain ⟨hB, v, hbk, hown, hne⟩ := h1
  have c0 : w1.cell? ⟨b, 0, none⟩ = some (.pointer (some ⟨b, 0, none⟩)) := by rw [Lib.cell_of_heap hbk]; rfl
  have c1 : w1.cell? ⟨b, 1, none⟩ = some v := by rw [Lib.cell_of_heap hbk]; rfl
  go_wp2_with (at_builtin; refine wpList_append_own _ rfl _ _ 105 rfl B 5 i0 (.int .u8 0) 1 1 Tryz.underlying105 hi hz0 hz1 hz2 rfl (by decide) _ _ _ rfl (hown.alloc _) ⟨w1.heap.size, 0, none⟩ 1 1 [.int .u8 c] rfl rfl ?c1 ?c2 ?c3 ?c4 ?c5 ?_)
  case c1 =>
    intro j u hj
    match j, hj with
    | 0, hj => simp at hj; subst hj; simp [Addr.add]
  case c2 => intro u hu; simp at hu; subst hu; rfl
  case c3 => unfold maxLen; omega
  case c4 => omega
  case c5 => have := hb1.size; simp; omega
  intro v' w2 hown' hgrow _
  have hlt : b < w1.heap.size := by
    rcases Nat.lt_or_ge b w1.heap.size with h' | h'
    · exact h'
    · simp [Array.getElem?_eq_none h'] at hbk
  have hb2 : w2.heap[b]? = some (.cells #[.pointer (some ⟨b, 0, none⟩), v] 164 (0, 0)) := by
    rw [hgrow.block b (by simp; omega) (fun e => hne e.symm), Lib.alloc_old w1 _ b hlt]
    exact hbk
  have d0 : w2.cell? ⟨b, 0, none⟩ = some (.pointer (some ⟨b, 0, none⟩)) := by rw [Lib.cell_of_heap hb2]; rfl
  have d1 : w2.cell? ⟨b, 1, none⟩ = some v := by rw [Lib.cell_of_heap hb2]; rfl
  have f1 : w2.frozen? ⟨b, 1, none⟩ = false := Lib.frozen_of_heap hb2 1
  obtain ⟨g, cap, rfl⟩ : ∃ g cap, v' = .slice (some ⟨g, 0, none⟩) (bs.length + 1) cap := by
    rcases hown'.2 with ⟨_, h0⟩ | ⟨g, cap, cur, hv, _⟩
    · omega
    · exact ⟨g, cap, hv⟩
  go_wp2
  go_ret
  refine ⟨rfl, ?_, ?_⟩
  · exact Lib.BuilderAt.put (T := 164) (e := 5) hB hb2 (bs' := bs ++ [.int .u8 c]) (by simpa using hown') (by decide)
  · refine ⟨((hb1.1.alloc (by have := hb1.size; omega) _).grown hgrow (by have := hb1.size; simp; omega) (fun k hk => (hown.lt k hk).1)).setCell (p := ⟨b, 1, none⟩) hB _, ?_⟩
    exact ((hb1.2.alloc _).grown hgrow (owns_kind (hown.alloc _))).setCell ⟨b, 1, none⟩ rfl _
set_option maxHeartbeats 2000000 in
set_option maxRecDepth 100000 in
theorem put_string (B b : Nat) (bs : List Value) (s : ByteArray) (w : World) (h : Lib.IsBuilder 164 5 B b bs w) (hlen : bs.length + s.size ≤ 140737488355328) (hBw : B ≤ w.heap.size) :
    Calls Tryz.prog 226 #[.pointer (some ⟨b, 0, none⟩), .string s] w fun e w' => e = .returned (.tuple #[.int .i64 s.size, .nilIface]) ∧ (Lib.BuilderAt 164 5 B b (.pointer (some ⟨b, 0, none⟩)) (bs ++ Lib.strCells s) w' ∧ Kp B b w w') := by
  obtain ⟨i0, hi, hz0, hz1, hz2⟩ := info_parts info5
  go_enter Tryz.func226, Tryz.ntmps226
  go_wp2_with (go_at_call 124; refine (check_any B b bs _ h).mono ?_)
  rintro e w1 ⟨rfl, h1, hb1⟩
  obtain ⟨hB, v, hbk, hown, hne⟩ := h1
  have c0 : w1.cell? ⟨b, 0, none⟩ = some (.pointer (some ⟨b, 0, none⟩)) := by rw [Lib.cell_of_heap hbk]; rfl
  have c1 : w1.cell? ⟨b, 1, none⟩ = some v := by rw [Lib.cell_of_heap hbk]; rfl
  go_wp2_with (at_builtin; refine Lib.wpList_append_own_string _ rfl _ _ 105 9 rfl B 5 i0 Tryz.underlying105 Tryz.underlying9 hi hz0 hz1 hz2 _ _ _ rfl hown s rfl ?c3 ?c4 ?c5 ?_)
  case c3 => unfold maxLen; omega
  case c4 => omega
  case c5 => have := hb1.size; omega
  intro v' w2 hown' hgrow _
  have hlt : b < w1.heap.size := by
    rcases Nat.lt_or_ge b w1.heap.size with h' | h'
    · exact h'
    · simp [Array.getElem?_eq_none h'] at hbk
  have hb2 : w2.heap[b]? = some (.cells #[.pointer (some ⟨b, 0, none⟩), v] 164 (0, 0)) := by
    rw [hgrow.block b hlt (fun e => hne e.symm)]
    exact hbk
  have d0 : w2.cell? ⟨b, 0, none⟩ = some (.pointer (some ⟨b, 0, none⟩)) := by rw [Lib.cell_of_heap hb2]; rfl
  have d1 : w2.cell? ⟨b, 1, none⟩ = some v := by rw [Lib.cell_of_heap hb2]; rfl
  have f1 : w2.frozen? ⟨b, 1, none⟩ = false := Lib.frozen_of_heap hb2 1
  obtain ⟨ao, n', cap, rfl⟩ : ∃ ao n' cap, v' = .slice ao n' cap := by
    rcases hown'.2 with ⟨hv, _⟩ | ⟨g, cap, cur, hv, _⟩
    · exact ⟨_, _, _, hv⟩
    · exact ⟨_, _, _, hv⟩
  go_wp2
  go_ret2
  refine ⟨rfl, ?_, ?_⟩
  · exact Lib.BuilderAt.put (T := 164) (e := 5) hB hb2 (bs' := bs ++ Lib.strCells s) (by simpa [Lib.strCells_length] using hown') (by decide)
  · refine ⟨(hb1.1.grown hgrow (by have := hb1.size; omega) (fun k hk => (hown.lt k hk).1)).setCell (p := ⟨b, 1, none⟩) hB _, ?_⟩
    exact (hb1.2.grown hgrow (owns_kind hown)).setCell ⟨b, 1, none⟩ rfl _
end Go.Proofs.YtminfpkigenahaaGreatDoor.Builder
end
