/- drop. Find from the end. Find, whatever the rank. slices.Sort of a new row of numbers; the places that are found, in their order. Remove. -/
import Derived.Test.YtpibeabokedpdaaGreatDoorDqSFindBM
import Derived.Test.YtpibeabokedpdaaGreatDoorDqFindMathM
import Derived.Test.YtpibeabokedpdaaGreatDoorDqPopM
import Derived.Test.YtpibeabokedpdaaGreatDoorShelfM
import Derived.Sort.OwnSortedInts
section
namespace Go.Proofs.YtpibeabokedpdaaGreatDoor.DqSDropC
open Go.RowKit
open Go.Proofs.YtpibeabokedpdaaGreatDoor.DqSBase
open Go.Proofs.YtpibeabokedpdaaGreatDoor.DqBase (Fr Gr ptr hid_of lt_of set_at set_ne size_set row_ne size_row add_off bel_drewN ca ca_some ca_zero cell_lt)
open Go.Proofs.YtpibeabokedpdaaGreatDoor.DqSHeld
open Go.Proofs.YtpibeabokedpdaaGreatDoor.DqSLay
open Go.Proofs.YtpibeabokedpdaaGreatDoor.DqSFree
open Go.Proofs.YtpibeabokedpdaaGreatDoor.DqSKeep
open Go.Proofs.YtpibeabokedpdaaGreatDoor.DqSPlace
open Go.Proofs.YtpibeabokedpdaaGreatDoor.DqFindMath
open Go.Proofs.YtpibeabokedpdaaGreatDoor.DqSFind
open Go.Proofs.YtpibeabokedpdaaGreatDoor.DqFind (ints ints_len looked looked_le)
set_option linter.unusedVariables false
set_option linter.unusedSimpArgs false
/-- what is left from place i on without the places ps -/
def dropS : List El → Nat → List Nat → List El
  | [], _, _ => []
  | x :: r, i, [] => x :: dropS r (i + 1) []
  | x :: r, i, p :: ps => if i = p then dropS r (i + 1) ps else x :: dropS r (i + 1) (p :: ps)
theorem drop_cons (l : List El) (i : Nat) (h : i < l.length) : l.drop i = l[i] :: l.drop (i + 1) := List.drop_eq_getElem_cons h
structure Inv (l : List El) (ps : List Nat) (i j left : Nat) (M : List El) : Prop where
  len : M.length = l.length
  le : left ≤ i
  il : i ≤ l.length
  back : M.drop i = l.drop i
  is : M.take left ++ dropS (l.drop i) i (ps.drop j) = dropS l 0 ps
theorem Inv.start (l : List El) (ps : List Nat) : Inv l ps 0 0 0 l := ⟨rfl, Nat.le_refl _, Nat.zero_le _, rfl, by simp⟩
theorem Inv.skip {l M : List El} {ps rest : List Nat} {i j left p : Nat} (h : Inv l ps i j left M) (hi : i < l.length) (hp : ps.drop j = p :: rest) (e : i = p) : Inv l ps (i + 1) (j + 1) left M := by
  refine ⟨h.len, by have := h.le; omega, by omega, ?_, ?_⟩
  · have := congrArg (List.drop 1) h.back
    rw [List.drop_drop, List.drop_drop] at this
    exact this
  · have hr : ps.drop (j + 1) = rest := by
      have := congrArg (List.drop 1) hp
      rw [List.drop_drop] at this
      exact this
    rw [hr, ← h.is, hp, drop_cons l i hi, dropS, if_pos e]
theorem Inv.stay {l M : List El} {ps : List Nat} {i j left : Nat} (h : Inv l ps i j left M) (hi : i < l.length) (hp : ps.drop j = [] ∨ ∃ p rest, ps.drop j = p :: rest ∧ i ≠ p) : Inv l ps (i + 1) j (left + 1) (M.set left l[i]) := by
  have hl := h.len
  have hle := h.le
  refine ⟨by rw [List.length_set]; exact hl, by omega, by omega, ?_, ?_⟩
  · have := congrArg (List.drop 1) h.back
    rw [List.drop_drop, List.drop_drop] at this
    rw [List.drop_set, if_pos (by omega)]
    exact this
  · rw [← h.is, drop_cons l i hi, List.take_succ_eq_append_getElem (by rw [List.length_set]; omega), List.getElem_set_self, List.take_set, List.set_eq_of_length_le (by simp; omega), List.append_assoc]
    congr 1
    rcases hp with hp | ⟨p, rest, hp, ne⟩
    · rw [hp, dropS]; rfl
    · rw [hp, dropS, if_neg ne]; rfl
theorem Inv.fin {l M : List El} {ps : List Nat} {j left : Nat} (h : Inv l ps l.length j left M) : M.take left = dropS l 0 ps := by
  rw [← h.is]; simp [dropS]
theorem Inv.at {l M : List El} {ps : List Nat} {i j left : Nat} (h : Inv l ps i j left M) (hi : i < l.length) : M[i]? = some l[i] := by
  have := congrArg (fun x => x[0]?) h.back
  simp only [List.getElem?_drop, Nat.add_zero] at this
  rw [this, List.getElem?_eq_getElem hi]
set_option maxHeartbeats 4000000 in
set_option maxRecDepth 100000 in
theorem drop_call {F : Nat → Prop} {b : Nat} {l : List El} {w : World} (h : DQ F b l w) {pv : Value} {ps : List Nat} (hp : DqBase.SL (fun k => ¬ F k) w pv (ints ps)) :
    Calls Tryz.prog 135 #[ptr b, pv] w fun e w' => e = .returned (.tuple #[]) ∧ DQ (Gr F w) b (dropS l 0 ps) w' ∧ Fr F w w' := by
  have hl := lim_of h
  obtain ⟨a, n, c, f, xs, h⟩ := h
  have HH := hid_of (held_call h)
  obtain ⟨pa0, pc0, rfl, hpc0, hprd⟩ := hp
  rw [ints_len] at hpc0 ⊢
  have K0 := hid_of (fun m => And.intro (DK.drewN h m) (And.intro hpc0 hprd))
  obtain ⟨L, HL⟩ : ∃ L, Hid (L = l.length) := ⟨_, hid_of rfl⟩
  rw [← HL.out] at HH hl
  obtain ⟨ha, HA⟩ : ∃ ha, Hid (ca a c f = ha) := ⟨_, hid_of rfl⟩
  rw [HA.out] at HH
  clear h hprd hpc0
  go_enter Tryz.func135, Tryz.ntmps135
  go_wp2_with fail
  refine HH.out.mono ?_
  rintro e w1 ⟨rfl, m1, rfl⟩
  go_wp2_with fail
  go_loopg [12, 5, 1] L (fun g s12 s5 s1 wx => ∃ (i left j : Nat) (pa : Option Addr) (pn pc : Nat), i ≤ L ∧ L ≤ i + g ∧ left ≤ i ∧ s12 = .int .i64 (i : Int) ∧ s5 = .int .i64 (left : Int) ∧ s1 = .slice pa pn pc ∧ pn ≤ pc ∧ Hid (pn = (ps.drop j).length ∧ ∃ M ys, Inv l ps i j left M ∧ DK F b a n c f ys M wx ∧ DqBase.Rd (fun k => ¬ F k) wx pa (ints (ps.drop j)) ∧ Fr F w wx))
  case atStart =>
    obtain ⟨k1, k2, k3⟩ := K0.out m1
    exact ⟨0, 0, 0, pa0, ps.length, pc0, by omega, by omega, by omega, rfl, rfl, rfl, k2, ⟨by simp, l, xs, Inv.start l ps, k1, k3.keep fun _ _ _ => rfl, (Fr.refl _ _).drewN m1⟩⟩
  case round =>
    obtain ⟨i, left, j, pa, pn, pc, hi, hg, hlf, rfl, rfl, rfl, hpc, R0⟩ := hrel
    by_cases hlt : i < L
    · obtain ⟨g', rfl⟩ : ∃ g', gk = g' + 1 := ⟨gk - 1, by omega⟩
      obtain ⟨hpn, M, ys, hv, k, hrd, fr⟩ := R0.out
      have hil : i < l.length := by rw [← HL.out]; exact hlt
      have k1 := k.fit
      have k2 := k.nc
      have hML := hv.len
      obtain ⟨g, rfl, hF, hyc, hr⟩ : ∃ g, a = some ⟨g, 0, none⟩ ∧ F g ∧ ys.length = c ∧ RowIs wr g ys := by
        rcases k.row with ⟨_, e⟩ | q
        · omega
        · exact q
      have hca : ca (some ⟨g, 0, none⟩) c f = some ⟨g, f, none⟩ := by rw [ca_some g 0 c f (by omega), Nat.zero_add]
      obtain rfl : some ⟨g, f, none⟩ = ha := by rw [← HA.out, hca]
      have cx : wr.cell? ⟨g, f + i, none⟩ = some (V l[i]) := by
        have := k.rd
        rw [hca] at this
        rcases this with e | ⟨g1, o1, e1, _, q⟩
        · rw [e] at hML; simp at hML; omega
        · cases e1
          exact q i _ (hv.at hil)
      obtain ⟨y, cy⟩ : ∃ y, wr.cell? ⟨g, f + left, none⟩ = some (V y) := ⟨_, by rw [hr.cell, List.getElem?_eq_getElem (by omega)]; rfl⟩
      have zy : wr.frozen? ⟨g, f + left, none⟩ = false := hr.frozen _
      have nb := k.ne hr
      by_cases hsk : ∃ rest, ps.drop j = i :: rest
      · obtain ⟨rest, hrest⟩ := hsk
        rw [hrest] at hpn hrd
        obtain ⟨gp, op, rfl, hnp, hcp⟩ : ∃ gp op, pa = some ⟨gp, op, none⟩ ∧ ¬ F gp ∧ ∀ t x, (ints (i :: rest))[t]? = some x → wr.cell? ⟨gp, op + t, none⟩ = some (DqBase.V x) := by
          rcases hrd with e | q
          · simp [ints] at e
          · exact q
        have cp : wr.cell? ⟨gp, op, none⟩ = some (.int .i64 (i : Int)) := hcp 0 _ rfl
        have hcut := DqBase.cut_lo (some ⟨gp, op, none⟩) pn pc 1 1 rfl (by rw [hpn]; simp)
        have hn0 : 0 < pn := by rw [hpn]; simp
        have hrs : ps.drop (j + 1) = rest := by
          have := congrArg (List.drop 1) hrest
          rw [List.drop_drop] at this
          exact this
        have HK := hid_of (show pn - 1 = (ps.drop (j + 1)).length ∧ ∃ M ys, Inv l ps (i + 1) (j + 1) left M ∧ DK F b (some ⟨g, 0, none⟩) n c f ys M wr ∧ DqBase.Rd (fun k => ¬ F k) wr (DqBase.ca (some ⟨gp, op, none⟩) pc 1) (ints (ps.drop (j + 1))) ∧ Fr F w wr from
          ⟨by rw [hpn, hrs]; simp, M, ys, hv.skip hil hrest rfl, k, by rw [hrs]; exact DqBase.Rd.drop hrd (by rw [ints_len, ← hpn]; exact hpc) 1, fr⟩)
        have gn : (0 : Int) < (pn : Int) := by omega
        generalize l[i] = x at *
        clear R0 hv k hrd fr hcp hrest hrs hpn k1 k2 hML hyc hr
        go_wp2_with fail
        go_roundg g'
        case measure => omega
        case rel => exact ⟨i + 1, left, j + 1, _, _, _, by omega, by omega, by omega, by simp, rfl, rfl, by omega, HK.out⟩
      · have hst : ps.drop j = [] ∨ ∃ p rest, ps.drop j = p :: rest ∧ i ≠ p := by
          cases hd : ps.drop j with
          | nil => exact .inl rfl
          | cons p rest => exact .inr ⟨p, rest, rfl, fun e => hsk ⟨rest, by rw [hd, e]⟩⟩
        have hv2 := hv.stay hil hst
        have hk2 : DK F b (some ⟨g, 0, none⟩) n c f (ys.set (f + left) l[i]) (M.set left l[i]) (wr.setCell ⟨g, f + left, none⟩ (V l[i])) := by
          refine ⟨?_, k.own, by rw [List.length_set]; exact k1, k2, k.lim, .inr ⟨g, rfl, hF, by rw [List.length_set]; exact hyc, hr.set _ _⟩, put_is k.is (by omega)⟩
          rw [set_ne nb, List.length_set]
          exact k.blk
        have HK := hid_of (show pn = (ps.drop j).length ∧ ∃ M ys, Inv l ps (i + 1) j (left + 1) M ∧ DK F b (some ⟨g, 0, none⟩) n c f ys M (wr.setCell ⟨g, f + left, none⟩ (V l[i])) ∧ DqBase.Rd (fun k => ¬ F k) (wr.setCell ⟨g, f + left, none⟩ (V l[i])) pa (ints (ps.drop j)) ∧ Fr F w (wr.setCell ⟨g, f + left, none⟩ (V l[i])) from
          ⟨hpn, _, _, hv2, hk2, hrd.keep fun t _ hn => set_ne (fun e => hn (by rw [e]; exact hF)) _, fr.trans (Fr.set (.inl hF) _)⟩)
        rcases hst with hd | ⟨p, rest, hd, ne⟩
        · have hn0 : pn = 0 := by rw [hpn, hd]; rfl
          have HN0 := hid_of hn0
          subst hn0
          generalize l[i] = x at *
          clear R0 hv k hrd fr hd hpn k1 k2 hML hyc hr hv2 hk2 hsk
          go_wp2_with fail
          go_roundg g'
          case measure => omega
          case rel => exact ⟨i + 1, left + 1, j, _, _, _, by omega, by omega, by omega, by simp, by simp, rfl, hpc, HK.out⟩
        · have hrd2 := hrd
          rw [hd] at hrd2
          obtain ⟨gp, op, rfl, hnp, hcp⟩ : ∃ gp op, pa = some ⟨gp, op, none⟩ ∧ ¬ F gp ∧ ∀ t x, (ints (p :: rest))[t]? = some x → wr.cell? ⟨gp, op + t, none⟩ = some (DqBase.V x) := by
            rcases hrd2 with e | q
            · simp [ints] at e
            · exact q
          have cp : wr.cell? ⟨gp, op, none⟩ = some (.int .i64 (p : Int)) := hcp 0 _ rfl
          have hn0 : 0 < pn := by rw [hpn, hd]; simp
          have gn : (0 : Int) < (pn : Int) := by omega
          have ge : ((i : Int) == (p : Int)) = false := by rw [beq_eq_false_iff_ne]; omega
          generalize l[i] = x at *
          clear R0 hv k hrd hrd2 fr hcp hd hpn k1 k2 hML hyc hr hv2 hk2 hsk
          go_wp2_with fail
          go_roundg g'
          case measure => omega
          case rel => exact ⟨i + 1, left + 1, j, _, _, _, by omega, by omega, by omega, by simp, by simp, rfl, hpc, HK.out⟩
    · obtain ⟨hpn, M, ys, hv, k, hrd, fr⟩ := R0.out
      have hiL : i = l.length := by rw [← HL.out]; omega
      rw [hiL] at hv
      have hMl := hv.len
      have hle := hv.le
      have HK := hid_of (keep_call ⟨_, _, _, _, _, k⟩ 0 left 0 (left : Int) rfl rfl (Nat.zero_le _) (by omega))
      have HV := hid_of (And.intro hv.fin fr)
      clear R0 hv k hrd fr hpn hMl hle hiL
      go_wp2_with fail
      refine HK.out.mono ?_
      rintro e w2 ⟨rfl, q2, f2⟩
      have E2 := hid_of (And.intro q2 f2)
      clear q2 f2
      go_wp2_with fail
      go_end0
      obtain ⟨q2, f2⟩ := E2.out
      obtain ⟨v1, v2⟩ := HV.out
      rw [List.drop_zero, Nat.sub_zero, v1] at q2
      refine ⟨rfl, q2.mono fun t _ e => ?_, v2.trans ⟨f2.os, f2.tape, f2.output, f2.size, fun t ht hn => f2.block t ht fun e => hn (.inl e)⟩⟩
      rcases e with e | e
      · exact .inl e
      · exact .inr (Nat.le_trans v2.size e)
end Go.Proofs.YtpibeabokedpdaaGreatDoor.DqSDropC
end
section
namespace Go.Proofs.YtpibeabokedpdaaGreatDoor.DqFindB
open Go.RowKit
open Go.Proofs.YtpibeabokedpdaaGreatDoor.DqBase
open Go.Proofs.YtpibeabokedpdaaGreatDoor.DqHeld
open Go.Proofs.YtpibeabokedpdaaGreatDoor.DqLay
open Go.Proofs.YtpibeabokedpdaaGreatDoor.DqFree
open Go.Proofs.YtpibeabokedpdaaGreatDoor.DqPush
open Go.Proofs.YtpibeabokedpdaaGreatDoor.DqKeep
open Go.Proofs.YtpibeabokedpdaaGreatDoor.DqPop
open Go.Proofs.YtpibeabokedpdaaGreatDoor.DqPlace
open Go.Proofs.YtpibeabokedpdaaGreatDoor.DqApp
open Go.Proofs.YtpibeabokedpdaaGreatDoor.DqSelf
open Go.Proofs.YtpibeabokedpdaaGreatDoor.DqFindMath
open Go.Proofs.YtpibeabokedpdaaGreatDoor.DqFind
set_option linter.unusedVariables false
set_option linter.unusedSimpArgs false
end Go.Proofs.YtpibeabokedpdaaGreatDoor.DqFindB
end
section
namespace Go.Proofs.YtpibeabokedpdaaGreatDoor.DqFindA
open Go.RowKit
open Go.Proofs.YtpibeabokedpdaaGreatDoor.DqBase
open Go.Proofs.YtpibeabokedpdaaGreatDoor.DqHeld
open Go.Proofs.YtpibeabokedpdaaGreatDoor.DqLay
open Go.Proofs.YtpibeabokedpdaaGreatDoor.DqFree
open Go.Proofs.YtpibeabokedpdaaGreatDoor.DqPlace
open Go.Proofs.YtpibeabokedpdaaGreatDoor.DqSelf
open Go.Proofs.YtpibeabokedpdaaGreatDoor.DqFindMath
open Go.Proofs.YtpibeabokedpdaaGreatDoor.DqFind
open Go.Proofs.YtpibeabokedpdaaGreatDoor.DqFindB
set_option linter.unusedVariables false
set_option linter.unusedSimpArgs false
theorem find_far (l : List El) (v : El) (r : Nat) (back : Bool) (c : Int) (m : Nat) (h : m < r) : findN l v r back c m = [] := by
  have h1 := hits_len l v back m
  have : (hits l v back m).drop (r - 1) = [] := List.drop_eq_nil_of_le (by omega)
  unfold findN takeC
  rw [this]
  simp
end Go.Proofs.YtpibeabokedpdaaGreatDoor.DqFindA
end
section
namespace Go.Proofs.YtpibeabokedpdaaGreatDoor.DqSortC
open Go.RowKit
open Go.Proofs.YtpibeabokedpdaaGreatDoor.DqBase
open Go.Proofs.YtpibeabokedpdaaGreatDoor.DqFindMath
open Go.Proofs.YtpibeabokedpdaaGreatDoor.DqFind
set_option linter.unusedVariables false
set_option linter.unusedSimpArgs false
def srt (zs : List Int) : List Int := zs.mergeSort fun x y => decide (x ≤ y)
theorem sort_call {B : Nat} {w : World} {v : Value} {zs : List Int} (h : DqBase.NR B w v zs) (hz : zs ≠ []) (hb : zs.length < 4611686018427387904) :
    Calls Tryz.prog 134 #[v] w fun e w' => e = .returned (.tuple #[]) ∧ DqBase.SL (fun k => B ≤ k) w' v (srt zs) ∧ Fr (fun k => B ≤ k) w w' := by
  rcases h with ⟨rfl, rfl⟩ | ⟨g, c, xs, rfl, hB, hr, hx, hl, ht⟩
  · exact absurd rfl hz
  · have hH : Sort.Holds (Value.int .i64) w g 0 zs.toArray := holds_of_blockI (e := 3) hr (by
      rw [show ((DqBase.cells xs).toList).take zs.length = (xs.take zs.length).map V from by simp [DqBase.cells, List.map_take], ht])
    have hlen : (srt zs).length = zs.length := by unfold srt; rw [List.length_mergeSort]
    refine (Tryz.slices_Sort_int g 0 c zs w hH hr.lt hb).mono ?_
    rintro e w' ⟨rfl, n, os, rfl⟩
    refine ⟨rfl, ⟨some ⟨g, 0, none⟩, c, by rw [hlen], by rw [hlen]; exact hl, .inr ⟨g, 0, rfl, hB, fun j x hj => ?_⟩⟩, ?_⟩
    · have hjl : j < (srt zs).length := (List.getElem?_eq_some_iff.1 hj).1
      rw [Lib.cell_of_heap (heap_sortedI _ hr), Nat.zero_add]
      have := take_putCellsI (DqBase.cells xs) (srt zs) (by rw [hlen, DqBase.cells_size]; omega)
      have e2 := congrArg (fun q => q[j]?) this
      simp only [List.getElem?_take, if_pos hjl, List.getElem?_map, hj, Option.map_some] at e2
      rw [← Array.getElem?_toList]
      exact e2
    · have hg := grownBy_sortedI (w := w) (g := g) (n := n) (os := os) (srt zs).toArray
      exact ⟨hg.os, hg.tape, hg.output, hg.size, fun k hk hn => hg.block k hk fun e => hn (by cases e; exact hB)⟩
section
variable {α : Type} [DecidableEq α]
theorem up_hits (l : List α) (v : α) (m : Nat) : (hits l v false m).Pairwise (· < ·) := by
  unfold hits
  have : (List.range m).map (way l.length false) = List.range m := by
    rw [show way l.length false = id from rfl]; simp
  rw [this]
  exact List.Pairwise.filter _ List.pairwise_lt_range
theorem down_hits (l : List α) (v : α) (m : Nat) (h : m ≤ l.length) : (hits l v true m).Pairwise (· > ·) := by
  unfold hits
  refine List.Pairwise.filter _ ?_
  rw [List.pairwise_map]
  refine List.Pairwise.imp_of_mem ?_ List.pairwise_lt_range
  intro a b ha hb hab
  have := List.mem_range.1 ha
  have := List.mem_range.1 hb
  unfold way
  simp
  omega
theorem takeC_sub (c : Int) (xs : List Nat) : (takeC c xs).Sublist xs := by
  unfold takeC
  split
  · exact List.Sublist.refl _
  · exact List.take_sublist _ _
theorem up_find (l : List α) (v : α) (r : Nat) (c : Int) (m : Nat) : (findN l v r false c m).Pairwise (· < ·) := (up_hits l v m).sublist ((takeC_sub c _).trans (List.drop_sublist _ _))
theorem down_find (l : List α) (v : α) (r : Nat) (c : Int) (m : Nat) (h : m ≤ l.length) : (findN l v r true c m).Pairwise (· > ·) := (down_hits l v m h).sublist ((takeC_sub c _).trans (List.drop_sublist _ _))
theorem hits_at {l : List α} {v : α} {back : Bool} {m p : Nat} (h : p ∈ hits l v back m) : l[p]? = some v := by
  unfold hits at h
  simpa using (List.mem_filter.1 h).2
theorem find_at {l : List α} {v : α} {back : Bool} {r m p : Nat} {c : Int} (h : p ∈ findN l v r back c m) : l[p]? = some v :=
  hits_at (((takeC_sub c _).trans (List.drop_sublist _ _)).subset h)
theorem find_len (l : List α) (v : α) (r : Nat) (back : Bool) (c : Int) (m : Nat) : (findN l v r back c m).length ≤ m :=
  Nat.le_trans ((takeC_sub c _).trans (List.drop_sublist _ _)).length_le (hits_len l v back m)
end
theorem srt_up {ps : List Nat} (h : ps.Pairwise (· < ·)) : srt (ints ps) = ints ps := by
  unfold srt
  apply List.mergeSort_of_pairwise
  unfold ints
  rw [List.pairwise_map]
  exact h.imp fun {a b} hab => by simp; omega
theorem srt_down {ps : List Nat} (h : ps.Pairwise (· > ·)) : srt (ints ps) = ints ps.reverse := by
  have h1 : srt (ints ps.reverse) = ints ps.reverse := srt_up (List.pairwise_reverse.2 h)
  rw [← h1]
  have hp : (srt (ints ps)).Perm (srt (ints ps.reverse)) := by
    unfold srt
    refine (List.mergeSort_perm _ _).trans (List.Perm.trans ?_ (List.mergeSort_perm _ _).symm)
    unfold ints
    exact (List.reverse_perm ps).symm.map _
  have ho : ∀ zs : List Int, (srt zs).Pairwise (fun a b => a ≤ b) := fun zs => by
    have := List.pairwise_mergeSort (le := fun x y : Int => decide (x ≤ y)) (fun a b c h1 h2 => by simp at *; omega) (fun a b => by simp; omega) zs
    exact this.imp fun {a b} hab => by simpa using hab
  exact List.Perm.eq_of_pairwise (fun a b _ _ h1 h2 => by omega) (ho _) (ho _) hp
end Go.Proofs.YtpibeabokedpdaaGreatDoor.DqSortC
end
section
namespace Go.Proofs.YtpibeabokedpdaaGreatDoor.DqSRemove
open Go.RowKit
open Go.Proofs.YtpibeabokedpdaaGreatDoor.DqSBase
open Go.Proofs.YtpibeabokedpdaaGreatDoor.DqBase (Fr Gr ptr hid_of lt_of set_at set_ne size_set row_ne size_row add_off bel_drewN ca ca_some ca_zero cell_lt)
open Go.Proofs.YtpibeabokedpdaaGreatDoor.DqSHeld
open Go.Proofs.YtpibeabokedpdaaGreatDoor.DqSLay
open Go.Proofs.YtpibeabokedpdaaGreatDoor.DqSFree
open Go.Proofs.YtpibeabokedpdaaGreatDoor.DqSPlace
open Go.Proofs.YtpibeabokedpdaaGreatDoor.DqFindMath
open Go.Proofs.YtpibeabokedpdaaGreatDoor.DqSFind
open Go.Proofs.YtpibeabokedpdaaGreatDoor.DqFind (ints ints_len looked looked_le)
open Go.Proofs.YtpibeabokedpdaaGreatDoor.DqSFindA
open Go.Proofs.YtpibeabokedpdaaGreatDoor.DqSDropC
open Go.Proofs.YtpibeabokedpdaaGreatDoor.DqSortC
set_option linter.unusedVariables false
set_option linter.unusedSimpArgs false
/-- the places that Remove takes away, rising -/
def remP (l : List El) (count : Int) (v : El) : List Nat := if count < 0 then (findN l v 1 true (IntKind.i64.wrap (-count)) l.length).reverse else findN l v 1 false count l.length
theorem dropS_nil (l : List El) (i : Nat) : dropS l i [] = l := by
  induction l generalizing i with
  | nil => rfl
  | cons x r ih => rw [dropS, ih]
theorem remP_len (l : List El) (count : Int) (v : El) : (remP l count v).length ≤ l.length := by
  unfold remP
  split
  · rw [List.length_reverse]; exact find_len _ _ _ _ _ _
  · exact find_len _ _ _ _ _ _
set_option maxHeartbeats 2000000 in
set_option maxRecDepth 100000 in
/-- the rest of Remove, when what is found is known -/
theorem remove_raw {F : Nat → Prop} {b : Nat} {l : List El} {w : World} (h : DQ F b l w) (C : Int) (v : El) (R K : Int) (fs ps : List Nat) (hb : l.length * 16 ≤ 140737488355328) (hfs : fs.length ≤ l.length)
    (hneg : (C < 0 ∧ IntKind.i64.wrap (-C) = K ∧ R = -1) ∨ (¬ C < 0 ∧ K = C ∧ R = 1))
    (HF : Hid (Calls Tryz.prog 79 #[ptr b, V v, .int .i64 R, .int .i64 K, .int .i64 0] w fun e w' => ∃ v', e = .returned v' ∧ DqBase.NR w.heap.size w' v' (ints fs) ∧ Below w.heap.size w w'))
    (hs : srt (ints fs) = ints ps) :
    Calls Tryz.prog 86 #[ptr b, .int .i64 C, V v] w fun e w' => e = .returned (.int .i64 (fs.length : Int)) ∧ DQ (Gr F w) b (dropS l 0 ps) w' ∧ Fr F w w' := by
  have hl := lim_of h
  have HQ := hid_of h.low
  have HS := hid_of (And.intro hs hfs)
  have hpl : ps.length = fs.length := by
    have := congrArg List.length hs
    unfold srt at this
    rw [List.length_mergeSort, ints_len, ints_len] at this
    exact this.symm
  have HPL := hid_of hpl
  clear h hs hpl
  have tail : ∀ (v' : Value) (w1 : World), DqBase.NR w.heap.size w1 v' (ints fs) → Below w.heap.size w w1 → fs ≠ [] → Calls Tryz.prog 134 #[v'] w1 fun e w' => e = .returned (.tuple #[]) ∧ Hid (DqBase.SL (fun k => w.heap.size ≤ k) w' v' (ints ps) ∧ Fr (fun k => w.heap.size ≤ k) w1 w' ∧ DQ (fun k => F k ∧ k < w.heap.size) b l w') := by
    intro v' w1 hn hb1 hne
    refine (sort_call hn (by simpa [ints] using hne) (by rw [ints_len]; have := HS.out.2; omega)).mono ?_
    rintro e w2 ⟨rfl, s2, f2⟩
    rw [HS.out.1] at s2
    exact ⟨rfl, s2, f2, (HQ.out.below hb1).keep fun k hk hF => f2.block k hk fun e => absurd hF.2 (by have : w.heap.size ≤ k := e; omega)⟩
  have HTail := hid_of tail
  clear tail
  obtain ⟨N, HNn⟩ : ∃ N, Hid (N = fs.length) := ⟨_, hid_of rfl⟩
  rw [← HNn.out]
  rcases hneg with ⟨c1, c2, rfl⟩ | ⟨c1, rfl, rfl⟩
  all_goals
    go_enter Tryz.func86, Tryz.ntmps86
    go_wp2_with fail
    refine HF.out.mono ?_
    rintro e w1 ⟨v', rfl, n1, b1⟩
    obtain ⟨a1, k1, rfl, hk1, _⟩ := DqFree.NR.shape n1
    have N1 := hid_of (And.intro n1 b1)
    rw [ints_len, ← HNn.out] at hk1 ⊢ N1
    clear n1 b1 hk1
    by_cases hne : fs = []
    · have h0 : fs.length = 0 := by rw [hne]; rfl
      obtain rfl : N = 0 := by rw [HNn.out]; exact h0
      go_wp2_with fail
      go_ret
      refine ⟨rfl, ?_, Fr.of_below N1.out.2⟩
      have : ps = [] := List.eq_nil_of_length_eq_zero (by rw [HPL.out, h0])
      rw [this, dropS_nil]
      exact (HQ.out.below N1.out.2).mono fun k _ e => .inl e.1
    · have h0 : 0 < N := by rw [HNn.out]; exact List.length_pos_iff.2 hne
      have g0 : (0 : Int) < (N : Int) := by omega
      have HT := hid_of (HTail.out _ _ N1.out.1 N1.out.2 hne)
      go_wp2_with fail
      refine HT.out.mono ?_
      rintro e w2 ⟨rfl, H2⟩
      have HD := hid_of (drop_call H2.out.2.2 (H2.out.1.mono fun k _ e hF => absurd hF.2 (by have : w.heap.size ≤ k := e; omega)))
      go_wp2_with fail
      refine HD.out.mono ?_
      rintro e w3 ⟨rfl, q3, f3⟩
      have E3 := hid_of (And.intro q3 f3)
      clear q3 f3
      go_wp2_with fail
      go_ret
      obtain ⟨q3, f3⟩ := E3.out
      have f2 := H2.out.2.1
      have b1 := N1.out.2
      refine ⟨rfl, q3.mono fun k _ e => ?_, ?_⟩
      · rcases e with e | e
        · exact .inl e.1
        · exact .inr (Nat.le_trans (Nat.le_trans b1.size f2.size) e)
      · exact ((Fr.of_below b1).trans ⟨f2.os, f2.tape, f2.output, f2.size, fun k hk hn => f2.block k hk fun e => hn (.inr e)⟩).trans ⟨f3.os, f3.tape, f3.output, f3.size, fun k hk hn => f3.block k hk fun e => hn (.inl e.1)⟩
theorem remove_call {F : Nat → Prop} {b : Nat} {l : List El} {w : World} (h : DQ F b l w) (count : Int) (v : El) (hb : l.length * 16 ≤ 140737488355328) :
    Calls Tryz.prog 86 #[ptr b, .int .i64 count, V v] w fun e w' => e = .returned (.int .i64 ((remP l count v).length : Int)) ∧ DQ (Gr F w) b (dropS l 0 (remP l count v)) w' ∧ Fr F w w' := by
  unfold remP
  by_cases h0 : count < 0
  · rw [if_pos h0, List.length_reverse]
    have hf := find_call h v (-1) (IntKind.i64.wrap (-count)) 0 (by omega) (by omega) hb
    unfold findS at hf
    rw [if_neg (by decide), show looked l.length 0 = l.length from rfl] at hf
    exact remove_raw h count v (-1) _ (findN l v 1 true (IntKind.i64.wrap (-count)) l.length) _ hb (find_len _ _ _ _ _ _) (.inl ⟨h0, rfl, rfl⟩) hf (srt_down (down_find _ _ _ _ _ (Nat.le_refl _)))
  · rw [if_neg h0]
    have hf := find_call h v 1 count 0 (by omega) (by omega) hb
    unfold findS at hf
    rw [if_neg (by decide), show looked l.length 0 = l.length from rfl] at hf
    exact remove_raw h count v 1 _ (findN l v 1 false count l.length) _ hb (find_len _ _ _ _ _ _) (.inr ⟨h0, rfl, rfl⟩) hf (srt_up (up_find _ _ _ _ _))
end Go.Proofs.YtpibeabokedpdaaGreatDoor.DqSRemove
end
