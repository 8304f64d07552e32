/- How many keys are seen. DEL: what is there is dropped, word by word. The requests that must come whatever the input is (law18). -/
import Derived.Test.YtminfpkigenahaaGreatDoorParseM
import Derived.Test.YtminfpkigenahaaGreatDoorPeekM
import Derived.Maps.OwnSet
import Derived.Test.YtminfpkigenahaaGreatDoorGMatchM
import Derived.Test.YtminfpkigenahaaGreatDoorKExdM
import Derived.Test.YtminfpkigenahaaGreatDoorKTtlM
import Derived.Test.YtminfpkigenahaaGreatDoorKMvM
import Derived.Test.YtminfpkigenahaaGreatDoorSRiseM
import Derived.Test.YtminfpkigenahaaGreatDoorKDumpM
section
namespace Go.Proofs.YtminfpkigenahaaGreatDoor.KLen
open Go.RowKit Go.Maps
open Go.Proofs.YtminfpkigenahaaGreatDoor.SpaceMath (wout withL lkp keys Ris toD)
open Go.Proofs.YtminfpkigenahaaGreatDoor.ValueMath (Vl chk small)
open Go.Proofs.YtminfpkigenahaaGreatDoor.Base (mk mk_list mk_size Gr hid_of SL)
open Go.Proofs.YtminfpkigenahaaGreatDoor.Turn
open Go.Proofs.YtminfpkigenahaaGreatDoor.Vals
open Go.Proofs.YtminfpkigenahaaGreatDoor.Check0 (Wel)
open Go.Proofs.YtminfpkigenahaaGreatDoor.SBase
open Go.Proofs.YtminfpkigenahaaGreatDoor.SFind
open Go.Proofs.YtminfpkigenahaaGreatDoor.SPut (vO)
open Go.Proofs.YtminfpkigenahaaGreatDoor.QBase
open Go.Proofs.YtminfpkigenahaaGreatDoor.KCmd
open Go.Proofs.YtminfpkigenahaaGreatDoor.Parse (Has)
set_option linter.unusedVariables false
set_option linter.unusedSimpArgs false
open Go.Proofs.YtminfpkigenahaaGreatDoor.HeapMath (Sorted)
open Go.Proofs.YtminfpkigenahaaGreatDoor.Before (ltS keysS ent_keys ent_sto entLt)
open Go.Proofs.YtminfpkigenahaaGreatDoor.RowB (Es)
open Go.Proofs.YtminfpkigenahaaGreatDoor.Peek (got keysOf sv)
open Go.Proofs.YtminfpkigenahaaGreatDoor.SSet (spa_len)
/-- how many keys are seen -/
def seenN (S : Sp) (now : Int) : Nat := (S.l.filter fun p => seenB p.2.due p.2.ver now).length
/-- entries in order, by ticks -/
theorem sorted_of (s : Es) (hk : (s.map (·.1)).Nodup) : ∃ T : Es, Sorted ltS s T := by
  have hle : ∀ a b c : SBase.Bs × Int, (!decide (ltS b a)) = true → (!decide (ltS c b)) = true → (!decide (ltS c a)) = true := fun a b c h1 h2 => by
    have h1 : ¬ ltS b a := by simpa using h1
    have h2 : ¬ ltS c b := by simpa using h2
    have := (ent_sto keysS).le_trans h1 h2
    simpa using this
  have htot : ∀ a b : SBase.Bs × Int, ((!decide (ltS b a)) || (!decide (ltS a b))) = true := fun a b => by
    by_cases h : ltS a b
    · have : ¬ ltS b a := fun q => (ent_sto keysS).irr _ ((ent_sto keysS).trans _ _ _ h q)
      simp [this]
    · simp [h]
  refine ⟨s.mergeSort (fun a b => !decide (ltS b a)), ⟨List.mergeSort_perm _ _, ?_⟩⟩
  have hp := List.pairwise_mergeSort hle htot s
  have hn : ((s.mergeSort (fun a b => !decide (ltS b a))).map (·.1)).Nodup := (((List.mergeSort_perm s _).map (·.1)).nodup_iff).2 hk
  have hne : (s.mergeSort (fun a b => !decide (ltS b a))).Pairwise (fun a b => a ≠ b) := by
    have := List.pairwise_map.1 hn
    exact this.imp fun h e => h (by rw [e])
  refine (hp.and hne).imp fun {a b} ⟨h1, h2⟩ => ?_
  have h1 : ¬ ltS b a := by simpa using h1
  rcases (ent_keys keysS).tot a b h2 with q | q
  · exact q
  · exact absurd q h1
theorem tw_count (now : Int) : ∀ {T : Es}, T.Pairwise ltS → (T.takeWhile (fun x => decide (x.2 ≤ now))).length = (T.filter (fun x => decide (x.2 ≤ now))).length
  | [], _ => rfl
  | x :: r, h => by
    by_cases hx : x.2 ≤ now
    · rw [List.takeWhile_cons_of_pos (by simpa using hx), List.filter_cons_of_pos (by simpa using hx), List.length_cons, List.length_cons, tw_count now (List.pairwise_cons.1 h).2]
    · rw [List.takeWhile_cons_of_neg (by simpa using hx), List.filter_cons_of_neg (by simpa using hx)]
      have : r.filter (fun x => decide (x.2 ≤ now)) = [] := List.filter_eq_nil_iff.2 fun y hy => by
        have := (List.pairwise_cons.1 h).1 y hy
        unfold Before.ltS entLt at this
        have : ¬ y.2 ≤ now := by split at this <;> omega
        simpa using this
      rw [this]
      try rfl
theorem seen_split (now : Int) : ∀ {l : KL En}, (∀ p ∈ l, 0 < p.2.ver ∧ 0 ≤ p.2.due) → (l.filter fun p => seenB p.2.due p.2.ver now).length + ((dues l).filter (fun x => decide (x.2 ≤ now))).length = l.length
  | [], _ => rfl
  | p :: r, h => by
    have ih := seen_split now (l := r) fun q hq => h q (by simp [hq])
    obtain ⟨h1, h2⟩ := h p (by simp)
    unfold dues at ih ⊢
    by_cases hd : 0 < p.2.due
    · by_cases hn : p.2.due ≤ now
      · have hs : seenB p.2.due p.2.ver now = false := by unfold seenB; simp; omega
        simp only [List.filter_cons, hs, List.filterMap_cons, hd, if_true, List.length_cons, hn, decide_true, Bool.false_eq_true, if_false]
        try omega
      · have hs : seenB p.2.due p.2.ver now = true := by unfold seenB; simp; omega
        simp only [List.filter_cons, hs, List.filterMap_cons, hd, if_true, List.length_cons, hn, decide_false, Bool.false_eq_true, if_false]
        try omega
    · have hs : seenB p.2.due p.2.ver now = true := by unfold seenB; simp; omega
      simp only [List.filter_cons, hs, List.filterMap_cons, hd, if_true, List.length_cons, if_false]
      try omega
/-- the index of deadlines tells how many keys are over -/
theorem over_count {F X : Nat → Prop} {b : Nat} {w : World} {S : Sp} (h0 : SP F X b w S) {s T : Es} (hp : s.Perm (dues S.l)) (hT : Sorted ltS s T) (now : Int) : (got T now (S.l.length : Int)).length + seenN S now = S.l.length := by
  have hall : ∀ p ∈ S.l, 0 < p.2.ver ∧ 0 ≤ p.2.due := fun p hpm => by
    obtain ⟨FI, bm, bi, mv, L, s', h⟩ := h0
    have he := h.ent p.1
    rw [SpaceMath.lkp_at h.ris2 p hpm] at he
    cases q : lkp L p.1 with
    | none => rw [q] at he; exact absurd he (by simp [Two])
    | some v =>
      rw [q] at he
      exact ⟨(EnAt.ver he).1, (EnAt.due he).1⟩
  have h1 := seen_split now hall
  have h2 : ((dues S.l).filter (fun x => decide (x.2 ≤ now))).length = (T.filter (fun x => decide (x.2 ≤ now))).length := ((hT.perm.trans hp).filter _).length_eq.symm
  have h3 := tw_count now hT.inc
  have h4 : (T.takeWhile (fun x => decide (x.2 ≤ now))).length ≤ S.l.length := by
    have a := (List.takeWhile_prefix (l := T) (fun x => decide (x.2 ≤ now))).length_le
    have c := (hT.perm.trans hp).length_eq
    have d := SMath.dues_len S.l
    omega
  unfold got seenN
  rw [List.length_take]
  omega
section
variable {F X : Nat → Prop} {b : Nat} {w : World} {S : Sp}
set_option maxHeartbeats 4000000 in
set_option maxRecDepth 100000 in
theorem stale_call (h : SP F X b w S) (hmax : S.l.length + 1 < 1099511627776) (now : Int) :
    Calls Tryz.prog 100 #[ptr b, .int .i64 now, .int .i64 (S.l.length : Int)] w fun e w' => ∃ a c, e = .returned (.slice a (S.l.length - seenN S now) c) ∧ Below w.heap.size w w' := by
  have h0 := h
  obtain ⟨FI, bm, bi, mv, L, s, h⟩ := h
  have hkn : (s.map (·.1)).Nodup := by
    have := (h.du.map (·.1)).nodup_iff.2 (by
      have := SMath.dues_keys h.ris2
      exact (List.pairwise_map.2 (this.imp fun {a b} q => SpaceMath.lt_ne q)))
    exact this
  obtain ⟨T, hT⟩ := sorted_of s hkn
  have hc := over_count h0 h.du hT now
  have hsl : s.length ≤ S.l.length := by have := h.du.length_eq; have := SMath.dues_len S.l; omega
  have HP := hid_of (PeekS.peek_call h.ix hT (by omega) now (S.l.length : Int))
  have c1 : w.cell? ⟨b, 1, none⟩ = some (ptr bi) := Lib.cell_of_heap h.blk 1
  have hg : (got T now (S.l.length : Int)).length = S.l.length - seenN S now := by omega
  rw [hg] at HP
  generalize S.l.length - seenN S now = K at *
  clear h0 hkn hT hc hsl h hg
  go_enter Tryz.func100, Tryz.ntmps100
  go_wp2_with fail
  refine HP.out.mono ?_
  rintro e w1 ⟨v, rfl, r1, b1⟩
  obtain ⟨a, c', rfl⟩ : ∃ a c', v = .slice a K c' := by
    rcases r1.2 with ⟨rfl, hn⟩ | ⟨g, cap, cur, rfl, _⟩
    · rw [hn]; exact ⟨_, _, rfl⟩
    · exact ⟨_, _, rfl⟩
  have B1 := hid_of b1
  clear r1 b1
  go_wp2_with fail
  go_ret
  exact ⟨a, c', rfl, B1.out⟩
theorem seen_le (S : Sp) (now : Int) : seenN S now ≤ S.l.length := List.length_filter_le _ _
set_option maxHeartbeats 4000000 in
set_option maxRecDepth 100000 in
theorem len_call (h : SP F X b w S) (hmax : S.l.length + 1 < 1099511627776) (now : Int) :
    Calls Tryz.prog 71 #[ptr b, .int .i64 now] w fun e w' => e = .returned (.int .i64 (seenN S now : Int)) ∧ Below w.heap.size w w' := by
  have HSt := hid_of (stale_call (h.below (Below.refl _ w).drew) hmax now)
  have hsn := seen_le S now
  obtain ⟨FI, bm, bi, mv, L, s, h⟩ := h
  have hL := spa_len h
  have HS : Hid (∀ U, Below w.heap.size w U → U.cell? ⟨b, 0, none⟩ = some (.map (some bm)) ∧ ∀ ty, (Builtin.len_ #[39] ty #[.map (some bm)]).run Tryz.prog U = .ok (.int .i64 (S.l.length : Int)) U) := hid_of fun U hU => by
    have h' := h.below hU
    refine ⟨Lib.cell_of_heap h'.blk 0, fun ty => ?_⟩
    have := h'.map.len Tryz.underlying39 ty
    rw [SpaceMath.size_D, hL] at this
    exact this
  have s0 := HS.out w.drew (Below.refl _ w).drew
  generalize S.l.length = N at *
  have hw : IntKind.i64.wrap ((N : Int) - ((N - seenN S now : Nat) : Int)) = (seenN S now : Int) := by rw [IntWalk.i64_in _ (by omega)]; omega
  have hw2 : (N : Int) - ((N - seenN S now : Nat) : Int) = (seenN S now : Int) := by omega
  generalize seenN S now = M at *
  have hwM : IntKind.i64.wrap (M : Int) = (M : Int) := IntWalk.i64_in _ (by omega)
  generalize hK : N - M = K at *
  clear hL h
  go_enter Tryz.func71, Tryz.ntmps71
  go_wp2_with fail
  go_region_held3 (fun U => U.cell? ⟨b, 0, none⟩ = some (.map (some bm)) ∧ ∀ ty, (Builtin.len_ #[39] ty #[.map (some bm)]).run Tryz.prog U = .ok (.int .i64 (N : Int)) U) (first | with_reducible exact s0 | with_reducible exact s1) (first
    | (go_at_call 100; refine HSt.out.mono ?_; rintro e w1 ⟨a, c, rfl, b1⟩; have B1 := hid_of (FRow.bel (Below.refl _ w).drew b1 (Nat.le_refl _)); have s1 := HS.out w1 B1.out; clear b1))
  go_wp2_with fail
  go_ret
  exact ⟨rfl, B1.out⟩
set_option maxHeartbeats 4000000 in
set_option maxRecDepth 100000 in
theorem size_call (h : SP F X b w S) (hmax : S.l.length + 1 < 1099511627776) (now : Int) (a : Option Addr) (n c : Nat) :
    Calls Tryz.prog 38 #[cV b now a n c] w fun e w' => e = .returned (rp 3 ⟨#[]⟩ (seenN S now : Int)) ∧ Dn F X b w w' S := by
  obtain ⟨W, hW⟩ : ∃ W, W = (w.alloc (cO b now a n c)).alloc (rO 0 ⟨#[]⟩ 0 (.slice none 0 0)) := ⟨_, rfl⟩
  obtain ⟨bW, x0, x1, sW⟩ := two_boxes w (cO b now a n c) (rO 0 ⟨#[]⟩ 0 (.slice none 0 0)) ⟨_, _, rfl⟩
  rw [← hW] at bW x0 x1 sW
  have HH := hid_of h
  have HB := hid_of bW
  have HX0 := hid_of x0
  have HX1 := hid_of x1
  have HSW := hid_of sW
  have HW := hid_of hW
  have t0 : KCmd.Tmp w W w.heap.size := ⟨Nat.le_refl _, by rw [HSW.out]; omega⟩
  have t1 : KCmd.Tmp w W (w.heap.size + 1) := ⟨by omega, by rw [HSW.out]; omega⟩
  have H1 := hid_of (len_call ((sp_wide h bW)) hmax now)
  have HC := hid_of fun (V : World) (n : Int) => count_call n V
  obtain ⟨⟨c0, c1, c2⟩, -⟩ := box3 x0
  generalize seenN S now = M at *
  clear hW bW x0 x1 sW h
  go_enter Tryz.func38, Tryz.ntmps38
  go_wp2_with fail
  rw [← HW.out]
  go_wp2_with fail
  refine H1.out.mono ?_
  rintro e w1 ⟨rfl, b1⟩
  have B1 := hid_of b1
  clear b1
  go_wp2_with fail
  refine (HC.out _ _).mono ?_
  rintro e w2 ⟨rfl, b2⟩
  have D2 := Dn.of (sp_wide HH.out HB.out) (FRow.bel B1.out b2 (Nat.le_refl _))
  have z2 := (dn_block HH.out HB.out D2 t1).trans HX1.out
  have hz := fin4_at z2 (.int .i64 3) (.string ⟨#[]⟩) (.int .i64 (M : Int)) (.slice none 0 0)
  have hdn := dn_tmp HH.out HB.out D2 (ev_fin4 t1 (.int .i64 3) (.string ⟨#[]⟩) (.int .i64 (M : Int)) (.slice none 0 0))
  unfold fin4 at hz hdn
  obtain ⟨⟨v0, v1, v2, v3⟩, fv⟩ := box4 z2
  have fv0 := fv 0
  have fv1 := fv 1
  have fv2 := fv 2
  have fv3 := fv 3
  clear fv z2
  go_wp2_with fail
  obtain ⟨⟨g0, g1, g2, g3⟩, -⟩ := box4 hz
  exact bodyPost_ret (v := (rp 3 ⟨#[]⟩ (M : Int))) (by simp [results, Tryz.results38, go_sem, g0, g1, g2, g3]) rfl ⟨rfl, hdn⟩
end
end Go.Proofs.YtminfpkigenahaaGreatDoor.KLen
end
section
namespace Go.Proofs.YtminfpkigenahaaGreatDoor.KDel
open Go.RowKit Go.Maps
open Go.Proofs.YtminfpkigenahaaGreatDoor.SpaceMath (wout withL lkp keys Ris toD)
open Go.Proofs.YtminfpkigenahaaGreatDoor.ValueMath (Vl chk small)
open Go.Proofs.YtminfpkigenahaaGreatDoor.Base (mk mk_list mk_size Gr hid_of SL)
open Go.Proofs.YtminfpkigenahaaGreatDoor.Turn
open Go.Proofs.YtminfpkigenahaaGreatDoor.Vals
open Go.Proofs.YtminfpkigenahaaGreatDoor.Check0 (Wel)
open Go.Proofs.YtminfpkigenahaaGreatDoor.SBase
open Go.Proofs.YtminfpkigenahaaGreatDoor.SFind
open Go.Proofs.YtminfpkigenahaaGreatDoor.SPut (vO)
open Go.Proofs.YtminfpkigenahaaGreatDoor.QBase
open Go.Proofs.YtminfpkigenahaaGreatDoor.KCmd
open Go.Proofs.YtminfpkigenahaaGreatDoor.Parse (Has)
set_option linter.unusedVariables false
set_option linter.unusedSimpArgs false
open Go.Proofs.YtminfpkigenahaaGreatDoor.KEx
theorem sl_get2 {G : Nat → Prop} {w : World} {a : Option Addr} {n c : Nat} {l : List Base.El} (h : SL G w (.slice a n c) l) : n = l.length ∧ ∀ i (hi : i < l.length), ∃ ga oa, a = some ⟨ga, oa, none⟩ ∧ G ga ∧ w.cell? ⟨ga, oa + i, none⟩ = some (.string (mk l[i])) := by
  obtain ⟨a0, c0, e, hc, hr⟩ := h
  injection e with e1 e2 e3
  subst e1 e2 e3
  refine ⟨rfl, fun i hi => ?_⟩
  obtain ⟨g, o, eg, hG, hcs⟩ := Base.Rd.get hr (by omega)
  exact ⟨g, o, eg, hG, hcs i l[i] (List.getElem?_eq_getElem hi)⟩
def drN (now : Int) (p : Sp × Nat) (k : Bs) : Sp × Nat := if (gt p.1 now k).isSome then (⟨wout p.1.l k, p.1.cnt + 1, none⟩, p.2 + 1) else p
def drAll (now : Int) (S : Sp) (l : List Bs) : Sp × Nat := l.foldl (drN now) (S, 0)
theorem dr_take (now : Int) (S : Sp) (l : List Bs) (i : Nat) (hi : i < l.length) : drAll now S (l.take (i + 1)) = drN now (drAll now S (l.take i)) l[i] := by
  unfold drAll
  rw [List.take_succ_eq_append_getElem hi, List.foldl_append]
  rfl
theorem dr_ok (now : Int) : ∀ (l : List Bs) (p : Sp × Nat), p.1.mrk = none → (l.foldl (drN now) p).1.mrk = none ∧ (l.foldl (drN now) p).1.cnt ≤ p.1.cnt + l.length ∧ (l.foldl (drN now) p).2 ≤ p.2 + l.length
  | [], p, h => ⟨h, Nat.le_refl _, Nat.le_refl _⟩
  | k :: r, p, h => by
    have h0 : (drN now p k).1.mrk = none ∧ (drN now p k).1.cnt ≤ p.1.cnt + 1 ∧ (drN now p k).2 ≤ p.2 + 1 := by
      unfold drN
      split
      · exact ⟨rfl, Nat.le_refl _, Nat.le_refl _⟩
      · exact ⟨h, Nat.le_succ _, Nat.le_succ _⟩
    have := dr_ok now r (drN now p k) h0.1
    simp only [List.foldl_cons, List.length_cons]
    exact ⟨this.1, by omega, by omega⟩
section
variable {F X : Nat → Prop} {b : Nat} {w : World} {S : Sp}
set_option maxHeartbeats 4000000 in
set_option maxRecDepth 100000 in
theorem drop_call (h : SP F X b w S) (now : Int) {G : Nat → Prop} {a : Option Addr} {n c : Nat} {l : List Base.El} (hl : SL G w (.slice a n c) l) (hGF : ∀ k, G k → ¬ F k) (hm : S.mrk = none) (hc : S.cnt + l.length + 1 < 18446744073709551616) (hll : l.length < 4611686018427387904) (hbl : ∀ x ∈ l, x.length ≤ 281474976710656) :
    Calls Tryz.prog 39 #[cV b now a n c] w fun e w' => e = .returned (rp 3 ⟨#[]⟩ ((drAll now S l).2 : Int)) ∧ Dn F X b w w' (drAll now S l).1 := by
  obtain ⟨rfl, hcs⟩ := sl_get2 hl
  obtain ⟨W, hW⟩ : ∃ W, W = (w.alloc (cO b now a l.length c)).alloc (rO 0 ⟨#[]⟩ 0 (.slice none 0 0)) := ⟨_, rfl⟩
  obtain ⟨bW, x0, x1, sW⟩ := two_boxes w (cO b now a l.length c) (rO 0 ⟨#[]⟩ 0 (.slice none 0 0)) ⟨_, _, rfl⟩
  rw [← hW] at bW x0 x1 sW
  have HH := hid_of h
  have HB := hid_of bW
  have HX0 := hid_of x0
  have HX1 := hid_of x1
  have HSW := hid_of sW
  have HW := hid_of hW
  have t0 : KCmd.Tmp w W w.heap.size := ⟨Nat.le_refl _, by rw [HSW.out]; omega⟩
  have t1 : KCmd.Tmp w W (w.heap.size + 1) := ⟨by omega, by rw [HSW.out]; omega⟩
  have HCt := hid_of fun (V : World) (n : Int) => count_call n V
  have HT : Hid (∀ V S' (i : Nat) (hi : i < l.length) (a' : Option Addr) (n' : Nat), Dn F (fun k => X k ∨ KCmd.Tmp w W k) b W V S' → Calls Tryz.prog 67 #[cV b now a' n' c, .string (mk l[i])] V fun e w' => e = .returned (.bool (gt S' now l[i]).isSome) ∧ Below V.heap.size V w' ∧ Dn F (fun k => X k ∨ KCmd.Tmp w W k) b W w' S') := hid_of fun V S' i hi a' n' DV => rd_dn DV fun F1 s1 => there_call s1 l[i] (hbl _ (List.getElem_mem hi)) now a' n' c
  have HD : Hid (∀ V S' (i : Nat) (hi : i < l.length), Dn F (fun k => X k ∨ KCmd.Tmp w W k) b W V S' → S'.mrk = none → S'.cnt + 1 < 18446744073709551616 → (gt S' now l[i]).isSome = true → Calls Tryz.prog 72 #[ptr b, .string (mk l[i])] V fun e w' => e = .returned (.bool true) ∧ Dn F (fun k => X k ∨ KCmd.Tmp w W k) b W w' ⟨wout S'.l l[i], S'.cnt + 1, none⟩) := hid_of fun V S' i hi DV hm' hc' hs => by
    cases hg : gt S' now l[i] with
    | none => rw [hg] at hs; cases hs
    | some en => exact wr_dn DV fun F1 s1 => SDrop.drop_yes s1 hm' hc' l[i] (hbl _ (List.getElem_mem hi)) (gt_some hg).1
  have HCS : Hid (∀ i (hi : i < l.length), ∃ ga oa, a = some ⟨ga, oa, none⟩ ∧ ∀ V S', Dn F (fun k => X k ∨ KCmd.Tmp w W k) b W V S' → V.cell? ⟨ga, oa + i, none⟩ = some (.string (mk l[i]))) := hid_of fun i hi => by
    obtain ⟨ga, oa, e, hG, hc⟩ := hcs i hi
    have hl1 := block_lt_of_cell hc
    exact ⟨ga, oa, e, fun V S' D => dn_cell D ((bW.cell (p := ⟨ga, oa + i, none⟩) hl1).trans hc) (hGF _ hG)⟩
  have HBx : Hid (∀ V S', Dn F (fun k => X k ∨ KCmd.Tmp w W k) b W V S' → V.cell? ⟨w.heap.size, 0, none⟩ = some (ptr b) ∧ V.cell? ⟨w.heap.size, 1, none⟩ = some (.int .i64 now) ∧ V.cell? ⟨w.heap.size, 2, none⟩ = some (.slice a l.length c)) := hid_of fun V S' D => (box3 ((dn_block HH.out HB.out D t0).trans HX0.out)).1
  have D0 := hid_of (dn_self HH.out HB.out)
  obtain ⟨c0, c1, c2⟩ := HBx.out W S D0.out
  have HOK : Hid (∀ i, (drAll now S (l.take i)).1.mrk = none ∧ (drAll now S (l.take i)).1.cnt ≤ S.cnt + (l.take i).length ∧ (drAll now S (l.take i)).2 ≤ (l.take i).length) := hid_of fun i => by
    have := dr_ok now (l.take i) (S, 0) hm
    unfold drAll
    simpa using this
  obtain ⟨N, HN⟩ : ∃ N, Hid (N = l.length) := ⟨_, hid_of rfl⟩
  have hNb : N < 4611686018427387904 := by rw [HN.out]; exact hll
  have hcN : S.cnt + N + 1 < 18446744073709551616 := by rw [HN.out]; exact hc
  rw [← HN.out] at HW c2 HBx
  clear hW bW x0 x1 sW h hcs hl hll hm hc
  rw [← HN.out]
  go_enter Tryz.func39, Tryz.ntmps39
  go_wp2_with fail
  rw [← HW.out]
  go_wp2_with fail
  go_loopg [3, 9] N (fun gk s3 s9 wx => ∃ i : Nat, i + gk = N ∧ s9 = .int .i64 (i : Int) ∧ s3 = .int .i64 ((drAll now S (l.take i)).2 : Int) ∧ Hid (Dn F (fun k => X k ∨ KCmd.Tmp w W k) b W wx (drAll now S (l.take i)).1))
  case atStart => exact ⟨0, by omega, rfl, by simp [drAll], D0⟩
  case round =>
    obtain ⟨i, hi, rfl, rfl, B⟩ := hrel
    clear c0 c1 c2
    obtain ⟨c0, c1, c2⟩ := HBx.out wr _ B.out
    by_cases hlt : i < N
    · have his : i < l.length := by rw [← HN.out]; exact hlt
      have d1 : (i : Int) < (N : Int) := by omega
      obtain ⟨ga, oa, rfl, hcw⟩ := HCS.out i his
      have cw := hcw wr _ B.out
      have H1 := hid_of (HT.out wr _ i his (some ⟨ga, oa, none⟩) N B.out)
      have hst := hid_of (dr_take now S l i his)
      obtain ⟨hPm, hPc, hPn⟩ := HOK.out i
      rw [List.length_take] at hPc hPn
      have hPc' : (drAll now S (l.take i)).1.cnt + 1 < 18446744073709551616 := by omega
      have hPn' : (drAll now S (l.take i)).2 ≤ i := by omega
      clear hPc hPn
      have ew : IntKind.i64.wrap ((i : Int) + 1) = (i : Int) + 1 := IntWalk.i64_in _ (by omega)
      clear hcw
      generalize drAll now S (l.take i) = P at *
      have ew2 : IntKind.i64.wrap ((P.2 : Int) + 1) = (P.2 : Int) + 1 := IntWalk.i64_in _ (by omega)
      unfold drN at hst
      have HD1 := hid_of fun V DV hs => HD.out V P.1 i his DV hPm hPc' hs
      have HPm := hid_of hPm
      have HPc := hid_of hPc'
      clear hPm hPc'
      generalize hq : (gt P.1 now l[i]).isSome = q at *
      generalize mk l[i] = KK at *
      generalize hm2 : P.2 = m at *
      cases q
      · simp only [Bool.false_eq_true, if_false] at hst
        have HST := hid_of hst.out
        have HM := hid_of hm2
        clear hst hq HD1 hm2
        go_wp2_with fail
        refine H1.out.mono ?_
        rintro e w2 ⟨rfl, b2, d2⟩
        have D2 := hid_of d2
        clear b2 d2
        go_wp2_with fail
        go_roundg (gk - 1)
        case rel => exact ⟨i + 1, by omega, by rw [show ((i + 1 : Nat) : Int) = (i : Int) + 1 from by omega], by rw [HST.out, HM.out], by rw [HST.out]; exact D2⟩
        case measure => omega
      · simp only [if_true] at hst
        have HST := hid_of hst.out
        have HM := hid_of hm2
        clear hst hq hm2
        obtain ⟨S2, HS2⟩ : ∃ S2 : Sp, Hid (S2 = ⟨wout P.1.l l[i], P.1.cnt + 1, none⟩) := ⟨_, hid_of rfl⟩
        rw [← HS2.out] at HD1 HST
        go_wp2_with fail
        refine H1.out.mono ?_
        rintro e w2 ⟨rfl, b2, d2⟩
        have D2 := hid_of d2
        clear b2 d2 c0 c1 c2 cw
        obtain ⟨c0, c1, c2⟩ := HBx.out w2 _ D2.out
        go_wp2_with fail
        refine (HD1.out w2 D2.out (by first | rfl | trivial)).mono ?_
        rintro e w3 ⟨rfl, d3⟩
        have D3 := hid_of d3
        clear d3 c0 c1 c2
        go_wp2_with fail
        go_roundg (gk - 1)
        case rel => exact ⟨i + 1, by omega, by rw [show ((i + 1 : Nat) : Int) = (i : Int) + 1 from by omega], by rw [HST.out]; show _ = Value.int .i64 ((m + 1 : Nat) : Int); rw [show ((m + 1 : Nat) : Int) = (m : Int) + 1 from by omega], by rw [HST.out]; exact D3⟩
        case measure => omega
    · have d1 : ¬ (i : Int) < (N : Int) := by omega
      have hta : Hid (drAll now S (l.take i) = drAll now S l) := hid_of (by rw [List.take_of_length_le (by have := HN.out; omega)])
      rw [hta.out] at B ⊢
      generalize hP : drAll now S l = P at *
      generalize hm2 : P.2 = m at *
      have HP := hid_of hP
      have HM := hid_of hm2
      clear hP hm2
      go_wp2_with fail
      refine (HCt.out _ _).mono ?_
      rintro e w2 ⟨rfl, b2⟩
      have D2 := SDrop.dn_below B.out b2
      have z2 := (dn_block HH.out HB.out D2 t1).trans HX1.out
      have hz := fin4_at z2 (.int .i64 3) (.string ⟨#[]⟩) (.int .i64 (m : Int)) (.slice none 0 0)
      have hdn := dn_tmp HH.out HB.out D2 (ev_fin4 t1 (.int .i64 3) (.string ⟨#[]⟩) (.int .i64 (m : Int)) (.slice none 0 0))
      unfold fin4 at hz hdn
      obtain ⟨⟨v0, v1, v2, v3⟩, fv⟩ := box4 z2
      have fv0 := fv 0
      have fv1 := fv 1
      have fv2 := fv 2
      have fv3 := fv 3
      clear fv z2
      go_wp2_with fail
      obtain ⟨⟨g0, g1, g2, g3⟩, -⟩ := box4 hz
      exact bodyPost_ret (v := (rp 3 ⟨#[]⟩ (m : Int))) (by simp [results, Tryz.results39, go_sem, g0, g1, g2, g3]) rfl ⟨by rw [HP.out, HM.out], by rw [HP.out]; exact hdn⟩
end
end Go.Proofs.YtminfpkigenahaaGreatDoor.KDel
end
section
namespace Go.Proofs.YtminfpkigenahaaGreatDoor.KReq
open Go.RowKit Go.Maps
open Go.Proofs.YtminfpkigenahaaGreatDoor.SpaceMath (wout withL lkp keys Ris toD)
open Go.Proofs.YtminfpkigenahaaGreatDoor.ValueMath (Vl chk small)
open Go.Proofs.YtminfpkigenahaaGreatDoor.Base (mk mk_list mk_size Gr hid_of SL)
open Go.Proofs.YtminfpkigenahaaGreatDoor.Turn
open Go.Proofs.YtminfpkigenahaaGreatDoor.Vals
open Go.Proofs.YtminfpkigenahaaGreatDoor.Check0 (Wel)
open Go.Proofs.YtminfpkigenahaaGreatDoor.SBase
open Go.Proofs.YtminfpkigenahaaGreatDoor.SFind
open Go.Proofs.YtminfpkigenahaaGreatDoor.SPut (vO)
open Go.Proofs.YtminfpkigenahaaGreatDoor.QBase
open Go.Proofs.YtminfpkigenahaaGreatDoor.KCmd
open Go.Proofs.YtminfpkigenahaaGreatDoor.Parse (Has)
set_option linter.unusedVariables false
set_option linter.unusedSimpArgs false
open Go.Proofs.YtminfpkigenahaaGreatDoor.KRow (RR rep)
open Go.Proofs.YtminfpkigenahaaGreatDoor.KMatch (rpL matM)
open Go.Proofs.YtminfpkigenahaaGreatDoor.KMap (fnV cmdL)
open Go.Proofs.YtminfpkigenahaaGreatDoor.Low (low)
open Go.Proofs.YtminfpkigenahaaGreatDoor.RowOf (checkS)
open Go.Proofs.YtminfpkigenahaaGreatDoor.GMath (MM MM_all M M_star_cons M_star_nil M_nil)
open Go.Proofs.YtminfpkigenahaaGreatDoor.KRun (Ent)
open Go.Proofs.YtminfpkigenahaaGreatDoor.KKeys (keysM)
open Go.Proofs.YtminfpkigenahaaGreatDoor.Enc (encV)
abbrev sV (T : Bs) : Vl := ⟨1, T, [], [], []⟩
theorem chk_s {T : Bs} (h : T.length ≤ 1048576) : chk (sV T) = 0 := by
  unfold chk ValueMath.stray ValueMath.mayBe ValueMath.tOk
  simp [h]
theorem wel_s {T : Bs} (h : T.length ≤ 1048576) : Wel (sV T) := Dec.wel_of (by unfold small; simp) ⟨by show T.length < _; omega, fun y hy => by simp at hy, fun y hy => by simp at hy, fun y hy => by simp at hy⟩
theorem small_s (T : Bs) : small (sV T) := by unfold small; simp
theorem va_s (T : Bs) (w : World) : VA w (.agg #[.int .i64 1, .string (mk T), .slice none 0 0, .slice none 0 0, .slice none 0 0]) (sV T) := ⟨_, _, _, rfl, SL.nil _ _, FRow.fs_row (FRow.or_nil 0 _), ERow.fs_row (ERow.or_nil 0 _)⟩
/-- what a request wants -/
structure Rq (l : List Base.El) (f : FuncId) : Prop where
  ch : checkS l = []
  lo : 0 < l.length
  hi : l.length < 1000000
  bl : ∀ x ∈ l, x.length ≤ 1048576
  fn : lkp cmdL ((l.headD []).map low) = some (fnV f)
theorem Rq.fn0 {l : List Base.El} {f : FuncId} (h : Rq l f) (h0 : 0 < l.length) : lkp cmdL (l[0].map low) = some (fnV f) := by
  have := h.fn
  cases l with
  | nil => simp at h0
  | cons x r => exact this
theorem Rq.bl2 {l : List Base.El} {f : FuncId} (h : Rq l f) : ∀ x ∈ l, x.length ≤ 281474976710656 := fun x hx => Nat.le_trans (h.bl x hx) (by decide)
theorem sl_row {W : World} {q : Nat} (l : List Base.El) (h : W.heap[q]? = some (.cells (l.map Base.V).toArray 9 (0, 0))) : SL (fun k => k = q) W (.slice (some ⟨q, 0, none⟩) l.length l.length) l := by
  refine ⟨_, l.length, rfl, Nat.le_refl _, .inr ⟨q, 0, rfl, rfl, fun j x hj => ?_⟩⟩
  rw [Lib.cell_of_heap h, Nat.zero_add]
  simp [hj]
theorem dn_cast {F X : Nat → Prop} {b : Nat} {w w' : World} {S S' : Sp} (h : Dn F X b w w' S) (e : S = S') : Dn F X b w w' S' := e ▸ h
theorem all_rq {F X : Nat → Prop} {b : Nat} {w : World} {S S' : Sp} (h : SP F X b w S) (now : Int) (hn0 : 0 ≤ now) (hnM : now ≤ 9007199254740992) {G : Nat → Prop} {a : Option Addr} {n c : Nat} {l : List Base.El} (hl : SL G w (.slice a n c) l) {f : FuncId} (rq : Rq l f) (hent : Ent f) (rk : Int) (rT : ByteArray) (rn : Int)
    (hc : ∀ V a' c' (X' : Nat → Prop), Below w.heap.size w V → SP F X' b V S → SL G V (.slice a' (n - 1) c') l.tail → Calls Tryz.prog f #[cV b now a' (n - 1) c'] V fun e w' => e = .returned (rp rk rT rn) ∧ Dn F X' b V w' S') :
    Calls Tryz.prog 8 #[ptr b, .int .i64 now, .slice a n c] w fun e w' => e = .returned (rp rk rT rn) ∧ Dn F X b w w' S' := by
  have hh := rq.hi
  refine KLaw.run_call h now a n c rk rn rT fun V X' hS hV => ?_
  refine KRun.run_do hS now hn0 hnM (hl.below hV) rq.lo (by omega) rq.bl2 rq.ch _ (rq.fn0 rq.lo) hent rk rT rn fun V2 a2 c2 hV2 hl2 => ?_
  exact hc V2 a2 c2 _ (hV.trans (hV2.mono hV.size)) (sp_wide hS hV2) hl2
abbrev S0 : Sp := ⟨[], 0, none⟩
abbrev S1 : Sp := ⟨[([97], ⟨sV [49], 0, 1⟩)], 1, none⟩
abbrev S2 : Sp := ⟨[([97], ⟨sV [49], 3000, 2⟩)], 2, none⟩
abbrev S3 : Sp := ⟨[([98], ⟨sV [49], 3000, 3⟩)], 4, none⟩
abbrev S4 : Sp := ⟨[], 5, none⟩
theorem room1 : Room S1 := ⟨rfl, by decide, by decide⟩
theorem room2 : Room S2 := ⟨rfl, by decide, by decide⟩
abbrev E1 : En := ⟨sV [49], 0, 1⟩
abbrev E2 : En := ⟨sV [49], 3000, 2⟩
abbrev E3 : En := ⟨sV [49], 3000, 3⟩
theorem g1 : gt S1 1000 [97] = some E1 := by kernel_rfl
theorem g2 : gt S2 0 [97] = some E2 := by kernel_rfl
theorem g2n : gt S2 0 [113] = none := by kernel_rfl
theorem g3 : gt S3 0 [98] = some E3 := by kernel_rfl
theorem num2 : prs [50] = some 2 := by kernel_rfl
theorem numx : prs [120] = none := by kernel_rfl
theorem mat_b : matM (mk [42]) [[98]] = [[98]] := by
  have e : MM (mk [42]) (mk [98]) 0 0 = true := by
    rw [MM_all]
    show M [42] [98] = true
    rw [M_star_cons rfl, M_star_nil rfl, M_nil, M_nil]
    rfl
  unfold matM
  simp [e]
theorem keys3 : keysM S3 0 = [[98]] := by kernel_rfl
theorem enc1 : mk (encV (sV [49])) = ⟨#[1, 1, 0, 0, 0, 49]⟩ := by kernel_rfl
abbrev l0 : List Base.El := [[69, 88, 80, 73, 82, 69], [97], [50]]
theorem rq0 : Rq l0 43 := ⟨by kernel_rfl, by decide, by decide, by decide, by kernel_rfl⟩
abbrev l1 : List Base.El := [[116, 116, 108], [97]]
theorem rq1 : Rq l1 58 := ⟨by kernel_rfl, by decide, by decide, by decide, by kernel_rfl⟩
abbrev l2 : List Base.El := [[101, 120, 112, 105, 114, 101], [97], [120]]
theorem rq2 : Rq l2 43 := ⟨by kernel_rfl, by decide, by decide, by decide, by kernel_rfl⟩
abbrev l3 : List Base.El := [[114, 101, 110, 97, 109, 101], [113], [97]]
theorem rq3 : Rq l3 54 := ⟨by kernel_rfl, by decide, by decide, by decide, by kernel_rfl⟩
abbrev l4 : List Base.El := [[114, 101, 110, 97, 109, 101], [97], [98]]
theorem rq4 : Rq l4 54 := ⟨by kernel_rfl, by decide, by decide, by decide, by kernel_rfl⟩
abbrev l5 : List Base.El := [[101, 120, 105, 115, 116, 115], [98], [98], [113]]
theorem rq5 : Rq l5 42 := ⟨by kernel_rfl, by decide, by decide, by decide, by kernel_rfl⟩
abbrev l6 : List Base.El := [[115, 99, 97, 110], [49]]
theorem rq6 : Rq l6 57 := ⟨by kernel_rfl, by decide, by decide, by decide, by kernel_rfl⟩
abbrev l7 : List Base.El := [[112, 105, 110, 103]]
theorem rq7 : Rq l7 52 := ⟨by kernel_rfl, by decide, by decide, by decide, by kernel_rfl⟩
abbrev l8 : List Base.El := [[107, 101, 121, 115], [42]]
theorem rq8 : Rq l8 47 := ⟨by kernel_rfl, by decide, by decide, by decide, by kernel_rfl⟩
abbrev l9 : List Base.El := [[100, 117, 109, 112], [98]]
theorem rq9 : Rq l9 40 := ⟨by kernel_rfl, by decide, by decide, by decide, by kernel_rfl⟩
abbrev l10 : List Base.El := [[100, 98, 115, 105, 122, 101]]
theorem rq10 : Rq l10 38 := ⟨by kernel_rfl, by decide, by decide, by decide, by kernel_rfl⟩
abbrev l11 : List Base.El := [[100, 101, 108], [98], [98]]
theorem rq11 : Rq l11 39 := ⟨by kernel_rfl, by decide, by decide, by decide, by kernel_rfl⟩
section
variable {F X : Nat → Prop} {b : Nat} {w : World}
theorem req0 (h : SP F X b w S1) (hh : Has w) {q : Nat} (hq : w.heap[q]? = some (.cells #[.string ⟨#[69, 88, 80, 73, 82, 69]⟩, .string ⟨#[97]⟩, .string ⟨#[50]⟩] 9 (0, 0))) :
    Calls Tryz.prog 8 #[ptr b, .int .i64 1000, .slice (some ⟨q, 0, none⟩) 3 3] w fun e w' => e = .returned (rp 3 ⟨#[]⟩ 1) ∧ Dn F X b w w' S2 := by
  refine all_rq h 1000 (by decide) (by decide) (sl_row l0 hq) rq0 (fun args w => by kernel_rfl) 3 ⟨#[]⟩ 1 fun V a2 c2 X' hV hS hl => ?_
  refine KExw.expireInSeconds_call hS 1000 a2 2 c2 fun V2 X2 hS2 hV2 => ?_
  refine (KExd.expire_set hS2 room1 ((hh.later hV).later hV2) 1000 (by decide) (hl.below hV2) rfl (by decide) (by decide) 1000 1000 (m := 2) num2 (by decide) (.inr rfl) (by decide) (by decide) (by decide) g1 (by decide)).mono ?_
  rintro e w' ⟨rfl, d⟩
  exact ⟨rfl, dn_cast d (by kernel_rfl)⟩
theorem req1 (h : SP F X b w S2) {q : Nat} (hq : w.heap[q]? = some (.cells #[.string ⟨#[116, 116, 108]⟩, .string ⟨#[97]⟩] 9 (0, 0))) :
    Calls Tryz.prog 8 #[ptr b, .int .i64 1000, .slice (some ⟨q, 0, none⟩) 2 2] w fun e w' => e = .returned (rp 3 ⟨#[]⟩ 2) ∧ Dn F X b w w' S2 := by
  refine all_rq h 1000 (by decide) (by decide) (sl_row l1 hq) rq1 (fun args w => by kernel_rfl) 3 ⟨#[]⟩ 2 fun V a2 c2 X' hV hS hl => ?_
  refine (KTtl.leftInSeconds_call hS 1000 (by decide) hl (by decide) (by decide)).mono ?_
  rintro e w' ⟨rfl, d⟩
  exact ⟨congrArg (fun z : Int => Ending.returned (rp 3 ⟨#[]⟩ z)) (by kernel_rfl), d⟩
theorem req2 (h : SP F X b w S2) (hh : Has w) {q : Nat} (hq : w.heap[q]? = some (.cells #[.string ⟨#[101, 120, 112, 105, 114, 101]⟩, .string ⟨#[97]⟩, .string ⟨#[120]⟩] 9 (0, 0))) :
    Calls Tryz.prog 8 #[ptr b, .int .i64 1000, .slice (some ⟨q, 0, none⟩) 3 3] w fun e w' => e = .returned (rp 2 numB 0) ∧ Dn F X b w w' S2 := by
  refine all_rq h 1000 (by decide) (by decide) (sl_row l2 hq) rq2 (fun args w => by kernel_rfl) 2 numB 0 fun V a2 c2 X' hV hS hl => ?_
  refine KExw.expireInSeconds_call hS 1000 a2 2 c2 fun V2 X2 hS2 hV2 => ?_
  exact KExd.expire_num hS2 ((hh.later hV).later hV2) 1000 (by decide) (hl.below hV2) (by decide) (by decide) (by decide) 1000 1000 numx
theorem req3 (h : SP F X b w S2) {q : Nat} (hq : w.heap[q]? = some (.cells #[.string ⟨#[114, 101, 110, 97, 109, 101]⟩, .string ⟨#[113]⟩, .string ⟨#[97]⟩] 9 (0, 0))) :
    Calls Tryz.prog 8 #[ptr b, .int .i64 0, .slice (some ⟨q, 0, none⟩) 3 3] w fun e w' => e = .returned (rp 2 nokB 0) ∧ Dn F X b w w' S2 := by
  refine all_rq h 0 (by decide) (by decide) (sl_row l3 hq) rq3 (fun args w => by kernel_rfl) 2 nokB 0 fun V a2 c2 X' hV hS hl => ?_
  exact KMv.rename_no hS 0 hl (by decide) (by decide) g2n
theorem req4 (h : SP F X b w S2) {q : Nat} (hq : w.heap[q]? = some (.cells #[.string ⟨#[114, 101, 110, 97, 109, 101]⟩, .string ⟨#[97]⟩, .string ⟨#[98]⟩] 9 (0, 0))) :
    Calls Tryz.prog 8 #[ptr b, .int .i64 0, .slice (some ⟨q, 0, none⟩) 3 3] w fun e w' => e = .returned (rp 1 okB 0) ∧ Dn F X b w w' S3 := by
  refine all_rq h 0 (by decide) (by decide) (sl_row l4 hq) rq4 (fun args w => by kernel_rfl) 1 okB 0 fun V a2 c2 X' hV hS hl => ?_
  refine (KMv.rename_yes hS room2 (by decide) 0 hl (by decide) (by decide) (by decide) (by decide) g2).mono ?_
  rintro e w' ⟨rfl, d⟩
  exact ⟨rfl, dn_cast d (by kernel_rfl)⟩
theorem req5 (h : SP F X b w S3) {q : Nat} (hq : w.heap[q]? = some (.cells #[.string ⟨#[101, 120, 105, 115, 116, 115]⟩, .string ⟨#[98]⟩, .string ⟨#[98]⟩, .string ⟨#[113]⟩] 9 (0, 0))) :
    Calls Tryz.prog 8 #[ptr b, .int .i64 0, .slice (some ⟨q, 0, none⟩) 4 4] w fun e w' => e = .returned (rp 3 ⟨#[]⟩ 2) ∧ Dn F X b w w' S3 := by
  refine all_rq h 0 (by decide) (by decide) (sl_row l5 hq) rq5 (fun args w => by kernel_rfl) 3 ⟨#[]⟩ 2 fun V a2 c2 X' hV hS hl => ?_
  refine (KEx.exists_call hS 0 hl (by decide) (by decide)).mono ?_
  rintro e w' ⟨rfl, d⟩
  exact ⟨congrArg (fun z : Int => Ending.returned (rp 3 ⟨#[]⟩ z)) (by kernel_rfl), d⟩
theorem req6 (h : SP F X b w S3) {q : Nat} (hq : w.heap[q]? = some (.cells #[.string ⟨#[115, 99, 97, 110]⟩, .string ⟨#[49]⟩] 9 (0, 0))) :
    Calls Tryz.prog 8 #[ptr b, .int .i64 0, .slice (some ⟨q, 0, none⟩) 2 2] w fun e w' => e = .returned (rp 2 curB 0) ∧ Dn F X b w w' S3 := by
  refine all_rq h 0 (by decide) (by decide) (sl_row l6 hq) rq6 (fun args w => by kernel_rfl) 2 curB 0 fun V a2 c2 X' hV hS hl => ?_
  exact KScan.scan_no hS 0 hl (by decide) (by kernel_rfl) (by kernel_rfl)
theorem req7 (h : SP F X b w S3) {q : Nat} (hq : w.heap[q]? = some (.cells #[.string ⟨#[112, 105, 110, 103]⟩] 9 (0, 0))) :
    Calls Tryz.prog 8 #[ptr b, .int .i64 0, .slice (some ⟨q, 0, none⟩) 1 1] w fun e w' => e = .returned (rp 1 pongB 0) ∧ Dn F X b w w' S3 := by
  refine all_rq h 0 (by decide) (by decide) (sl_row l7 hq) rq7 (fun args w => by kernel_rfl) 1 pongB 0 fun V a2 c2 X' hV hS hl => ?_
  exact KEx.ping_call hS 0 a2 c2
theorem req8 (h : SP F X b w S3) {q : Nat} (hq : w.heap[q]? = some (.cells #[.string ⟨#[107, 101, 121, 115]⟩, .string ⟨#[42]⟩] 9 (0, 0))) :
    Calls Tryz.prog 8 #[ptr b, .int .i64 0, .slice (some ⟨q, 0, none⟩) 2 2] w fun e w' => ∃ v, e = .returned (rpL v) ∧ RR w.heap.size w' v [[98]] ∧ Dn F X b w w' S3 := by
  refine (KLaw2.run_any (S' := S3) h 0 _ 2 2 6 0 ⟨#[]⟩ (fun V la ln lc w1 => RR V.heap.size w1 (.slice la ln lc) [[98]]) (fun la ln lc w2 => RR w.heap.size w2 (.slice la ln lc) [[98]]) (fun V la ln lc w1 w2 hb hr ev => KLaw2.rr_ev hr hb.size ev) fun V X' hS hV => ?_).mono ?_
  · refine KRun.run_any hS 0 (by decide) (by decide) ((sl_row l8 hq).below hV) rq8.lo (by decide) rq8.bl2 rq8.ch _ (rq8.fn0 rq8.lo) (fun args w => by kernel_rfl) 6 ⟨#[]⟩ 0 (fun V2 la ln lc w1 => RR V2.heap.size w1 (.slice la ln lc) [[98]]) (fun la ln lc w2 => RR V.heap.size w2 (.slice la ln lc) [[98]]) (fun V2 la ln lc w1 w2 hb hr ev => KLaw2.rr_ev hr hb.size ev) fun V2 a2 c2 hV2 hl2 => ?_
    refine (KKc.keyscmd_call (sp_wide hS hV2) (by decide) 0 hl2 (by decide) (by decide) (by rw [keys3]; decide) (by rw [keys3]; decide)).mono ?_
    rintro e w' ⟨v, rfl, r, d⟩
    have e0 : l8.tail[0] = [42] := rfl
    rw [keys3, e0, mat_b] at r
    obtain ⟨a3, c3, rfl, -⟩ := KLaw2.rr_at r
    exact ⟨_, _, _, rfl, r, d⟩
  · rintro e w' ⟨la, ln, lc, rfl, r, d⟩
    exact ⟨_, rfl, r, d⟩
theorem req9 (h : SP F X b w S3) {q : Nat} (hq : w.heap[q]? = some (.cells #[.string ⟨#[100, 117, 109, 112]⟩, .string ⟨#[98]⟩] 9 (0, 0))) :
    Calls Tryz.prog 8 #[ptr b, .int .i64 0, .slice (some ⟨q, 0, none⟩) 2 2] w fun e w' => e = .returned (rp 4 ⟨#[1, 1, 0, 0, 0, 49]⟩ 0) ∧ Below w.heap.size w w' ∧ Dn F X b w w' S3 := by
  have hst : ∀ (w V w1 w2 : World), Below w.heap.size w V → Below V.heap.size V w1 → Ev (KCmd.Tmp w V) w1 w2 → Below w.heap.size w w2 := fun w V w1 w2 hb h1 ev => (hb.trans (h1.mono hb.size)).trans (ev.below (Nat.le_trans hb.size h1.size) (fun k q => q.1))
  refine (KLaw2.run_any (S' := S3) h 0 _ 2 2 4 0 ⟨#[1, 1, 0, 0, 0, 49]⟩ (fun V la ln lc w1 => (la = none ∧ ln = 0 ∧ lc = 0) ∧ Below V.heap.size V w1) (fun la ln lc w2 => (la = none ∧ ln = 0 ∧ lc = 0) ∧ Below w.heap.size w w2) (fun V la ln lc w1 w2 hb hr ev => ⟨hr.1, hst _ _ _ _ hb hr.2 ev⟩) fun V X' hS hV => ?_).mono ?_
  · refine KRun.run_any hS 0 (by decide) (by decide) ((sl_row l9 hq).below hV) rq9.lo (by decide) rq9.bl2 rq9.ch _ (rq9.fn0 rq9.lo) (fun args w => by kernel_rfl) 4 ⟨#[1, 1, 0, 0, 0, 49]⟩ 0 (fun V2 la ln lc w1 => (la = none ∧ ln = 0 ∧ lc = 0) ∧ Below V2.heap.size V2 w1) (fun la ln lc w2 => (la = none ∧ ln = 0 ∧ lc = 0) ∧ Below V.heap.size V w2) (fun V2 la ln lc w1 w2 hb hr ev => ⟨hr.1, hst _ _ _ _ hb hr.2 ev⟩) fun V2 a2 c2 hV2 hl2 => ?_
    refine (KDump.dump_yes (sp_wide hS hV2) 0 hl2 (by decide) (by decide) g3 (by decide)).mono ?_
    rintro e w' ⟨rfl, bb, d⟩
    exact ⟨none, 0, 0, congrArg (fun z : ByteArray => Ending.returned (rp 4 z 0)) enc1, ⟨⟨rfl, rfl, rfl⟩, bb⟩, d⟩
  · rintro e w' ⟨la, ln, lc, rfl, ⟨⟨rfl, rfl, rfl⟩, bb⟩, d⟩
    exact ⟨rfl, bb, d⟩
theorem req10 (h : SP F X b w S3) {q : Nat} (hq : w.heap[q]? = some (.cells #[.string ⟨#[100, 98, 115, 105, 122, 101]⟩] 9 (0, 0))) :
    Calls Tryz.prog 8 #[ptr b, .int .i64 3000, .slice (some ⟨q, 0, none⟩) 1 1] w fun e w' => e = .returned (rp 3 ⟨#[]⟩ 0) ∧ Dn F X b w w' S3 := by
  refine all_rq h 3000 (by decide) (by decide) (sl_row l10 hq) rq10 (fun args w => by kernel_rfl) 3 ⟨#[]⟩ 0 fun V a2 c2 X' hV hS hl => ?_
  refine (KLen.size_call hS (by decide) 3000 a2 _ c2).mono ?_
  rintro e w' ⟨rfl, d⟩
  exact ⟨congrArg (fun z : Int => Ending.returned (rp 3 ⟨#[]⟩ z)) (by kernel_rfl), d⟩
theorem req11 (h : SP F X b w S3) {q : Nat} (hF : ¬ F q) (hq : w.heap[q]? = some (.cells #[.string ⟨#[100, 101, 108]⟩, .string ⟨#[98]⟩, .string ⟨#[98]⟩] 9 (0, 0))) :
    Calls Tryz.prog 8 #[ptr b, .int .i64 2999, .slice (some ⟨q, 0, none⟩) 3 3] w fun e w' => e = .returned (rp 3 ⟨#[]⟩ 1) ∧ Dn F X b w w' S4 := by
  refine all_rq h 2999 (by decide) (by decide) (sl_row l11 hq) rq11 (fun args w => by kernel_rfl) 3 ⟨#[]⟩ 1 fun V a2 c2 X' hV hS hl => ?_
  refine (KDel.drop_call hS 2999 hl (fun k e => by subst e; exact hF) rfl (by decide) (by decide) (by decide)).mono ?_
  rintro e w' ⟨rfl, d⟩
  exact ⟨congrArg (fun z : Int => Ending.returned (rp 3 ⟨#[]⟩ z)) (by kernel_rfl), dn_cast d (by kernel_rfl)⟩
/- the law's text -/
set_option maxHeartbeats 4000000 in
set_option maxRecDepth 100000 in
theorem text_call (T : ByteArray) (w : World) : Calls Tryz.prog 6 #[.string T] w fun e w' => e = .returned (.agg #[.int .i64 1, .string T, .slice none 0 0, .slice none 0 0, .slice none 0 0]) ∧ Below w.heap.size w w' := by
  go_enter Tryz.func6, Tryz.ntmps6
  go_wp2_with fail
  exact bodyPost_ret (v := .agg #[.int .i64 1, .string T, .slice none 0 0, .slice none 0 0, .slice none 0 0]) (by simp [results, Tryz.results6, go_sem]) rfl ⟨rfl, alb _ _⟩
theorem put_a (h : SP F X b w S0) : Calls Tryz.prog 5 #[ptr b, .string ⟨#[97]⟩, .agg #[.int .i64 1, .string ⟨#[49]⟩, .slice none 0 0, .slice none 0 0, .slice none 0 0], .int .i64 0] w fun e w' => e = .returned (.int .i64 0) ∧ Dn F X b w w' S1 := by
  refine (SPut.put_ok h rfl (by decide) (by decide) [97] (by decide) (va_s [49] w) (wel_s (by decide)) (small_s _) (chk_s (by decide)) 0 (by decide)).mono ?_
  rintro e w' ⟨rfl, d⟩
  exact ⟨rfl, dn_cast d (by kernel_rfl)⟩
end
end Go.Proofs.YtminfpkigenahaaGreatDoor.KReq
end
