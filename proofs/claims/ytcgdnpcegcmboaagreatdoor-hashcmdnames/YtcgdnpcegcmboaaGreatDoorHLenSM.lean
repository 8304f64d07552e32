/- How many keys are seen. What must come whatever the input is (law20). SameTexts of the document. -/
import Derived.Test.YtcgdnpcegcmboaaGreatDoorHCmdM
import Derived.Test.YtcgdnpcegcmboaaGreatDoorPeekM
import Derived.Maps.OwnSet
import Derived.Test.YtcgdnpcegcmboaaGreatDoorHOddM
import Derived.Test.YtcgdnpcegcmboaaGreatDoorSTouchM
import Derived.Test.YtcgdnpcegcmboaaGreatDoorFRowM
section
namespace Go.Proofs.YtcgdnpcegcmboaaGreatDoor.HLenS
open Go.RowKit Go.Maps
open Go.Proofs.YtcgdnpcegcmboaaGreatDoor.SpaceMath (wout withL lkp keys Ris toD)
open Go.Proofs.YtcgdnpcegcmboaaGreatDoor.ValueMath (Vl chk small)
open Go.Proofs.YtcgdnpcegcmboaaGreatDoor.Base (mk mk_list mk_size Gr hid_of SL)
open Go.Proofs.YtcgdnpcegcmboaaGreatDoor.Turn
open Go.Proofs.YtcgdnpcegcmboaaGreatDoor.Vals
open Go.Proofs.YtcgdnpcegcmboaaGreatDoor.Check0 (Wel)
open Go.Proofs.YtcgdnpcegcmboaaGreatDoor.SBase
open Go.Proofs.YtcgdnpcegcmboaaGreatDoor.SFind
open Go.Proofs.YtcgdnpcegcmboaaGreatDoor.SPut (vO)
open Go.Proofs.YtcgdnpcegcmboaaGreatDoor.QBase
open Go.Proofs.YtcgdnpcegcmboaaGreatDoor.HCmd
open Go.Proofs.YtcgdnpcegcmboaaGreatDoor.Parse (Has)
set_option linter.unusedVariables false
set_option linter.unusedSimpArgs false
open Go.Proofs.YtcgdnpcegcmboaaGreatDoor.HeapMath (Sorted)
open Go.Proofs.YtcgdnpcegcmboaaGreatDoor.Before (ltS keysS ent_keys ent_sto entLt)
open Go.Proofs.YtcgdnpcegcmboaaGreatDoor.RowB (Es)
open Go.Proofs.YtcgdnpcegcmboaaGreatDoor.Peek (got keysOf sv)
open Go.Proofs.YtcgdnpcegcmboaaGreatDoor.SSet (spa_len)
/-- how many keys are seen -/
def seenN (S : Sp) (now : Int) : Nat := (S.l.filter fun p => seenB p.2.due p.2.ver now).length
/-- entries in order, by ticks -/
theorem sorted_of (s : Es) (hk : (s.map (·.1)).Nodup) : ∃ T : Es, Sorted ltS s T := by
  have hle : ∀ a b c : SBase.Bs × Int, (!decide (ltS b a)) = true → (!decide (ltS c b)) = true → (!decide (ltS c a)) = true := fun a b c h1 h2 => by
    have h1 : ¬ ltS b a := by simpa using h1
    have h2 : ¬ ltS c b := by simpa using h2
    have := (ent_sto keysS).le_trans h1 h2
    simpa using this
  have htot : ∀ a b : SBase.Bs × Int, ((!decide (ltS b a)) || (!decide (ltS a b))) = true := fun a b => by
    by_cases h : ltS a b
    · have : ¬ ltS b a := fun q => (ent_sto keysS).irr _ ((ent_sto keysS).trans _ _ _ h q)
      simp [this]
    · simp [h]
  refine ⟨s.mergeSort (fun a b => !decide (ltS b a)), ⟨List.mergeSort_perm _ _, ?_⟩⟩
  have hp := List.pairwise_mergeSort hle htot s
  have hn : ((s.mergeSort (fun a b => !decide (ltS b a))).map (·.1)).Nodup := (((List.mergeSort_perm s _).map (·.1)).nodup_iff).2 hk
  have hne : (s.mergeSort (fun a b => !decide (ltS b a))).Pairwise (fun a b => a ≠ b) := by
    have := List.pairwise_map.1 hn
    exact this.imp fun h e => h (by rw [e])
  refine (hp.and hne).imp fun {a b} ⟨h1, h2⟩ => ?_
  have h1 : ¬ ltS b a := by simpa using h1
  rcases (ent_keys keysS).tot a b h2 with q | q
  · exact q
  · exact absurd q h1
theorem tw_count (now : Int) : ∀ {T : Es}, T.Pairwise ltS → (T.takeWhile (fun x => decide (x.2 ≤ now))).length = (T.filter (fun x => decide (x.2 ≤ now))).length
  | [], _ => rfl
  | x :: r, h => by
    by_cases hx : x.2 ≤ now
    · rw [List.takeWhile_cons_of_pos (by simpa using hx), List.filter_cons_of_pos (by simpa using hx), List.length_cons, List.length_cons, tw_count now (List.pairwise_cons.1 h).2]
    · rw [List.takeWhile_cons_of_neg (by simpa using hx), List.filter_cons_of_neg (by simpa using hx)]
      have : r.filter (fun x => decide (x.2 ≤ now)) = [] := List.filter_eq_nil_iff.2 fun y hy => by
        have := (List.pairwise_cons.1 h).1 y hy
        unfold Before.ltS entLt at this
        have : ¬ y.2 ≤ now := by split at this <;> omega
        simpa using this
      rw [this]
      try rfl
theorem seen_split (now : Int) : ∀ {l : KL En}, (∀ p ∈ l, 0 < p.2.ver ∧ 0 ≤ p.2.due) → (l.filter fun p => seenB p.2.due p.2.ver now).length + ((dues l).filter (fun x => decide (x.2 ≤ now))).length = l.length
  | [], _ => rfl
  | p :: r, h => by
    have ih := seen_split now (l := r) fun q hq => h q (by simp [hq])
    obtain ⟨h1, h2⟩ := h p (by simp)
    unfold dues at ih ⊢
    by_cases hd : 0 < p.2.due
    · by_cases hn : p.2.due ≤ now
      · have hs : seenB p.2.due p.2.ver now = false := by unfold seenB; simp; omega
        simp only [List.filter_cons, hs, List.filterMap_cons, hd, if_true, List.length_cons, hn, decide_true, Bool.false_eq_true, if_false]
        try omega
      · have hs : seenB p.2.due p.2.ver now = true := by unfold seenB; simp; omega
        simp only [List.filter_cons, hs, List.filterMap_cons, hd, if_true, List.length_cons, hn, decide_false, Bool.false_eq_true, if_false]
        try omega
    · have hs : seenB p.2.due p.2.ver now = true := by unfold seenB; simp; omega
      simp only [List.filter_cons, hs, List.filterMap_cons, hd, if_true, List.length_cons, if_false]
      try omega
/-- the index of deadlines tells how many keys are over -/
theorem over_count {F X : Nat → Prop} {b : Nat} {w : World} {S : Sp} (h0 : SP F X b w S) {s T : Es} (hp : s.Perm (dues S.l)) (hT : Sorted ltS s T) (now : Int) : (got T now (S.l.length : Int)).length + seenN S now = S.l.length := by
  have hall : ∀ p ∈ S.l, 0 < p.2.ver ∧ 0 ≤ p.2.due := fun p hpm => by
    obtain ⟨FI, bm, bi, mv, L, s', h⟩ := h0
    have he := h.ent p.1
    rw [SpaceMath.lkp_at h.ris2 p hpm] at he
    cases q : lkp L p.1 with
    | none => rw [q] at he; exact absurd he (by simp [Two])
    | some v =>
      rw [q] at he
      exact ⟨(EnAt.ver he).1, (EnAt.due he).1⟩
  have h1 := seen_split now hall
  have h2 : ((dues S.l).filter (fun x => decide (x.2 ≤ now))).length = (T.filter (fun x => decide (x.2 ≤ now))).length := ((hT.perm.trans hp).filter _).length_eq.symm
  have h3 := tw_count now hT.inc
  have h4 : (T.takeWhile (fun x => decide (x.2 ≤ now))).length ≤ S.l.length := by
    have a := (List.takeWhile_prefix (l := T) (fun x => decide (x.2 ≤ now))).length_le
    have c := (hT.perm.trans hp).length_eq
    have d := SMath.dues_len S.l
    omega
  unfold got seenN
  rw [List.length_take]
  omega
section
variable {F X : Nat → Prop} {b : Nat} {w : World} {S : Sp}
set_option maxHeartbeats 4000000 in
set_option maxRecDepth 100000 in
theorem stale_call (h : SP F X b w S) (hmax : S.l.length + 1 < 1099511627776) (now : Int) :
    Calls Tryz.prog 72 #[ptr b, .int .i64 now, .int .i64 (S.l.length : Int)] w fun e w' => ∃ a c, e = .returned (.slice a (S.l.length - seenN S now) c) ∧ Below w.heap.size w w' := by
  have h0 := h
  obtain ⟨FI, bm, bi, mv, L, s, h⟩ := h
  have hkn : (s.map (·.1)).Nodup := by
    have := (h.du.map (·.1)).nodup_iff.2 (by
      have := SMath.dues_keys h.ris2
      exact (List.pairwise_map.2 (this.imp fun {a b} q => SpaceMath.lt_ne q)))
    exact this
  obtain ⟨T, hT⟩ := sorted_of s hkn
  have hc := over_count h0 h.du hT now
  have hsl : s.length ≤ S.l.length := by have := h.du.length_eq; have := SMath.dues_len S.l; omega
  have HP := hid_of (PeekS.peek_call h.ix hT (by omega) now (S.l.length : Int))
  have c1 : w.cell? ⟨b, 1, none⟩ = some (ptr bi) := Lib.cell_of_heap h.blk 1
  have hg : (got T now (S.l.length : Int)).length = S.l.length - seenN S now := by omega
  rw [hg] at HP
  generalize S.l.length - seenN S now = K at *
  clear h0 hkn hT hc hsl h hg
  go_enter Tryz.func72, Tryz.ntmps72
  go_wp2_with fail
  refine HP.out.mono ?_
  rintro e w1 ⟨v, rfl, r1, b1⟩
  obtain ⟨a, c', rfl⟩ : ∃ a c', v = .slice a K c' := by
    rcases r1.2 with ⟨rfl, hn⟩ | ⟨g, cap, cur, rfl, _⟩
    · rw [hn]; exact ⟨_, _, rfl⟩
    · exact ⟨_, _, rfl⟩
  have B1 := hid_of b1
  clear r1 b1
  go_wp2_with fail
  go_ret
  exact ⟨a, c', rfl, B1.out⟩
theorem seen_le (S : Sp) (now : Int) : seenN S now ≤ S.l.length := List.length_filter_le _ _
set_option maxHeartbeats 4000000 in
set_option maxRecDepth 100000 in
theorem len_call (h : SP F X b w S) (hmax : S.l.length + 1 < 1099511627776) (now : Int) :
    Calls Tryz.prog 37 #[ptr b, .int .i64 now] w fun e w' => e = .returned (.int .i64 (seenN S now : Int)) ∧ Below w.heap.size w w' := by
  have HSt := hid_of (stale_call (h.below (Below.refl _ w).drew) hmax now)
  have hsn := seen_le S now
  obtain ⟨FI, bm, bi, mv, L, s, h⟩ := h
  have hL := spa_len h
  have HS : Hid (∀ U, Below w.heap.size w U → U.cell? ⟨b, 0, none⟩ = some (.map (some bm)) ∧ ∀ ty, (Builtin.len_ #[80] ty #[.map (some bm)]).run Tryz.prog U = .ok (.int .i64 (S.l.length : Int)) U) := hid_of fun U hU => by
    have h' := h.below hU
    refine ⟨Lib.cell_of_heap h'.blk 0, fun ty => ?_⟩
    have := h'.map.len Tryz.underlying80 ty
    rw [SpaceMath.size_D, hL] at this
    exact this
  have s0 := HS.out w.drew (Below.refl _ w).drew
  generalize S.l.length = N at *
  have hw : IntKind.i64.wrap ((N : Int) - ((N - seenN S now : Nat) : Int)) = (seenN S now : Int) := by rw [IntWalk.i64_in _ (by omega)]; omega
  have hw2 : (N : Int) - ((N - seenN S now : Nat) : Int) = (seenN S now : Int) := by omega
  generalize seenN S now = M at *
  have hwM : IntKind.i64.wrap (M : Int) = (M : Int) := IntWalk.i64_in _ (by omega)
  generalize hK : N - M = K at *
  clear hL h
  go_enter Tryz.func37, Tryz.ntmps37
  go_wp2_with fail
  go_region_held3 (fun U => U.cell? ⟨b, 0, none⟩ = some (.map (some bm)) ∧ ∀ ty, (Builtin.len_ #[80] ty #[.map (some bm)]).run Tryz.prog U = .ok (.int .i64 (N : Int)) U) (first | with_reducible exact s0 | with_reducible exact s1) (first
    | (go_at_call 72; refine HSt.out.mono ?_; rintro e w1 ⟨a, c, rfl, b1⟩; have B1 := hid_of (FRow.bel (Below.refl _ w).drew b1 (Nat.le_refl _)); have s1 := HS.out w1 B1.out; clear b1))
  go_wp2_with fail
  go_ret
  exact ⟨rfl, B1.out⟩
end
end Go.Proofs.YtcgdnpcegcmboaaGreatDoor.HLenS
end
section
namespace Go.Proofs.YtcgdnpcegcmboaaGreatDoor.HSure
open Go.RowKit Go.Maps
open Go.Proofs.YtcgdnpcegcmboaaGreatDoor.SpaceMath (wout withL lkp keys Ris toD)
open Go.Proofs.YtcgdnpcegcmboaaGreatDoor.ValueMath (Vl chk small)
open Go.Proofs.YtcgdnpcegcmboaaGreatDoor.Base (mk mk_list mk_size Gr hid_of SL)
open Go.Proofs.YtcgdnpcegcmboaaGreatDoor.Turn
open Go.Proofs.YtcgdnpcegcmboaaGreatDoor.Vals
open Go.Proofs.YtcgdnpcegcmboaaGreatDoor.SBase
open Go.Proofs.YtcgdnpcegcmboaaGreatDoor.SFind
open Go.Proofs.YtcgdnpcegcmboaaGreatDoor.QBase
open Go.Proofs.YtcgdnpcegcmboaaGreatDoor.HCmd
open Go.Proofs.YtcgdnpcegcmboaaGreatDoor.HRow (RR)
open Go.Proofs.YtcgdnpcegcmboaaGreatDoor.HDo
open Go.Proofs.YtcgdnpcegcmboaaGreatDoor.HReq
open Go.Proofs.YtcgdnpcegcmboaaGreatDoor.Parse (Has)
set_option linter.unusedVariables false
set_option linter.unusedSimpArgs false
theorem int_yes (m : Int) (w : World) : Calls Tryz.prog 24 #[rp 3 ⟨#[]⟩ m, .int .i64 m] w fun e w' => e = .returned (.bool true) ∧ Below w.heap.size w w' := by
  refine (HLaw.isInt_call 3 m m ⟨#[]⟩ w).mono ?_
  rintro e w' ⟨rfl, b⟩
  exact ⟨by simp, b⟩
theorem row_below {w w' : World} {base e sz n : Nat} {v : Value} {xs : List Value} (h : w.ownsRow base e sz v n xs) (hb : Below w.heap.size w w') : w'.ownsRow base e sz v n xs := by
  refine ⟨h.1, h.2.imp id ?_⟩
  rintro ⟨g, cap, cur, rfl, hB, hg, r⟩
  exact ⟨g, cap, cur, rfl, hB, (hb.block g (lt_of hg)).trans hg, r⟩
/-- a request that is done beside a space of the law's own: the space behind it -/
theorem aft0 {F X : Nat → Prop} {b : Nat} {w0 W V w3 : World} {S S' : Sp} (h0 : SP F X b W S) (lo : Below w0.heap.size w0 W) (hi : ∀ k, F k → w0.heap.size ≤ k) (hb : Below W.heap.size W V)
    (h : Dn F (fun k => X k ∨ HCmd.Tmp W V k) b V w3 S') : ∃ F' X', SP F' X' b w3 S' ∧ Below w0.heap.size w0 w3 ∧ ∀ k, F' k → w0.heap.size ≤ k := by
  obtain ⟨F', s, ev, n⟩ := dn_tmp h0 hb h (Ev.refl _ _)
  exact ⟨F', _, s, lo.trans (ev.below lo.size hi), fun k q => (n k q).elim (hi k) (Nat.le_trans lo.size)⟩
set_option maxRecDepth 100000 in
set_option maxHeartbeats 8000000 in
theorem sure_call (w : World) (hh : Has w) : Calls Tryz.prog 12 #[] w fun e w' => e = .returned (.bool true) ∧ Below w.heap.size w w' := by
  have HHas := hid_of hh
  have HN := hid_of (STouch.new_call w)
  have HI := hid_of int_yes
  have HE := hid_of HLaw.isErr_yes
  have HLn := hid_of fun (F X : Nat → Prop) (b : Nat) (V : World) (h : SP F X b V ⟨[], 4, none⟩) => HLenS.len_call h (by decide) 0
  have HBu := hid_of fun (V : World) (B : Nat) (v : Value) (q : Nat) (hv : RR B V v [[97], [55], [98], [50]]) (hq : V.heap[q]? = some (.cells #[.string ⟨#[97]⟩, .string ⟨#[55]⟩, .string ⟨#[98]⟩, .string ⟨#[50]⟩] 9 (0, 0))) => HLaw.are_yes hv (sl_row [[97], [55], [98], [50]] hq) (by decide)
  have F1 : ∀ V : World, (Instr.field 25 (.agg #[.int .i64 4, .string ⟨#[55]⟩, .int .i64 0, .slice none 0 0]) 1).run Tryz.prog V = .ok (.string ⟨#[55]⟩) V := fun V => by kernel_rfl
  have F2 : ∀ V : World, (Instr.field 25 (.agg #[.int .i64 5, .string ⟨#[]⟩, .int .i64 0, .slice none 0 0]) 0).run Tryz.prog V = .ok (.int .i64 5) V := fun V => by kernel_rfl
  have F3 : ∀ V : World, (Instr.field 25 (.agg #[.int .i64 1, .string ⟨#[79, 75]⟩, .int .i64 0, .slice none 0 0]) 1).run Tryz.prog V = .ok (.string ⟨#[79, 75]⟩) V := fun V => by kernel_rfl
  have HR0 := hid_of fun (F X : Nat → Prop) (b : Nat) (V : World) (q : Nat) (h : SP F X b V S0) (hq : V.heap[q]? = some (.cells #[.string ⟨#[72, 83, 69, 84]⟩, .string ⟨#[104]⟩, .string ⟨#[97]⟩, .string ⟨#[49]⟩, .string ⟨#[98]⟩, .string ⟨#[50]⟩] 9 (0, 0))) => req0 h hq
  have HR1 := hid_of fun (F X : Nat → Prop) (b : Nat) (V : World) (q : Nat) (h : SP F X b V S1) (hq : V.heap[q]? = some (.cells #[.string ⟨#[104, 115, 101, 116]⟩, .string ⟨#[104]⟩, .string ⟨#[97]⟩, .string ⟨#[51]⟩] 9 (0, 0))) => req1 h hq
  have HR2 := hid_of fun (F X : Nat → Prop) (b : Nat) (V : World) (q : Nat) (h : SP F X b V S2) (hq : V.heap[q]? = some (.cells #[.string ⟨#[104, 115, 101, 116]⟩, .string ⟨#[104]⟩, .string ⟨#[97]⟩, .string ⟨#[49]⟩, .string ⟨#[98]⟩] 9 (0, 0))) => req2 h hq
  have HR3 := hid_of fun (F X : Nat → Prop) (b : Nat) (V : World) (q : Nat) (h : SP F X b V S2) (hh : Has V) (hq : V.heap[q]? = some (.cells #[.string ⟨#[104, 105, 110, 99, 114, 98, 121]⟩, .string ⟨#[104]⟩, .string ⟨#[97]⟩, .string ⟨#[52]⟩] 9 (0, 0))) => req3 h hh hq
  have HR4 := hid_of fun (F X : Nat → Prop) (b : Nat) (V : World) (q : Nat) (h : SP F X b V S3) (hh : Has V) (hq : V.heap[q]? = some (.cells #[.string ⟨#[104, 105, 110, 99, 114, 98, 121]⟩, .string ⟨#[104]⟩, .string ⟨#[97]⟩, .string ⟨#[120]⟩] 9 (0, 0))) => req4 h hh hq
  have HR5 := hid_of fun (F X : Nat → Prop) (b : Nat) (V : World) (q : Nat) (h : SP F X b V S3) (hq : V.heap[q]? = some (.cells #[.string ⟨#[104, 103, 101, 116]⟩, .string ⟨#[104]⟩, .string ⟨#[97]⟩] 9 (0, 0))) => (show Calls Tryz.prog 21 #[ptr b, .int .i64 0, .slice (some ⟨q, 0, none⟩) 3 3] V fun e w' => e = .returned (.agg #[.int .i64 4, .string ⟨#[55]⟩, .int .i64 0, .slice none 0 0]) ∧ Dn F X b V w' S3 from req5 h hq)
  have HR6 := hid_of fun (F X : Nat → Prop) (b : Nat) (V : World) (q : Nat) (h : SP F X b V S3) (hq : V.heap[q]? = some (.cells #[.string ⟨#[104, 103, 101, 116]⟩, .string ⟨#[104]⟩, .string ⟨#[113]⟩] 9 (0, 0))) => (show Calls Tryz.prog 21 #[ptr b, .int .i64 0, .slice (some ⟨q, 0, none⟩) 3 3] V fun e w' => e = .returned (.agg #[.int .i64 5, .string ⟨#[]⟩, .int .i64 0, .slice none 0 0]) ∧ Dn F X b V w' S3 from req6 h hq)
  have HR7 := hid_of fun (F X : Nat → Prop) (b : Nat) (V : World) (q : Nat) (h : SP F X b V S3) (hq : V.heap[q]? = some (.cells #[.string ⟨#[104, 103, 101, 116, 97, 108, 108]⟩, .string ⟨#[104]⟩] 9 (0, 0))) => req7 h hq
  have HR8 := hid_of fun (F X : Nat → Prop) (b : Nat) (V : World) (q : Nat) (h : SP F X b V S3) (hq : V.heap[q]? = some (.cells #[.string ⟨#[104, 100, 101, 108]⟩, .string ⟨#[104]⟩, .string ⟨#[97]⟩, .string ⟨#[97]⟩, .string ⟨#[98]⟩] 9 (0, 0))) => req8 h hq
  have HR9 := hid_of fun (F X : Nat → Prop) (b : Nat) (V : World) (q : Nat) (h : SP F X b V S4) (hq : V.heap[q]? = some (.cells #[.string ⟨#[104, 108, 101, 110]⟩, .string ⟨#[104]⟩] 9 (0, 0))) => req9 h hq
  have HR10 := hid_of fun (F X : Nat → Prop) (b : Nat) (V : World) (q : Nat) (h : SP F X b V S4) (hq : V.heap[q]? = some (.cells #[.string ⟨#[104, 109, 115, 101, 116]⟩, .string ⟨#[104]⟩, .string ⟨#[97]⟩, .string ⟨#[49]⟩] 9 (0, 0))) => (show Calls Tryz.prog 21 #[ptr b, .int .i64 0, .slice (some ⟨q, 0, none⟩) 4 4] V fun e w' => e = .returned (.agg #[.int .i64 1, .string ⟨#[79, 75]⟩, .int .i64 0, .slice none 0 0]) ∧ Dn F X b V w' S5 from req10 h hq)
  clear hh
  go_enter Tryz.func12, Tryz.ntmps12
  go_wp2_with fail
  refine HN.out.mono ?_
  rintro e u0 ⟨F0, rfl, hsp, hb, hF⟩
  have HSP := hid_of (show ∃ X, SP F0 X w.heap.size u0 S0 from ⟨_, hsp⟩)
  have HB := hid_of hb
  have HF := hid_of hF
  clear hsp hb hF HN
  obtain ⟨X0, hsp⟩ := HSP.out
  clear HSP
  have HSP := hid_of hsp
  clear hsp
  -- request 0: HSET h a 1 b 2
  obtain ⟨V0, hV⟩ : ∃ V, V = u0.alloc (.cells #[.string ⟨#[72, 83, 69, 84]⟩, .string ⟨#[104]⟩, .string ⟨#[97]⟩, .string ⟨#[49]⟩, .string ⟨#[98]⟩, .string ⟨#[50]⟩] 9) := ⟨_, rfl⟩
  have bV : Below u0.heap.size u0 V0 := by rw [hV]; exact alb _ _
  have HQ := hid_of (HR0.out _ _ _ V0 u0.heap.size (sp_wide HSP.out bV) (by rw [hV]; exact heap_alloc_new u0 _))
  have HW := hid_of hV
  have HbV := hid_of bV
  clear hV bV HR0
  go_wp2_with fail
  rw [← HW.out]
  refine HQ.out.mono ?_
  rintro e u1 ⟨rfl, d⟩
  obtain ⟨F1, X1, sp, B, f⟩ := aft0 HSP.out HB.out HF.out HbV.out d
  clear HSP HB HF
  have HSP := hid_of sp
  have HB := hid_of B
  have HF := hid_of f
  clear d sp B f HQ HW HbV
  go_wp2_with fail
  refine (HI.out 2 u1).mono ?_
  rintro e c1 ⟨rfl, bb⟩
  have hsp' := HSP.out.below bb
  have hb' := HB.out.trans (bb.mono HB.out.size)
  clear HSP HB bb
  have HSP := hid_of hsp'
  have HB := hid_of hb'
  clear hsp' hb'
  -- request 1: hset h a 3
  obtain ⟨V1, hV⟩ : ∃ V, V = c1.alloc (.cells #[.string ⟨#[104, 115, 101, 116]⟩, .string ⟨#[104]⟩, .string ⟨#[97]⟩, .string ⟨#[51]⟩] 9) := ⟨_, rfl⟩
  have bV : Below c1.heap.size c1 V1 := by rw [hV]; exact alb _ _
  have HQ := hid_of (HR1.out _ _ _ V1 c1.heap.size (sp_wide HSP.out bV) (by rw [hV]; exact heap_alloc_new c1 _))
  have HW := hid_of hV
  have HbV := hid_of bV
  clear hV bV HR1
  go_wp2_with fail
  rw [← HW.out]
  refine HQ.out.mono ?_
  rintro e u2 ⟨rfl, d⟩
  obtain ⟨F2, X2, sp, B, f⟩ := aft0 HSP.out HB.out HF.out HbV.out d
  clear HSP HB HF
  have HSP := hid_of sp
  have HB := hid_of B
  have HF := hid_of f
  clear d sp B f HQ HW HbV
  go_wp2_with fail
  refine (HI.out 0 u2).mono ?_
  rintro e c2 ⟨rfl, bb⟩
  have hsp' := HSP.out.below bb
  have hb' := HB.out.trans (bb.mono HB.out.size)
  clear HSP HB bb
  have HSP := hid_of hsp'
  have HB := hid_of hb'
  clear hsp' hb'
  -- request 2: hset h a 1 b
  obtain ⟨V2, hV⟩ : ∃ V, V = c2.alloc (.cells #[.string ⟨#[104, 115, 101, 116]⟩, .string ⟨#[104]⟩, .string ⟨#[97]⟩, .string ⟨#[49]⟩, .string ⟨#[98]⟩] 9) := ⟨_, rfl⟩
  have bV : Below c2.heap.size c2 V2 := by rw [hV]; exact alb _ _
  have HQ := hid_of (HR2.out _ _ _ V2 c2.heap.size (sp_wide HSP.out bV) (by rw [hV]; exact heap_alloc_new c2 _))
  have HW := hid_of hV
  have HbV := hid_of bV
  clear hV bV HR2
  go_wp2_with fail
  rw [← HW.out]
  refine HQ.out.mono ?_
  rintro e u3 ⟨rfl, d⟩
  obtain ⟨F3, X3, sp, B, f⟩ := aft0 HSP.out HB.out HF.out HbV.out d
  clear HSP HB HF
  have HSP := hid_of sp
  have HB := hid_of B
  have HF := hid_of f
  clear d sp B f HQ HW HbV
  go_wp2_with fail
  refine (HE.out HDo.arB 0 u3).mono ?_
  rintro e c3 ⟨rfl, bb⟩
  have hsp' := HSP.out.below bb
  have hb' := HB.out.trans (bb.mono HB.out.size)
  clear HSP HB bb
  have HSP := hid_of hsp'
  have HB := hid_of hb'
  clear hsp' hb'
  -- request 3: hincrby h a 4
  obtain ⟨V3, hV⟩ : ∃ V, V = c3.alloc (.cells #[.string ⟨#[104, 105, 110, 99, 114, 98, 121]⟩, .string ⟨#[104]⟩, .string ⟨#[97]⟩, .string ⟨#[52]⟩] 9) := ⟨_, rfl⟩
  have bV : Below c3.heap.size c3 V3 := by rw [hV]; exact alb _ _
  have HQ := hid_of (HR3.out _ _ _ V3 c3.heap.size (sp_wide HSP.out bV) (HHas.out.later (HB.out.trans (bV.mono HB.out.size))) (by rw [hV]; exact heap_alloc_new c3 _))
  have HW := hid_of hV
  have HbV := hid_of bV
  clear hV bV HR3
  go_wp2_with fail
  rw [← HW.out]
  refine HQ.out.mono ?_
  rintro e u4 ⟨rfl, d⟩
  obtain ⟨F4, X4, sp, B, f⟩ := aft0 HSP.out HB.out HF.out HbV.out d
  clear HSP HB HF
  have HSP := hid_of sp
  have HB := hid_of B
  have HF := hid_of f
  clear d sp B f HQ HW HbV
  go_wp2_with fail
  refine (HI.out 7 u4).mono ?_
  rintro e c4 ⟨rfl, bb⟩
  have hsp' := HSP.out.below bb
  have hb' := HB.out.trans (bb.mono HB.out.size)
  clear HSP HB bb
  have HSP := hid_of hsp'
  have HB := hid_of hb'
  clear hsp' hb'
  -- request 4: hincrby h a x
  obtain ⟨V4, hV⟩ : ∃ V, V = c4.alloc (.cells #[.string ⟨#[104, 105, 110, 99, 114, 98, 121]⟩, .string ⟨#[104]⟩, .string ⟨#[97]⟩, .string ⟨#[120]⟩] 9) := ⟨_, rfl⟩
  have bV : Below c4.heap.size c4 V4 := by rw [hV]; exact alb _ _
  have HQ := hid_of (HR4.out _ _ _ V4 c4.heap.size (sp_wide HSP.out bV) (HHas.out.later (HB.out.trans (bV.mono HB.out.size))) (by rw [hV]; exact heap_alloc_new c4 _))
  have HW := hid_of hV
  have HbV := hid_of bV
  clear hV bV HR4
  go_wp2_with fail
  rw [← HW.out]
  refine HQ.out.mono ?_
  rintro e u5 ⟨rfl, d⟩
  obtain ⟨F5, X5, sp, B, f⟩ := aft0 HSP.out HB.out HF.out HbV.out d
  clear HSP HB HF
  have HSP := hid_of sp
  have HB := hid_of B
  have HF := hid_of f
  clear d sp B f HQ HW HbV
  go_wp2_with fail
  refine (HE.out numB 0 u5).mono ?_
  rintro e c5 ⟨rfl, bb⟩
  have hsp' := HSP.out.below bb
  have hb' := HB.out.trans (bb.mono HB.out.size)
  clear HSP HB bb
  have HSP := hid_of hsp'
  have HB := hid_of hb'
  clear hsp' hb'
  -- request 5: hget h a
  obtain ⟨V5, hV⟩ : ∃ V, V = c5.alloc (.cells #[.string ⟨#[104, 103, 101, 116]⟩, .string ⟨#[104]⟩, .string ⟨#[97]⟩] 9) := ⟨_, rfl⟩
  have bV : Below c5.heap.size c5 V5 := by rw [hV]; exact alb _ _
  have HQ := hid_of (HR5.out _ _ _ V5 c5.heap.size (sp_wide HSP.out bV) (by rw [hV]; exact heap_alloc_new c5 _))
  have HW := hid_of hV
  have HbV := hid_of bV
  clear hV bV HR5
  go_wp2_with fail
  rw [← HW.out]
  refine HQ.out.mono ?_
  rintro e u6 ⟨rfl, d⟩
  obtain ⟨F6, X6, sp, B, f⟩ := aft0 HSP.out HB.out HF.out HbV.out d
  clear HSP HB HF
  have HSP := hid_of sp
  have HB := hid_of B
  have HF := hid_of f
  clear d sp B f HQ HW HbV
  -- request 6: hget h q
  obtain ⟨V6, hV⟩ : ∃ V, V = u6.alloc (.cells #[.string ⟨#[104, 103, 101, 116]⟩, .string ⟨#[104]⟩, .string ⟨#[113]⟩] 9) := ⟨_, rfl⟩
  have bV : Below u6.heap.size u6 V6 := by rw [hV]; exact alb _ _
  have HQ := hid_of (HR6.out _ _ _ V6 u6.heap.size (sp_wide HSP.out bV) (by rw [hV]; exact heap_alloc_new u6 _))
  have HW := hid_of hV
  have HbV := hid_of bV
  clear hV bV HR6
  go_wp2_with fail
  rw [← HW.out]
  refine HQ.out.mono ?_
  rintro e u7 ⟨rfl, d⟩
  obtain ⟨F7, X7, sp, B, f⟩ := aft0 HSP.out HB.out HF.out HbV.out d
  clear HSP HB HF
  have HSP := hid_of sp
  have HB := hid_of B
  have HF := hid_of f
  clear d sp B f HQ HW HbV
  -- request 7: hgetall h
  obtain ⟨V7, hV⟩ : ∃ V, V = u7.alloc (.cells #[.string ⟨#[104, 103, 101, 116, 97, 108, 108]⟩, .string ⟨#[104]⟩] 9) := ⟨_, rfl⟩
  have bV : Below u7.heap.size u7 V7 := by rw [hV]; exact alb _ _
  have HQ := hid_of (HR7.out _ _ _ V7 u7.heap.size (sp_wide HSP.out bV) (by rw [hV]; exact heap_alloc_new u7 _))
  have HW := hid_of hV
  have HbV := hid_of bV
  clear hV bV HR7
  go_wp2_with fail
  rw [← HW.out]
  refine HQ.out.mono ?_
  rintro e u8 ⟨v, rfl, rr, d⟩
  obtain ⟨F8, X8, sp, B, f⟩ := aft0 HSP.out HB.out HF.out HbV.out d
  clear HSP HB HF
  have HSP := hid_of sp
  have HB := hid_of B
  have HF := hid_of f
  clear d sp B f HQ HW HbV
  obtain ⟨VA, hV⟩ : ∃ V, V = u8.alloc (.cells #[.string ⟨#[97]⟩, .string ⟨#[55]⟩, .string ⟨#[98]⟩, .string ⟨#[50]⟩] 9) := ⟨_, rfl⟩
  have bV : Below u8.heap.size u8 VA := by rw [hV]; exact alb _ _
  have HQ := hid_of (HBu.out VA V7.heap.size v u8.heap.size (row_below rr bV) (by rw [hV]; exact heap_alloc_new u8 _))
  have hsp' := HSP.out.below bV
  have hb' := HB.out.trans (bV.mono HB.out.size)
  have HW := hid_of hV
  clear HSP HB bV hV rr HBu
  have HSP := hid_of hsp'
  have HB := hid_of hb'
  clear hsp' hb'
  go_wp2_with fail
  rw [← HW.out]
  refine HQ.out.mono ?_
  rintro e ca ⟨rfl, bb⟩
  have hsp' := HSP.out.below bb
  have hb' := HB.out.trans (bb.mono HB.out.size)
  clear HSP HB bb HQ HW
  have HSP := hid_of hsp'
  have HB := hid_of hb'
  clear hsp' hb'
  -- request 8: hdel h a a b
  obtain ⟨V8, hV⟩ : ∃ V, V = ca.alloc (.cells #[.string ⟨#[104, 100, 101, 108]⟩, .string ⟨#[104]⟩, .string ⟨#[97]⟩, .string ⟨#[97]⟩, .string ⟨#[98]⟩] 9) := ⟨_, rfl⟩
  have bV : Below ca.heap.size ca V8 := by rw [hV]; exact alb _ _
  have HQ := hid_of (HR8.out _ _ _ V8 ca.heap.size (sp_wide HSP.out bV) (by rw [hV]; exact heap_alloc_new ca _))
  have HW := hid_of hV
  have HbV := hid_of bV
  clear hV bV HR8
  go_wp2_with fail
  rw [← HW.out]
  refine HQ.out.mono ?_
  rintro e u9 ⟨rfl, d⟩
  obtain ⟨F9, X9, sp, B, f⟩ := aft0 HSP.out HB.out HF.out HbV.out d
  clear HSP HB HF
  have HSP := hid_of sp
  have HB := hid_of B
  have HF := hid_of f
  clear d sp B f HQ HW HbV
  go_wp2_with fail
  refine (HI.out 2 u9).mono ?_
  rintro e c6 ⟨rfl, bb⟩
  have hsp' := HSP.out.below bb
  have hb' := HB.out.trans (bb.mono HB.out.size)
  clear HSP HB bb
  have HSP := hid_of hsp'
  have HB := hid_of hb'
  clear hsp' hb'
  -- request 9: hlen h
  obtain ⟨V9, hV⟩ : ∃ V, V = c6.alloc (.cells #[.string ⟨#[104, 108, 101, 110]⟩, .string ⟨#[104]⟩] 9) := ⟨_, rfl⟩
  have bV : Below c6.heap.size c6 V9 := by rw [hV]; exact alb _ _
  have HQ := hid_of (HR9.out _ _ _ V9 c6.heap.size (sp_wide HSP.out bV) (by rw [hV]; exact heap_alloc_new c6 _))
  have HW := hid_of hV
  have HbV := hid_of bV
  clear hV bV HR9
  go_wp2_with fail
  rw [← HW.out]
  refine HQ.out.mono ?_
  rintro e u10 ⟨rfl, d⟩
  obtain ⟨F10, X10, sp, B, f⟩ := aft0 HSP.out HB.out HF.out HbV.out d
  clear HSP HB HF
  have HSP := hid_of sp
  have HB := hid_of B
  have HF := hid_of f
  clear d sp B f HQ HW HbV
  go_wp2_with fail
  refine (HI.out 0 u10).mono ?_
  rintro e c7 ⟨rfl, bb⟩
  have hsp' := HSP.out.below bb
  have hb' := HB.out.trans (bb.mono HB.out.size)
  clear HSP HB bb
  have HSP := hid_of hsp'
  have HB := hid_of hb'
  clear hsp' hb'
  go_wp2_with fail
  refine (HLn.out _ _ _ c7 HSP.out).mono ?_
  rintro e c8 ⟨rfl, bb⟩
  have hsp' := HSP.out.below bb
  have hb' := HB.out.trans (bb.mono HB.out.size)
  clear HSP HB bb
  have HSP := hid_of hsp'
  have HB := hid_of hb'
  clear hsp' hb'
  -- request 10: hmset h a 1
  obtain ⟨V10, hV⟩ : ∃ V, V = c8.alloc (.cells #[.string ⟨#[104, 109, 115, 101, 116]⟩, .string ⟨#[104]⟩, .string ⟨#[97]⟩, .string ⟨#[49]⟩] 9) := ⟨_, rfl⟩
  have bV : Below c8.heap.size c8 V10 := by rw [hV]; exact alb _ _
  have HQ := hid_of (HR10.out _ _ _ V10 c8.heap.size (sp_wide HSP.out bV) (by rw [hV]; exact heap_alloc_new c8 _))
  have HW := hid_of hV
  have HbV := hid_of bV
  clear hV bV HR10
  go_wp2_with fail
  rw [← HW.out]
  refine HQ.out.mono ?_
  rintro e u11 ⟨rfl, d⟩
  obtain ⟨F11, X11, sp, B, f⟩ := aft0 HSP.out HB.out HF.out HbV.out d
  clear HSP HB HF
  have HSP := hid_of sp
  have HB := hid_of B
  have HF := hid_of f
  clear d sp B f HQ HW HbV
  go_wp2_with fail
  exact bodyPost_ret (v := .bool true) (by simp [results, Tryz.results12, go_sem]) rfl ⟨rfl, HB.out⟩
end Go.Proofs.YtcgdnpcegcmboaaGreatDoor.HSure
end
section
namespace Go.Proofs.YtcgdnpcegcmboaaGreatDoor.HSame
open Go.RowKit Go.Sort
open Go.Proofs.YtcgdnpcegcmboaaGreatDoor.SetMath
open Go.Proofs.YtcgdnpcegcmboaaGreatDoor.Base
open Go.Proofs.YtcgdnpcegcmboaaGreatDoor.Small
set_option linter.unusedVariables false
set_option linter.unusedSimpArgs false
set_option maxHeartbeats 1000000 in
set_option maxRecDepth 100000 in
theorem same_call {G G' : Nat → Prop} {w : World} {u v : Value} {l r : List El} (h : SL G w u l) (h' : SL G' w v r) (hl : l.length ≤ 140737488355328) (hr : r.length ≤ 140737488355328) :
    Calls Tryz.prog 10 #[u, v] w fun e w' => e = .returned (.bool (decide (l = r))) ∧ ∃ m, w' = w.drewN m := by
  obtain ⟨a, c, rfl, hc, h1⟩ := h
  obtain ⟨a', c', rfl, hc', h2⟩ := h'
  by_cases hlen : l.length = r.length
  · have H1 := hid_of h1
    have H2 := hid_of h2
    have HE := hid_of hlen
    obtain ⟨L, HL⟩ : ∃ L, Hid (L = l.length) := ⟨_, hid_of rfl⟩
    rw [← hlen, ← HL.out]
    rw [← HL.out] at hl
    clear h1 h2 hc hc' hr hlen
    go_enter Tryz.func10, Tryz.ntmps10
    go_wp2_with fail
    go_loopg [5] L (fun g s5 wx => ∃ i : Nat, i ≤ L ∧ L ≤ i + g ∧ s5 = .int .i64 (i : Int) ∧ Hid (l.take i = r.take i) ∧ Hid (∃ m, wx = w.drewN m))
    case atStart => exact ⟨0, by omega, by omega, rfl, hid_of (by simp), 0, rfl⟩
    case round =>
      obtain ⟨i, hi, hg, rfl, HA, R⟩ := hrel
      by_cases hlt : i < L
      · obtain ⟨g', rfl⟩ : ∃ g', gk = g' + 1 := ⟨gk - 1, by omega⟩
        have k1 : i < l.length := by rw [← HL.out]; exact hlt
        have k2 : i < r.length := by rw [← HE.out]; exact k1
        obtain ⟨g1, o1, rfl, _, q1⟩ := Rd.get H1.out (by omega)
        obtain ⟨g2, o2, rfl, _, q2⟩ := Rd.get H2.out (by omega)
        have c1 : wr.cell? ⟨g1, o1 + i, none⟩ = some (.string (mk l[i])) := by obtain ⟨m, rfl⟩ := R.out; exact q1 i _ (List.getElem?_eq_getElem k1)
        have c2 : wr.cell? ⟨g2, o2 + i, none⟩ = some (.string (mk r[i])) := by obtain ⟨m, rfl⟩ := R.out; exact q2 i _ (List.getElem?_eq_getElem k2)
        have hlx := str_eq l[i] r[i]
        have HN : Hid (l[i] = r[i] → l.take (i + 1) = r.take (i + 1)) := hid_of fun q => by
          rw [List.take_succ_eq_append_getElem k1, List.take_succ_eq_append_getElem k2, HA.out, q]
        have HF : Hid (l[i] ≠ r[i] → decide (l = r) = false) := hid_of fun q => decide_eq_false fun e => q (by subst e; rfl)
        generalize l[i] = x at *
        generalize r[i] = y at *
        have w2 : IntKind.i64.wrap ((i : Int) + 1) = (i : Int) + 1 := IntWalk.i64_in _ (by omega)
        clear q1 q2
        by_cases hxy : x = y
        · rw [decide_eq_true hxy] at hlx
          have HN2 := hid_of (HN.out hxy)
          clear hxy HN HF
          generalize mk x = X at *
          generalize mk y = Y at *
          go_wp2_with fail
          go_quiet (fail)
          go_wp2_with fail
          go_roundg g'
          case measure => omega
          case rel => exact ⟨i + 1, by omega, by omega, by simp, HN2, by obtain ⟨m, e⟩ := R.out; exact ⟨m + nq, by rw [e, World.drewN_drewN]⟩⟩
        · rw [decide_eq_false hxy] at hlx
          have HF2 := hid_of (HF.out hxy)
          clear hxy HN HF
          generalize mk x = X at *
          generalize mk y = Y at *
          go_wp2_with fail
          go_quiet (fail)
          go_wp2_with fail
          go_ret
          exact ⟨ret_b HF2.out.symm, by obtain ⟨m, e⟩ := R.out; exact ⟨m + nq, by rw [e, World.drewN_drewN]⟩⟩
      · have HT : Hid (decide (l = r) = true) := hid_of (decide_eq_true (by
          have := HA.out
          rwa [List.take_of_length_le (by have := HL.out; omega), List.take_of_length_le (by have := HL.out; have := HE.out; omega)] at this))
        go_wp2_with fail
        go_ret
        exact ⟨ret_b HT.out.symm, R.out⟩
  · have HF : Hid (decide (l = r) = false) := hid_of (decide_eq_false fun e => hlen (by rw [e]))
    have g1 : ((l.length : Int) != (r.length : Int)) = true := by simp; omega
    generalize l.length = N at *
    generalize r.length = M at *
    clear h1 h2 hlen hl hr hc hc'
    go_enter Tryz.func10, Tryz.ntmps10
    go_wp2_with fail
    go_ret
    exact ⟨ret_b HF.out.symm, 0, rfl⟩
theorem same_true {G G' : Nat → Prop} {w : World} {u v : Value} {l r : List El} (h : SL G w u l) (h' : SL G' w v r) (e : l = r) (hl : l.length ≤ 140737488355328) :
    Calls Tryz.prog 10 #[u, v] w fun e w' => e = .returned (.bool true) ∧ ∃ m, w' = w.drewN m := by
  have := same_call h h' hl (by rw [← e]; exact hl)
  rwa [decide_eq_true e] at this
end Go.Proofs.YtcgdnpcegcmboaaGreatDoor.HSame
end
