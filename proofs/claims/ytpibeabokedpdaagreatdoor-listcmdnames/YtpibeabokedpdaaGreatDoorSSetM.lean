/- set: a key's entry is another one now, in the map and in the index of deadlines. touch and note of a space without a mark; New. What stood in memory stands when more is laid there. -/
import Derived.Test.YtpibeabokedpdaaGreatDoorSBaseM
import Derived.Laws.Rows
section
namespace Go.Proofs.YtpibeabokedpdaaGreatDoor.SSet
open Go.RowKit Go.Maps
open Go.Proofs.YtpibeabokedpdaaGreatDoor.SpaceMath (wout withL lkp keys Ris toD at_D put_D del_D size_D with_ris wout_ris with_mem wout_mem lkp_with lkp_wout with_len)
open Go.Proofs.YtpibeabokedpdaaGreatDoor.ValueMath (Vl chk small)
open Go.Proofs.YtpibeabokedpdaaGreatDoor.Base (mk mk_list mk_size Gr hid_of)
open Go.Proofs.YtpibeabokedpdaaGreatDoor.Turn
open Go.Proofs.YtpibeabokedpdaaGreatDoor.RowB (Es)
open Go.Proofs.YtpibeabokedpdaaGreatDoor.Swap (row_later law9 key9 turned_block owns_cells)
open Go.Proofs.YtpibeabokedpdaaGreatDoor.IndexS (IX)
open Go.Proofs.YtpibeabokedpdaaGreatDoor.SetS (Given)
open Go.Proofs.YtpibeabokedpdaaGreatDoor.SBase
open Go.Proofs.YtpibeabokedpdaaGreatDoor.SFind
open Go.Proofs.YtpibeabokedpdaaGreatDoor.SMath
set_option linter.unusedVariables false
set_option linter.unusedSimpArgs false
theorem owns_norm {w : World} {b n : Nat} {L : KL Value} (h : w.ownsMap Tryz.prog 9 RH b n (toD L)) : w.ownsMap Tryz.prog 9 RH b L.length (toD L) := by
  obtain ⟨es, c, hb, F, hs, hD⟩ := h
  refine ⟨es, c, hb, F, ?_, hD⟩
  have e : Maps.size (toD L) = es.size := by rw [hD]; simp [Maps.size, length_sorted]
  rw [size_D] at e
  omega
theorem spa_len {F X FI : Nat → Prop} {b bm bi : Nat} {mv : Value} {L : KL Value} {s : Es} {w : World} {S : Sp} (h : SPa F X FI b bm bi mv L s w S) : L.length = S.l.length := two_len h.ris h.ris2 h.ent
theorem spa_ix {F X FI : Nat → Prop} {b bm bi : Nat} {mv : Value} {L : KL Value} {s : Es} {w : World} {S : Sp} (h : SPa F X FI b bm bi mv L s w S) {W : World} (e1 : Ev (fun k => k = bm) w W) : IX (Gr FI W) bi W s := by
  refine ix_re h.ix e1.size (fun k hl q => ?_) (fun k hl q => ?_) (fun k q => .inr q)
  · rcases q with q | q
    · exact e1.block k hl (fun e => h.nm (by rw [← e]; exact q))
    · omega
  · rcases q with q | q
    · exact .inl q
    · omega
/-- the map has turned, then the index -/
theorem set_fin {F X FI : Nat → Prop} {b bm bi : Nat} {mv : Value} {L : KL Value} {s : Es} {w : World} {S : Sp} (h : SPa F X FI b bm bi mv L s w S) {V w' : World} (e1 : Ev (fun k => k = bm) w V) {s' : Es} (ix' : IX (Gr FI V) bi w' s') (ev : Ev (Gr FI V) V w')
    {L' : KL Value} {l' : KL En} (own : V.ownsMap Tryz.prog 9 RH bm L'.length (toD L')) (ris : Ris L') (ris2 : Ris l') (kl : ∀ p ∈ L', p.1.length ≤ 281474976710656) (ent : ∀ k, Two (EnAt X w k) (lkp L' k) (lkp l' k)) (du : s'.Perm (dues l')) :
    Dn F X b w w' ⟨l', S.cnt, S.mrk⟩ := by
  have hbl := lt_of h.blk
  have hml := h.map.lt
  have nbm : b ≠ bm := fun e => by
    obtain ⟨es, c, q, _⟩ := h.map
    have := h.blk
    rw [e, q] at this
    cases this
  have st : ∀ k, k < w.heap.size → k ≠ bm → ¬ FI k → w'.heap[k]? = w.heap[k]? := fun k hk h1 h2 => (ev.block k (Nat.lt_of_lt_of_le hk e1.size) (fun q => q.elim h2 (fun q => by have := e1.size; omega))).trans (e1.block k hk h1)
  have evF : Ev F w w' := ⟨ev.os.trans e1.os, ev.tape.trans e1.tape, ev.output.trans e1.output, Nat.le_trans e1.size ev.size, fun k hk hn => st k hk (fun e => hn (by rw [e]; exact h.fm)) (fun q => hn (h.fi k q))⟩
  have evX : Ev X w w' := evF.mono fun k _ q => h.fx k q
  have hsz := Nat.le_trans e1.size ev.size
  refine ⟨fun k => F k ∨ (V.heap.size ≤ k ∧ k < w'.heap.size), ⟨fun k => (FI k ∨ V.heap.size ≤ k) ∧ k < w'.heap.size, bm, bi, mv, L', s', ?_⟩, evF, fun k q => q.imp id fun q => Nat.le_trans e1.size q.1⟩
  refine ⟨(st b hbl nbm h.nb).trans h.blk, .inl h.fb, .inl h.fm, fun k q => ?_, fun q => ?_, fun q => ?_, fun k q => ?_, fun k q => .inr q, fun k q => ?_, ?_, ris, ris2, kl, fun k => (ent k).mono fun a b q => EnAt.re q evX fun k hk q => ?_, ?_, du, h.mark.re (fun k hk _ q2 _ q4 => st k hk q4 q2) (fun k _ q => .inl q) (fun k hk q => ?_) evX (fun k hk q => ?_), h.num⟩
  · rcases q.1 with r | r
    · exact .inl (h.fi k r)
    · exact .inr ⟨r, q.2⟩
  · rcases q.1 with r | r
    · exact h.nb r
    · have := e1.size; omega
  · rcases q.1 with r | r
    · exact h.nm r
    · have := e1.size; omega
  · rcases q with r | r
    · exact Nat.lt_of_lt_of_le (h.lo k r) hsz
    · exact r.2
  · rcases q with r | r | r
    · exact Nat.lt_of_lt_of_le (h.xl k r) hsz
    · exact Nat.lt_of_lt_of_le (h.lo k r) hsz
    · exact r.2
  · obtain ⟨es, c, q, r⟩ := own
    exact ⟨es, c, (ev.block bm (lt_of q) (fun e => e.elim h.nm (fun e => by have := e1.size; omega))).trans q, r⟩
  · rcases q with q | q | q
    · exact q
    · exact h.fx k q
    · have := e1.size; omega
  · refine ix_re ix' (Nat.le_refl _) (fun _ _ _ => rfl) (fun k hl q => .inl ⟨q, hl⟩) (fun k q => .inr q)
  · rcases q.1 with r | r
    · exact r
    · have := e1.size; omega
  · rcases q with q | q | q
    · exact q
    · exact h.fx k q
    · have := e1.size; omega
/-- eight cells of a block -/
theorem box8 {w : World} {b : Nat} {x0 x1 x2 x3 x4 x5 x6 x7 : Value} {t : TypeId} (h : w.heap[b]? = some (.cells #[x0, x1, x2, x3, x4, x5, x6, x7] t (0, 0))) :
    (w.cell? ⟨b, 0, none⟩ = some x0 ∧ w.cell? ⟨b, 1, none⟩ = some x1 ∧ w.cell? ⟨b, 2, none⟩ = some x2 ∧ w.cell? ⟨b, 3, none⟩ = some x3 ∧ w.cell? ⟨b, 4, none⟩ = some x4 ∧ w.cell? ⟨b, 5, none⟩ = some x5 ∧ w.cell? ⟨b, 6, none⟩ = some x6 ∧ w.cell? ⟨b, 7, none⟩ = some x7) ∧ ∀ i, w.frozen? ⟨b, i, none⟩ = false :=
  ⟨⟨Lib.cell_of_heap h 0, Lib.cell_of_heap h 1, Lib.cell_of_heap h 2, Lib.cell_of_heap h 3, Lib.cell_of_heap h 4, Lib.cell_of_heap h 5, Lib.cell_of_heap h 6, Lib.cell_of_heap h 7⟩, fun i => Lib.frozen_of_heap h i⟩
theorem ev_bel {M : Nat → Prop} {w W V : World} (e : Ev M w W) (b : Below W.heap.size W V) : Ev M w V := e.trans (Ev.of_below b)
/-- the map's update at a later world -/
theorem store_at {F X FI : Nat → Prop} {b bm bi : Nat} {mv : Value} {L : KL Value} {s : Es} {w : World} {S : Sp} (h : SPa F X FI b bm bi mv L s w S) (hS : S.l.length + 1 < 1099511627776) (k : Bs) (hk : k.length ≤ 281474976710656) (v : Value) {w1 : World} (b1 : Below w.heap.size w w1) :
    ∃ W, (Instr.mapUpdate 72 (.map (some bm)) (.string (mk k)) v).run Tryz.prog w1.drew = .ok () W ∧ W.ownsMap Tryz.prog 9 RH bm (withL L k v).length (toD (withL L k v)) ∧ Ev (fun k => k = bm) w W ∧ (∀ k, k < w1.heap.size → k ≠ bm → W.heap[k]? = w1.heap[k]?) := by
  have hm := (h.below b1).map
  obtain ⟨W, hu, m2, t2⟩ := hm.drew.store law9 Tryz.underlying72 (by rw [spa_len h]; unfold maxLen; omega) (key9 k hk) (val := v) (d := .held v) (ps := []) rfl
  rw [put_D] at m2
  refine ⟨W, hu, owns_norm m2, (Ev.of_below b1).trans ((Ev.refl _ _).drew.trans (Ev.turned t2 rfl)), fun k _ hk => turned_block t2 k hk⟩
theorem delete_at {F X FI : Nat → Prop} {b bm bi : Nat} {mv : Value} {L : KL Value} {s : Es} {w : World} {S : Sp} (h : SPa F X FI b bm bi mv L s w S) (k : Bs) (hk : k.length ≤ 281474976710656) {w1 : World} (b1 : Below w.heap.size w w1) :
    ∃ W, (Builtin.delete_ #[72, 9] 0 #[.map (some bm), .string (mk k)]).run Tryz.prog w1 = .ok (.tuple #[]) W ∧ W.ownsMap Tryz.prog 9 RH bm (wout L k).length (toD (wout L k)) ∧ Ev (fun k => k = bm) w W ∧ (∀ k, k < w1.heap.size → k ≠ bm → W.heap[k]? = w1.heap[k]?) := by
  have hm := (h.below b1).map
  obtain ⟨W, hu, m2, t2⟩ := hm.drop law9 Tryz.underlying72 (key9 k hk) 0
  rw [del_D] at m2
  refine ⟨W, hu, owns_norm m2, (Ev.of_below b1).trans (Ev.turned t2 rfl), fun k _ hk => turned_block t2 k hk⟩
theorem two_with {X : Nat → Prop} {w : World} {L : KL Value} {l : KL En} (h : ∀ k, Two (EnAt X w k) (lkp L k) (lkp l k)) {k : Bs} {v : Value} {e : En} (hv : EnAt X w k v e) : ∀ x, Two (EnAt X w x) (lkp (withL L k v) x) (lkp (withL l k e) x) := fun x => by
  rw [lkp_with, lkp_with]
  by_cases q : k = x
  · rw [if_pos q, if_pos q, ← q]; exact hv
  · rw [if_neg q, if_neg q]; exact h x
theorem two_wout {X : Nat → Prop} {w : World} {L : KL Value} {l : KL En} (h : ∀ k, Two (EnAt X w k) (lkp L k) (lkp l k)) (k : Bs) : ∀ x, Two (EnAt X w x) (lkp (wout L k) x) (lkp (wout l k) x) := fun x => by
  by_cases q : x = k
  · rw [q, lkp_wout_same, lkp_wout_same]; trivial
  · rw [lkp_wout _ _ _ q, lkp_wout _ _ _ q]; exact h x
set_option maxHeartbeats 1000000 in
set_option maxRecDepth 100000 in
theorem set_due {F X : Nat → Prop} {b : Nat} {w : World} {S : Sp} (h : SP F X b w S) (hS : S.l.length + 1 < 1099511627776) (k : Bs) (hk : k.length ≤ 281474976710656) {v : Value} {e : En} (hv : EnAt X w k v e) (hd : 0 < e.due) :
    Calls Tryz.prog 54 #[ptr b, .string (mk k), v] w fun r w' => r = .returned (.tuple #[]) ∧ Dn F X b w w' ⟨withL S.l k e, S.cnt, S.mrk⟩ := by
  obtain ⟨FI, bm, bi, mv, L, s, h⟩ := h
  have HE := hid_of hv
  obtain ⟨a1, c1, a2, c2, a3, c3, rfl, -⟩ := hv.shape
  unfold eV at HE ⊢
  have hn := hv.ver.1
  have hdd := hv.due
  clear hv
  generalize e.val.list.length = n1 at *
  generalize e.val.fields.length = n2 at *
  generalize e.val.ranked.length = n3 at *
  generalize mk e.val.text = T at *
  generalize e.val.kind = kd at *
  have HD := hid_of (show Ris (withL L k (.agg #[.string (mk k), .int .i64 kd, .string T, .slice a1 n1 c1, .slice a2 n2 c2, .slice a3 n3 c3, .int .i64 e.due, .int .u64 (e.ver : Int)])) ∧ ∀ s', Given s k e.due s' → s'.Perm (dues (withL S.l k e)) from ⟨with_ris h.ris _ _, fun s' hg => du_set h.ris2 h.du hd hg⟩)
  have hbl := lt_of h.blk
  have HH := hid_of h
  obtain ⟨W0, hW0⟩ : ∃ W0, W0 = w.alloc (.cells #[.string (mk k), .int .i64 kd, .string T, .slice a1 n1 c1, .slice a2 n2 c2, .slice a3 n3 c3, .int .i64 e.due, .int .u64 (e.ver : Int)] 94) := ⟨_, rfl⟩
  have x0 : W0.heap[w.heap.size]? = some (.cells #[.string (mk k), .int .i64 kd, .string T, .slice a1 n1 c1, .slice a2 n2 c2, .slice a3 n3 c3, .int .i64 e.due, .int .u64 (e.ver : Int)] 94 (0, 0)) := by rw [hW0]; exact heap_alloc_new w _
  have bW : Below w.heap.size w W0 := by rw [hW0]; exact alb _ _
  have HT := hid_of (there_call (mk k) T kd e.due a1 a2 a3 n1 c1 n2 c2 n3 c3 e.ver W0)
  rw [decide_eq_true hn] at HT
  have HX := hid_of x0
  have HB := hid_of bW
  have HW := hid_of hW0
  clear hW0 x0 bW h
  go_enter Tryz.func54, Tryz.ntmps54
  go_wp2_with fail
  rw [← HW.out]
  refine HT.out.mono ?_
  rintro r w1 ⟨rfl, hb1⟩
  have B1 := hid_of (HB.out.trans (hb1.mono HB.out.size))
  have x1 := (hb1.block _ (lt_of HX.out)).trans HX.out
  have s1 := HH.out.below B1.out
  obtain ⟨W2, hu, own2, e2, st2⟩ := store_at HH.out hS k hk (.agg #[.string (mk k), .int .i64 kd, .string T, .slice a1 n1 c1, .slice a2 n2 c2, .slice a3 n3 c3, .int .i64 e.due, .int .u64 (e.ver : Int)]) B1.out
  have nxm : w.heap.size ≠ bm := Nat.ne_of_gt HH.out.map.lt
  have nbm : b ≠ bm := Ne.symm (fun q => by
    obtain ⟨es, c, m, _⟩ := HH.out.map
    have := HH.out.blk
    rw [← q, m] at this
    cases this)
  have x2 := (st2 _ (lt_of x1) nxm).trans x1
  have b2 := (st2 _ (lt_of s1.blk) nbm).trans s1.blk
  have HX2 := hid_of x2
  have HB2 := hid_of b2
  have HO := hid_of (And.intro own2 e2)
  have c0 : w1.cell? ⟨b, 0, none⟩ = some (.map (some bm)) := Lib.cell_of_heap s1.blk 0
  obtain ⟨⟨y0, y1, y2, y3, y4, y5, y6, y7⟩, fz⟩ := box8 x1
  clear hb1 x1 s1 own2 e2 st2 x2 b2 HT HX
  go_wp2_with fail
  go_region
  clear c0 y0 y1 y2 y3 y4 y5 y6 y7 fz hu
  have y6 : W2.cell? ⟨w.heap.size, 6, none⟩ = some (.int .i64 e.due) := Lib.cell_of_heap HX2.out 6
  have c1 : W2.cell? ⟨b, 1, none⟩ = some (ptr bi) := Lib.cell_of_heap HB2.out 1
  have HC : Hid (∀ V, Below W2.heap.size W2 V → Calls Tryz.prog 101 #[ptr bi, .string (mk k), .int .i64 e.due] V fun r w' => r = .returned (.int .i64 0) ∧ Dn F X b w w' ⟨withL S.l k e, S.cnt, S.mrk⟩ ∧ w'.cell? ⟨b, 1, none⟩ = some (ptr bi) ∧ w'.cell? ⟨w.heap.size, 6, none⟩ = some (.int .i64 e.due)) := hid_of fun V hV => by
    have eV := ev_bel HO.out.2 hV
    have ixV := spa_ix HH.out eV
    have hs : s.length + 1 < 1099511627776 := by have := HH.out.du.length_eq; have := dues_len S.l; omega
    refine (SetS.set_call ixV k hk e.due (by omega) hdd.2 hs).mono ?_
    rintro r w' ⟨rfl, ⟨s', hg, hi⟩, hev⟩
    refine ⟨rfl, set_fin HH.out eV hi hev (L' := withL L k _) ?_ HD.out.1 (with_ris HH.out.ris2 _ _) (fun p hp => ?_) (two_with HH.out.ent HE.out) (HD.out.2 s' hg), ?_, ?_⟩
    · obtain ⟨es, c, q, rr⟩ := HO.out.1
      exact ⟨es, c, (hV.block bm (lt_of q)).trans q, rr⟩
    · rcases with_mem hp with rfl | q
      · exact hk
      · exact HH.out.kl p q
    · have l := lt_of HB2.out
      exact Lib.cell_of_heap ((hev.block b (Nat.lt_of_lt_of_le l hV.size) (fun q => q.elim HH.out.nb (fun q => by have := hV.size; omega))).trans ((hV.block b l).trans HB2.out)) 1
    · have l := lt_of HX2.out
      exact Lib.cell_of_heap ((hev.block _ (Nat.lt_of_lt_of_le l hV.size) (fun q => q.elim (fun q => Nat.lt_irrefl _ (HH.out.lo _ (HH.out.fi _ q))) (fun q => by have := hV.size; omega))).trans ((hV.block _ l).trans HX2.out)) 6
  go_wp2_with fail
  go_region_held3 (fun V => V.cell? ⟨b, 1, none⟩ = some (ptr bi) ∧ V.cell? ⟨w.heap.size, 6, none⟩ = some (.int .i64 e.due)) (first | exact ⟨c1, y6⟩ | exact ⟨c3, y3⟩) (first
    | (go_at_call 101; refine (HC.out _ (by first | exact Below.refl _ _ | exact (Below.refl _ _).drew)).mono ?_; rintro r w3 ⟨rfl, hdn, c3, y3⟩; have HF := hid_of hdn; clear hdn))
  go_wp2_with fail
  go_end0
  exact ⟨rfl, HF.out⟩
theorem drop_at {F X FI : Nat → Prop} {b bm bi : Nat} {mv : Value} {L : KL Value} {s : Es} {w : World} {S : Sp} (h : SPa F X FI b bm bi mv L s w S) {V : World} (eV : Ev (fun k => k = bm) w V) (k : Bs) (hk : k.length ≤ 281474976710656) :
    Calls Tryz.prog 102 #[ptr bi, .string (mk k)] V fun r w' => ∃ q s', r = .returned (.bool q) ∧ s'.Perm ((dues S.l).filter fun p => !(p.1 == k)) ∧ IX (Gr FI V) bi w' s' ∧ Ev (Gr FI V) V w' := by
  refine (IndexS.drop_call (spa_ix h eV) k hk).mono ?_
  rintro r w' ⟨q, rfl, ⟨rfl, x, s', hx, hp, hi⟩ | ⟨rfl, hno, hi⟩, hev⟩
  · exact ⟨true, s', rfl, left_of (dues_keys h.ris2) hx h.du hp, hi, hev⟩
  · exact ⟨false, s, rfl, none_left h.du hno, hi, hev⟩
set_option maxHeartbeats 1000000 in
set_option maxRecDepth 100000 in
theorem set_zero {F X : Nat → Prop} {b : Nat} {w : World} {S : Sp} (h : SP F X b w S) (hS : S.l.length + 1 < 1099511627776) (k : Bs) (hk : k.length ≤ 281474976710656) {v : Value} {e : En} (hv : EnAt X w k v e) (hd : e.due = 0) :
    Calls Tryz.prog 54 #[ptr b, .string (mk k), v] w fun r w' => r = .returned (.tuple #[]) ∧ Dn F X b w w' ⟨withL S.l k e, S.cnt, S.mrk⟩ := by
  obtain ⟨FI, bm, bi, mv, L, s, h⟩ := h
  have HE := hid_of hv
  obtain ⟨a1, c1, a2, c2, a3, c3, rfl, -⟩ := hv.shape
  unfold eV at HE ⊢
  have hn := hv.ver.1
  have hdd := hv.due
  clear hv
  generalize e.val.list.length = n1 at *
  generalize e.val.fields.length = n2 at *
  generalize e.val.ranked.length = n3 at *
  generalize mk e.val.text = T at *
  generalize e.val.kind = kd at *
  have HD := hid_of (show Ris (withL L k (.agg #[.string (mk k), .int .i64 kd, .string T, .slice a1 n1 c1, .slice a2 n2 c2, .slice a3 n3 c3, .int .i64 e.due, .int .u64 (e.ver : Int)])) ∧ ∀ s' : Es, s'.Perm ((dues S.l).filter fun p => !(p.1 == k)) → s'.Perm (dues (withL S.l k e)) from ⟨with_ris h.ris _ _, fun s' hg => du_zero (by omega) hg⟩)
  have hd0 : ¬ 0 < e.due := by omega
  clear hd
  have hbl := lt_of h.blk
  have HH := hid_of h
  obtain ⟨W0, hW0⟩ : ∃ W0, W0 = w.alloc (.cells #[.string (mk k), .int .i64 kd, .string T, .slice a1 n1 c1, .slice a2 n2 c2, .slice a3 n3 c3, .int .i64 e.due, .int .u64 (e.ver : Int)] 94) := ⟨_, rfl⟩
  have x0 : W0.heap[w.heap.size]? = some (.cells #[.string (mk k), .int .i64 kd, .string T, .slice a1 n1 c1, .slice a2 n2 c2, .slice a3 n3 c3, .int .i64 e.due, .int .u64 (e.ver : Int)] 94 (0, 0)) := by rw [hW0]; exact heap_alloc_new w _
  have bW : Below w.heap.size w W0 := by rw [hW0]; exact alb _ _
  have HT := hid_of (there_call (mk k) T kd e.due a1 a2 a3 n1 c1 n2 c2 n3 c3 e.ver W0)
  rw [decide_eq_true hn] at HT
  have HX := hid_of x0
  have HB := hid_of bW
  have HW := hid_of hW0
  clear hW0 x0 bW h
  go_enter Tryz.func54, Tryz.ntmps54
  go_wp2_with fail
  rw [← HW.out]
  refine HT.out.mono ?_
  rintro r w1 ⟨rfl, hb1⟩
  have B1 := hid_of (HB.out.trans (hb1.mono HB.out.size))
  have x1 := (hb1.block _ (lt_of HX.out)).trans HX.out
  have s1 := HH.out.below B1.out
  obtain ⟨W2, hu, own2, e2, st2⟩ := store_at HH.out hS k hk (.agg #[.string (mk k), .int .i64 kd, .string T, .slice a1 n1 c1, .slice a2 n2 c2, .slice a3 n3 c3, .int .i64 e.due, .int .u64 (e.ver : Int)]) B1.out
  have nxm : w.heap.size ≠ bm := Nat.ne_of_gt HH.out.map.lt
  have nbm : b ≠ bm := Ne.symm (fun q => by
    obtain ⟨es, c, m, _⟩ := HH.out.map
    have := HH.out.blk
    rw [← q, m] at this
    cases this)
  have x2 := (st2 _ (lt_of x1) nxm).trans x1
  have b2 := (st2 _ (lt_of s1.blk) nbm).trans s1.blk
  have HX2 := hid_of x2
  have HB2 := hid_of b2
  have HO := hid_of (And.intro own2 e2)
  have c0 : w1.cell? ⟨b, 0, none⟩ = some (.map (some bm)) := Lib.cell_of_heap s1.blk 0
  obtain ⟨⟨y0, y1, y2, y3, y4, y5, y6, y7⟩, fz⟩ := box8 x1
  clear hb1 x1 s1 own2 e2 st2 x2 b2 HT HX
  go_wp2_with fail
  go_region
  clear c0 y0 y1 y2 y3 y4 y5 y6 y7 fz hu
  have y6 : W2.cell? ⟨w.heap.size, 6, none⟩ = some (.int .i64 e.due) := Lib.cell_of_heap HX2.out 6
  have c1 : W2.cell? ⟨b, 1, none⟩ = some (ptr bi) := Lib.cell_of_heap HB2.out 1
  have HC : Hid (Calls Tryz.prog 102 #[ptr bi, .string (mk k)] W2 fun r w' => ∃ q, r = .returned (.bool q) ∧ Dn F X b w w' ⟨withL S.l k e, S.cnt, S.mrk⟩) := hid_of (by
    refine (drop_at HH.out HO.out.2 k hk).mono ?_
    rintro r w' ⟨q, s', rfl, hg, hi, hev⟩
    refine ⟨q, rfl, set_fin HH.out HO.out.2 hi hev (L' := withL L k _) HO.out.1 HD.out.1 (with_ris HH.out.ris2 _ _) (fun p hp => ?_) (two_with HH.out.ent HE.out) (HD.out.2 s' hg)⟩
    rcases with_mem hp with rfl | q
    · exact hk
    · exact HH.out.kl p q)
  go_wp2_with fail
  refine HC.out.mono ?_
  rintro r w3 ⟨q, rfl, hdn⟩
  have HF := hid_of hdn
  clear hdn
  go_wp2_with fail
  go_end0
  exact ⟨rfl, HF.out⟩
set_option maxHeartbeats 1000000 in
set_option maxRecDepth 100000 in
theorem set_none {F X : Nat → Prop} {b : Nat} {w : World} {S : Sp} (h : SP F X b w S) (k : Bs) (hk : k.length ≤ 281474976710656) :
    Calls Tryz.prog 54 #[ptr b, .string (mk k), zE] w fun r w' => r = .returned (.tuple #[]) ∧ Dn F X b w w' ⟨wout S.l k, S.cnt, S.mrk⟩ := by
  obtain ⟨FI, bm, bi, mv, L, s, h⟩ := h
  have HD := hid_of (show Ris (wout L k) ∧ dues (wout S.l k) = ((dues S.l).filter fun p => !(p.1 == k)) from ⟨wout_ris h.ris _, dues_wout _ _⟩)
  have hbl := lt_of h.blk
  have HH := hid_of h
  obtain ⟨W0, hW0⟩ : ∃ W0, W0 = w.alloc (.cells #[.string ⟨#[]⟩, .int .i64 0, .string ⟨#[]⟩, .slice none 0 0, .slice none 0 0, .slice none 0 0, .int .i64 0, .int .u64 0] 94) := ⟨_, rfl⟩
  have x0 : W0.heap[w.heap.size]? = some (.cells #[.string ⟨#[]⟩, .int .i64 0, .string ⟨#[]⟩, .slice none 0 0, .slice none 0 0, .slice none 0 0, .int .i64 0, .int .u64 0] 94 (0, 0)) := by rw [hW0]; exact heap_alloc_new w _
  have bW : Below w.heap.size w W0 := by rw [hW0]; exact alb _ _
  have HT := hid_of (there_call ⟨#[]⟩ ⟨#[]⟩ 0 0 none none none 0 0 0 0 0 0 0 W0)
  rw [decide_eq_false (Nat.lt_irrefl 0)] at HT
  have HX := hid_of x0
  have HB := hid_of bW
  have HW := hid_of hW0
  clear hW0 x0 bW h
  go_enter Tryz.func54, Tryz.ntmps54
  go_wp2_with fail
  rw [← HW.out]
  refine HT.out.mono ?_
  rintro r w1 ⟨rfl, hb1⟩
  have B1 := hid_of (HB.out.trans (hb1.mono HB.out.size))
  have x1 := (hb1.block _ (lt_of HX.out)).trans HX.out
  have s1 := HH.out.below B1.out
  obtain ⟨W2, hu, own2, e2, st2⟩ := delete_at HH.out k hk B1.out
  have nxm : w.heap.size ≠ bm := Nat.ne_of_gt HH.out.map.lt
  have nbm : b ≠ bm := Ne.symm (fun q => by
    obtain ⟨es, c, m, _⟩ := HH.out.map
    have := HH.out.blk
    rw [← q, m] at this
    cases this)
  have x2 := (st2 _ (lt_of x1) nxm).trans x1
  have b2 := (st2 _ (lt_of s1.blk) nbm).trans s1.blk
  have HO := hid_of (And.intro own2 e2)
  have c0 : w1.cell? ⟨b, 0, none⟩ = some (.map (some bm)) := Lib.cell_of_heap s1.blk 0
  have y6 : W2.cell? ⟨w.heap.size, 6, none⟩ = some (.int .i64 0) := Lib.cell_of_heap x2 6
  have c1 : W2.cell? ⟨b, 1, none⟩ = some (ptr bi) := Lib.cell_of_heap b2 1
  clear hb1 x1 s1 own2 e2 st2 x2 b2 HT HX
  have HC : Hid (Calls Tryz.prog 102 #[ptr bi, .string (mk k)] W2 fun r w' => ∃ q, r = .returned (.bool q) ∧ Dn F X b w w' ⟨wout S.l k, S.cnt, S.mrk⟩) := hid_of (by
    refine (drop_at HH.out HO.out.2 k hk).mono ?_
    rintro r w' ⟨q, s', rfl, hg, hi, hev⟩
    exact ⟨q, rfl, set_fin HH.out HO.out.2 hi hev (L' := wout L k) HO.out.1 HD.out.1 (wout_ris HH.out.ris2 _) (fun p hp => HH.out.kl p (wout_mem hp)) (two_wout HH.out.ent k) (by rw [HD.out.2]; exact hg)⟩)
  go_wp2_with fail
  refine HC.out.mono ?_
  rintro r w3 ⟨q, rfl, hdn⟩
  have HF := hid_of hdn
  clear hdn
  go_wp2_with fail
  go_end0
  exact ⟨rfl, HF.out⟩
/-- set: any entry that there is, or none -/
theorem set_call {F X : Nat → Prop} {b : Nat} {w : World} {S : Sp} (h : SP F X b w S) (hS : S.l.length + 1 < 1099511627776) (k : Bs) (hk : k.length ≤ 281474976710656) {v : Value} {o : Option En} (hv : HeldAt X w k v o) :
    Calls Tryz.prog 54 #[ptr b, .string (mk k), v] w fun r w' => r = .returned (.tuple #[]) ∧ Dn F X b w w' ⟨upd S.l k o, S.cnt, S.mrk⟩ := by
  cases o with
  | none =>
    have e : v = zE := hv
    subst e
    exact set_none h k hk
  | some e =>
    have hv : EnAt X w k v e := hv
    rcases Decidable.em (0 < e.due) with q | q
    · exact set_due h hS k hk hv q
    · exact set_zero h hS k hk hv (by have := hv.due; omega)
end Go.Proofs.YtpibeabokedpdaaGreatDoor.SSet
end
section
namespace Go.Proofs.YtpibeabokedpdaaGreatDoor.STouch
open Go.RowKit Go.Maps
open Go.Proofs.YtpibeabokedpdaaGreatDoor.SpaceMath (wout withL lkp keys Ris toD)
open Go.Proofs.YtpibeabokedpdaaGreatDoor.ValueMath (Vl chk small)
open Go.Proofs.YtpibeabokedpdaaGreatDoor.Base (mk mk_list mk_size Gr hid_of)
open Go.Proofs.YtpibeabokedpdaaGreatDoor.Turn
open Go.Proofs.YtpibeabokedpdaaGreatDoor.RowB (Es)
open Go.Proofs.YtpibeabokedpdaaGreatDoor.IndexS (IX)
open Go.Proofs.YtpibeabokedpdaaGreatDoor.SBase
open Go.Proofs.YtpibeabokedpdaaGreatDoor.SFind
open Go.Proofs.YtpibeabokedpdaaGreatDoor.SMath
open Go.Proofs.YtpibeabokedpdaaGreatDoor.SSet
set_option linter.unusedVariables false
set_option linter.unusedSimpArgs false
theorem b_ne_bm {F X FI : Nat → Prop} {b bm bi : Nat} {mv : Value} {L : KL Value} {s : Es} {w : World} {S : Sp} (h : SPa F X FI b bm bi mv L s w S) : b ≠ bm := fun q => by
  obtain ⟨es, c, m, _⟩ := h.map
  have := h.blk
  rw [q, m] at this
  cases this
/-- the space's own block has turned -/
theorem blk_fin {F X FI : Nat → Prop} {b bm bi : Nat} {mv mv' : Value} {L : KL Value} {s : Es} {w w' : World} {S S' : Sp} (h : SPa F X FI b bm bi mv L s w S) (e1 : Ev (fun k => k = b) w w') (blk : w'.heap[b]? = some (.cells #[.map (some bm), ptr bi, .int .u64 S'.cnt, mv'] 76 (0, 0))) (hl : S'.l = S.l) (mark : MarkAt F FI X b bm w' mv' S'.mrk) (num : S'.cnt < 18446744073709551616) : SPa F X FI b bm bi mv' L s w' S' := by
  have evX : Ev X w w' := e1.mono fun k _ q => by rw [q]; exact h.fx b h.fb
  refine ⟨blk, h.fb, h.fm, h.fi, h.nb, h.nm, fun k q => Nat.lt_of_lt_of_le (h.lo k q) e1.size, h.fx, fun k q => Nat.lt_of_lt_of_le (h.xl k q) e1.size, ?_, h.ris, by rw [hl]; exact h.ris2, h.kl, fun k => by rw [hl]; exact (h.ent k).mono fun a b q => EnAt.re q evX (fun k _ q => q), ?_, by rw [hl]; exact h.du, mark, num⟩
  · obtain ⟨es, c, q, r⟩ := h.map
    exact ⟨es, c, (e1.block bm (lt_of q) (fun e => b_ne_bm h e.symm)).trans q, r⟩
  · refine ix_re h.ix e1.size (fun k hl q => ?_) (fun k hl q => ?_) (fun k q => .inr q)
    · rcases q with q | q
      · exact e1.block k hl (fun e => h.nb (by rw [← e]; exact q))
      · omega
    · rcases q with q | q
      · exact .inl q
      · omega
theorem dn_same {F X : Nat → Prop} {b : Nat} {w w' : World} {S S' : Sp} (h : SP F X b w S) (h' : SP F X b w' S') (e : Ev (fun k => k = b) w w') (fb : F b) : Dn F X b w w' S' :=
  ⟨F, h'.re (fun _ _ => rfl) (Ev.refl _ _) (fun k _ q => q.elim id (h'.fx k)) (fun k q => .inr q) (fun k q => q.elim (h'.xl k) (h'.lo k)), e.mono (fun k _ q => by rw [q]; exact fb), fun k q => .inl q⟩
theorem setev (w : World) (b i : Nat) (v : Value) : Ev (fun k => k = b) w (w.setCell ⟨b, i, none⟩ v) := Ev.set (M := fun k => k = b) rfl v
set_option maxRecDepth 100000 in
theorem touch_none {F X : Nat → Prop} {b : Nat} {w : World} {S : Sp} (h : SP F X b w S) (hm : S.mrk = none) (hc : S.cnt + 1 < 18446744073709551616) (K : ByteArray) :
    Calls Tryz.prog 53 #[ptr b, .string K] w fun r w' => r = .returned (.tuple #[]) ∧ Dn F X b w w' ⟨S.l, S.cnt + 1, none⟩ := by
  have HS := hid_of h
  obtain ⟨FI, bm, bi, mv, L, s, h⟩ := h
  obtain rfl : mv = .pointer none := by have := h.mark; rw [hm] at this; exact this
  have HH := hid_of h
  have c2 : w.cell? ⟨b, 2, none⟩ = some (.int .u64 (S.cnt : Int)) := Lib.cell_of_heap h.blk 2
  have c3 : w.cell? ⟨b, 3, none⟩ = some (.pointer none) := Lib.cell_of_heap h.blk 3
  have f2 : w.frozen? ⟨b, 2, none⟩ = false := Lib.frozen_of_heap h.blk 2
  have hw : IntKind.u64.wrap ((S.cnt : Int) + 1) = (S.cnt : Int) + 1 := IntWalk.u64_in _ (by omega)
  clear h
  go_enter Tryz.func53, Tryz.ntmps53
  go_wp2_with fail
  go_end0
  have e1 := setev w b 2 (.int .u64 ((S.cnt : Int) + 1))
  refine ⟨rfl, dn_same HS.out ⟨FI, bm, bi, _, L, s, blk_fin HH.out e1 (mv' := .pointer none) ?_ rfl rfl hc⟩ e1 HH.out.fb⟩
  have := set_at (i := 2) HH.out.blk (.int .u64 ((S.cnt : Int) + 1))
  simpa using this
set_option maxRecDepth 100000 in
theorem note_none {F X : Nat → Prop} {b : Nat} {w : World} {S : Sp} (h : SP F X b w S) (hm : S.mrk = none) (kd k2 d : Int) (K T : ByteArray) (a1 a2 a3 : Option Addr) (n1 c1 n2 c2 n3 c3 : Nat) :
    Calls Tryz.prog 55 #[ptr b, .agg #[.int .i64 kd, .string K, .int .i64 k2, .string T, .slice a1 n1 c1, .slice a2 n2 c2, .slice a3 n3 c3, .int .i64 d]] w fun r w' => r = .returned (.tuple #[]) ∧ Below w.heap.size w w' := by
  obtain ⟨FI, bm, bi, mv, L, s, h⟩ := h
  obtain rfl : mv = .pointer none := by have := h.mark; rw [hm] at this; exact this
  have c3 : w.cell? ⟨b, 3, none⟩ = some (.pointer none) := Lib.cell_of_heap h.blk 3
  have hbl := lt_of h.blk
  clear h
  go_enter Tryz.func55, Tryz.ntmps55
  go_wp2_with fail
  go_end0
  exact ⟨rfl, alb _ _⟩
/- a new space -/
abbrev iO : Obj := .cells #[.slice none 0 0, .map none] 194
set_option maxRecDepth 100000 in
theorem newix_call (w : World) : Calls Tryz.prog 90 #[] w fun r w' => r = .returned (ptr w.heap.size) ∧ w' = w.alloc iO := by
  go_enter Tryz.func90, Tryz.ntmps90
  go_wp2_with fail
  go_ret
  exact ⟨rfl, rfl⟩
theorem new_ix (w : World) {M : Nat → Prop} (hM : ∀ k, w.heap.size ≤ k → M k) : IX M w.heap.size (w.alloc iO) [] := by
  refine ⟨[], ⟨⟨.slice none 0 0, .map none, ⟨heap_alloc_new w _, hM _ (Nat.le_refl _), World.ownsRow_nil _ _ _ _, .inl ⟨rfl, rfl⟩, (fun i j hi => absurd hi (by simp)), (fun e he => by cases he), (fun g hg => by simp [Value.ownBlock] at hg), (fun k hk => hM k (by simp at hk; omega))⟩⟩, by simp⟩, fun i hi hl => absurd hl (by simp), List.Perm.refl _⟩
abbrev mO : Obj := .map #[] 0
set_option maxRecDepth 100000 in
theorem empty_raw {b : Nat} {w : World} {x0 x1 x2 x3 : Value} (h : w.heap[b]? = some (.cells #[x0, x1, x2, x3] 76 (0, 0))) :
    Calls Tryz.prog 45 #[ptr b] w fun r w' => r = .returned (.tuple #[]) ∧ w' = (((w.setCell ⟨b, 0, none⟩ (.map (some w.heap.size))).setCell ⟨b, 1, none⟩ (ptr (w.heap.size + 1))).alloc mO).alloc iO := by
  have f0 : w.frozen? ⟨b, 0, none⟩ = false := Lib.frozen_of_heap h 0
  have f1 : w.frozen? ⟨b, 1, none⟩ = false := Lib.frozen_of_heap h 1
  have c0 : w.cell? ⟨b, 0, none⟩ = some x0 := Lib.cell_of_heap h 0
  have c1 : w.cell? ⟨b, 1, none⟩ = some x1 := Lib.cell_of_heap h 1
  have hbl := lt_of h
  have nb : b ≠ w.heap.size := by omega
  have HN := hid_of newix_call
  have qmm : (Instr.makeMap 72 none).run Tryz.prog w = .ok (.map (some w.heap.size)) (w.alloc (.map #[] 0)) := by kernel_rfl
  clear h
  go_enter Tryz.func45, Tryz.ntmps45
  go_wp2_with fail
  refine (HN.out _).mono ?_
  rintro r w1 ⟨rfl, rfl⟩
  go_wp2_with fail
  go_end0
  exact ⟨rfl, rfl⟩
/-- an empty space at a block, its map and its index new -/
theorem fresh {b : Nat} {w : World} {x0 x1 x3 : Value} {n : Nat} (h : w.heap[b]? = some (.cells #[x0, x1, .int .u64 (n : Int), x3] 76 (0, 0))) {w' : World} (hw : w' = (((w.setCell ⟨b, 0, none⟩ (.map (some w.heap.size))).setCell ⟨b, 1, none⟩ (ptr (w.heap.size + 1))).alloc mO).alloc iO) :
    w'.heap.size = w.heap.size + 2 ∧ w'.heap[b]? = some (.cells #[.map (some w.heap.size), ptr (w.heap.size + 1), .int .u64 (n : Int), x3] 76 (0, 0)) ∧ w'.ownsMap Tryz.prog 9 RH w.heap.size 0 (toD []) ∧ (∀ M : Nat → Prop, (∀ k, w.heap.size + 1 ≤ k → M k) → IX M (w.heap.size + 1) w' []) ∧ Ev (fun k => k = b) w w' := by
  have hbl := lt_of h
  obtain ⟨U, hU⟩ : ∃ U, U = (w.setCell ⟨b, 0, none⟩ (.map (some w.heap.size))).setCell ⟨b, 1, none⟩ (ptr (w.heap.size + 1)) := ⟨_, rfl⟩
  have s0 : U.heap.size = w.heap.size := by rw [hU, size_set, size_set]
  have s1 : (U.alloc mO).heap.size = w.heap.size + 1 := by rw [← s0]; simp
  rw [← hU] at hw
  have hb : U.heap[b]? = some (.cells #[.map (some w.heap.size), ptr (w.heap.size + 1), .int .u64 (n : Int), x3] 76 (0, 0)) := by
    rw [hU]
    simpa using set_at (i := 1) (set_at (i := 0) h (.map (some w.heap.size))) (ptr (w.heap.size + 1))
  refine ⟨by rw [hw]; simp [s0], ?_, ?_, fun M hM => ?_, ?_⟩
  · rw [hw, Below.heap_alloc _ _ b (by omega), Below.heap_alloc _ _ b (by omega)]
    exact hb
  · rw [hw]
    have := World.ownsMap_made (H := Value) U Tryz.prog 9 RH
    rw [s0] at this
    exact this.alloc _
  · rw [hw]
    have ix := new_ix (U.alloc mO) (M := M) (fun k hk => hM k (by rw [s1] at hk; exact hk))
    rw [s1] at ix
    exact ix
  · rw [hw, hU]
    exact (((setev w b 0 _).trans (setev _ b 1 _)).alloc _).alloc _
/-- New -/
def NewE (w : World) (r : Ending) (w' : World) : Prop := ∃ F, r = .returned (ptr w.heap.size) ∧ SP F F w.heap.size w' ⟨[], 0, none⟩ ∧ Below w.heap.size w w' ∧ ∀ k, F k → w.heap.size ≤ k
abbrev sO : Obj := .cells #[.map none, .pointer none, .int .u64 0, .pointer none] 76
set_option maxRecDepth 100000 in
theorem new_call (w : World) : Calls Tryz.prog 15 #[] w (NewE w) := by
  have h0 : (w.alloc sO).heap[w.heap.size]? = some (.cells #[.map none, .pointer none, .int .u64 ((0 : Nat) : Int), .pointer none] 76 (0, 0)) := heap_alloc_new w _
  have H1 := hid_of (empty_raw h0)
  have HF := hid_of (fresh h0 rfl)
  have sz : (w.alloc sO).heap.size = w.heap.size + 1 := by simp
  have HZ := hid_of sz
  obtain ⟨W, hW⟩ : ∃ W, W = w.alloc sO := ⟨_, rfl⟩
  rw [← hW] at H1 HF HZ
  have HW := hid_of hW
  clear h0 sz hW
  go_enter Tryz.func15, Tryz.ntmps15
  go_wp2_with fail
  rw [← HW.out]
  refine H1.out.mono ?_
  rintro r w1 ⟨rfl, hw1⟩
  rw [← hw1] at HF
  have HB := hid_of (show Below w.heap.size w w1 from by
    have e := HF.out.2.2.2.2
    have e0 : Below w.heap.size w W := by rw [HW.out]; exact alb _ _
    exact e0.trans (e.below e0.size (fun k q => Nat.le_of_eq q.symm)))
  clear hw1 H1
  go_wp2_with fail
  go_ret
  obtain ⟨hs, hb, own, ix, ev⟩ := HF.out
  have z := HZ.out
  refine ⟨fun k => w.heap.size ≤ k ∧ k < w1.heap.size, rfl, ⟨fun k => k = w.heap.size + 2, w.heap.size + 1, w.heap.size + 2, .pointer none, [], [], ?_⟩, HB.out, fun k q => q.1⟩
  rw [z] at hs hb own ix
  refine ⟨hb, ⟨Nat.le_refl _, by omega⟩, ⟨by omega, by omega⟩, fun k q => by rw [q]; exact ⟨by omega, by omega⟩, fun q => by omega, fun q => by omega, fun k q => q.2, fun k q => q, fun k q => q.2, own, List.Pairwise.nil, List.Pairwise.nil, (fun p hp => by cases hp), (fun k => trivial), ?_, List.Perm.refl _, rfl, by decide⟩
  have := ix (fun k => w.heap.size + 2 ≤ k) (fun k q => q)
  refine ix_re this (Nat.le_refl _) (fun _ _ _ => rfl) (fun k hk q => .inl ?_) (fun k q => .inr q)
  have q : w.heap.size + 2 ≤ k := q
  omega
end Go.Proofs.YtpibeabokedpdaaGreatDoor.STouch
end
section
namespace Go.Proofs.YtpibeabokedpdaaGreatDoor
theorem hao (w : World) (o : Obj) (i : Nat) (h : i < w.heap.size) : (w.alloc o).heap[i]? = w.heap[i]? := by
  show (w.heap.push o)[i]? = w.heap[i]?
  rw [Array.getElem?_push, if_neg (Nat.ne_of_lt h)]
end Go.Proofs.YtpibeabokedpdaaGreatDoor
end
