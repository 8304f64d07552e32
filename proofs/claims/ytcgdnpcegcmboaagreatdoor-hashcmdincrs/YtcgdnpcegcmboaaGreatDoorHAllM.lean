/- HGETALL: what goes over the fields. -/
import Derived.Test.YtcgdnpcegcmboaaGreatDoorHLawM
import Derived.Test.YtcgdnpcegcmboaaGreatDoorHGetM
import Derived.Test.YtcgdnpcegcmboaaGreatDoorHDoM
import Derived.RangeFuncWrites
import Derived.RangeFuncNested
import Derived.Stop.RegionWithIn
namespace Go.Proofs.YtcgdnpcegcmboaaGreatDoor.HAll
open Go.RowKit Go.Maps Go.Sort Go.Shelf
open Go.Proofs.YtcgdnpcegcmboaaGreatDoor.SpaceMath (wout withL lkp keys toD)
open Go.Proofs.YtcgdnpcegcmboaaGreatDoor.ValueMath (Vl chk small)
open Go.Proofs.YtcgdnpcegcmboaaGreatDoor.Base (mk mk_list mk_size Gr hid_of SL)
open Go.Proofs.YtcgdnpcegcmboaaGreatDoor.Turn
open Go.Proofs.YtcgdnpcegcmboaaGreatDoor.Vals
open Go.Proofs.YtcgdnpcegcmboaaGreatDoor.Check0 (Wel)
open Go.Proofs.YtcgdnpcegcmboaaGreatDoor.SBase
open Go.Proofs.YtcgdnpcegcmboaaGreatDoor.SFind
open Go.Proofs.YtcgdnpcegcmboaaGreatDoor.SPut (vO)
open Go.Proofs.YtcgdnpcegcmboaaGreatDoor.QBase
open Go.Proofs.YtcgdnpcegcmboaaGreatDoor.HCmd
open Go.Proofs.YtcgdnpcegcmboaaGreatDoor.DiBase (DK)
open Go.Proofs.YtcgdnpcegcmboaaGreatDoor.Parse (Has)
set_option linter.unusedVariables false
set_option linter.unusedSimpArgs false
open Go.Proofs.YtcgdnpcegcmboaaGreatDoor.HFld
open Go.Proofs.YtcgdnpcegcmboaaGreatDoor.HReg
open Go.Proofs.YtcgdnpcegcmboaaGreatDoor.HRow (RR rep rpL)
open Go.Proofs.YtcgdnpcegcmboaaGreatDoor.DiIter (Kp kp_t FG Fx encF xsOf xs_len xs_map iter_stops)
attribute [local go_sem] Oper.semAt_some
abbrev zO : Obj := rO 0 ⟨#[]⟩ 0 (.slice none 0 0)
/-- names and values, one behind the other -/
def txt (l : FL) : List Bs := l.flatMap fun p => [p.1, p.2]
theorem txt_len (l : FL) : (txt l).length = 2 * l.length := by
  induction l with
  | nil => rfl
  | cons p r ih => unfold txt at *; rw [List.flatMap_cons, List.length_append, ih, List.length_cons]; simp; omega
/-- what a round finds: the answer's box, the list's box T, and what lies between it and B3 -/
structure QI (w w3 : World) (B3 : Nat) (ts : List Bs) (W : World) : Prop where
  bel : Below w.heap.size w W
  size : B3 ≤ W.heap.size
  lt : w.heap.size + 2 ≤ B3
  z0 : W.heap[w.heap.size]? = some zO
  keep : ∀ k, w.heap.size + 2 ≤ k → k < B3 → W.heap[k]? = w3.heap[k]?
  row : ∃ a n c, W.heap[w.heap.size + 1]? = some (.cells #[.slice a n c] 23 (0, 0)) ∧ RR B3 W (.slice a n c) ts
section
variable {w w3 W W' : World} {B3 : Nat} {ts : List Bs}
theorem QI.below (h : QI w w3 B3 ts W) (b : Below W.heap.size W W') : QI w w3 B3 ts W' := by
  obtain ⟨a, n, c, h1, h2⟩ := h.row
  have hs := h.size
  have hl := h.lt
  exact ⟨h.bel.trans (b.mono h.bel.size), Nat.le_trans h.size b.size, h.lt, (b.block _ (by omega)).trans h.z0, fun k k1 k2 => (b.block _ (by omega)).trans (h.keep k k1 k2), a, n, c, (b.block _ (by omega)).trans h1, FRow.row_below h2 b⟩
theorem qi_own (w w3 : World) (B3 : Nat) {α : Type} (f : List α → List Bs) : OwnFrom B3 (fun (pre : List α) W => QI w w3 B3 (f pre) W) := fun pre W W' row h hg hr => by
  obtain ⟨a, n, c, h1, h2⟩ := h.row
  have hs := h.size
  have hl := h.lt
  have lo : ∀ k, k < B3 → W'.heap[k]? = W.heap[k]? := fun k hk => hg.block k (by omega) (fun e => by have := (hr k e.symm).1; omega)
  refine ⟨h.bel.grown hg h.bel.size (fun j hj => by have := (hr j hj).1; omega), Nat.le_trans h.size hg.size, h.lt, (lo _ (by omega)).trans h.z0, fun k k1 k2 => (lo k k2).trans (h.keep k k1 k2), a, n, c, (lo _ (by omega)).trans h1, FRow.row_later h2 fun g cs t fz hgb hgg _ => ?_⟩
  exact hg.block g (lt_of hgg) (fun e => by
    obtain ⟨_, ob, hob, hnc⟩ := hr g e.symm
    rw [hgg] at hob
    cases hob
    cases hnc)
end
abbrev z8 : List Value := [.int .i64 0, .string ⟨#[]⟩, .int .i64 0, .slice none 0 0, .int .i64 0, .string ⟨#[]⟩, .int .i64 0, .slice none 0 0]
abbrev z8O : Obj := .cells #[.int .i64 0, .string ⟨#[]⟩, .int .i64 0, .slice none 0 0, .int .i64 0, .string ⟨#[]⟩, .int .i64 0, .slice none 0 0] 25
theorem app_two (B : Nat) (w : World) (v : Value) (xs : List Bs) (q : Nat) (h : RR B w v xs) (hq : w.heap[q]? = some z8O) (hb : B ≤ w.heap.size) (hn : xs.length + 2 ≤ 4000000000000) :
    ∃ g' c' w', (Builtin.append_ #[23, 23] 23 #[v, .slice (some ⟨q, 0, none⟩) 2 2]).run Tryz.prog w = .ok (.slice (some ⟨g', 0, none⟩) (xs.length + 2) c') w' ∧ w'.ownsRow B 25 4 (.slice (some ⟨g', 0, none⟩) (xs.length + 2) c') (xs.length + 2) (xs.flatMap rep ++ z8) ∧ w.grownBy w' v.ownBlock := by
  obtain ⟨i, hi, hz0, hz1, hz2⟩ := FRow.parts_of HRow.info_rp
  have hnews : ∀ j u, z8[j]? = some u → w.cell? ((⟨q, 0, none⟩ : Addr).add j) = some u := fun j u hj => by
    rw [Addr.add_lit, Lib.cell_of_heap hq, ← hj]
    simp [z8]
  have hone : ∀ u ∈ z8, u.oneCell' = true := fun u hu => by
    simp only [z8, List.mem_cons, List.not_mem_nil, or_false] at hu
    rcases hu with rfl | rfl | rfl | rfl | rfl | rfl | rfl | rfl <;> rfl
  obtain ⟨v', w', hr, ho, hg, _⟩ := run_append_own_wide (P := Tryz.prog) w B 23 23 25 i _ 4 56 Tryz.underlying23 hi hz0 hz1 hz2 rfl (by decide) v xs.length (xs.flatMap rep) h ⟨q, 0, none⟩ 2 2 z8 rfl hnews hone (by unfold maxLen; omega) (by omega) hb
  rcases ho.2 with ⟨_, h0⟩ | ⟨g, cap, cur, rfl, _⟩
  · omega
  · exact ⟨g, cap, w', hr, ho, hg⟩
theorem kp_put {w w3 : World} {B3 : Nat} (W : World) (q : Nat) (o o' : Obj) (hq : B3 ≤ q) : Kp (fun k => w.heap.size + 2 ≤ k ∧ k < B3) W (W.putObj q o') := fun k hk => World.putObj_heap_other (by omega)
variable {L0 : FL}
theorem st_begin {w w3 W V7 V : World} {ts : List Bs} {a : Option Addr} {c g c' : Nat} (hq : QI w w3 w3.heap.size ts W) (h1 : W.heap[w.heap.size + 1]? = some (.cells #[.slice a ts.length c] 23 (0, 0))) (h2 : RR w3.heap.size W (.slice a ts.length c) ts)
    (hb : Below W.heap.size W V7) (hgr : V7.grownBy V (Value.slice a ts.length c).ownBlock) (ho : V.ownsRow w3.heap.size 25 4 (.slice (some ⟨g, 0, none⟩) (ts.length + 2) c') (ts.length + 2) (ts.flatMap rep ++ z8)) :
    ∃ R, St w W w3.heap.size V g (ts.flatMap rep ++ (z8 ++ R)) (.slice a ts.length c) ∧ ((ts.length + 2) * 4 + R.length = c' * 4 ∧ ts.length + 2 ≤ c' ∧ c' ≤ maxLen ∧ (ts.flatMap rep).length = ts.length * 4) := by
  have hlen := h2.1
  have hs := hq.size
  have hl := hq.lt
  have own : ∀ j, (Value.slice a ts.length c).ownBlock = some j → w3.heap.size ≤ j ∧ ∃ cs t fz, W.heap[j]? = some (.cells cs t fz) := fun j hj => by
    rcases h2.2 with ⟨e, _⟩ | ⟨g0, cap, cur, e, hb0, hg0, _⟩
    · rw [e] at hj
      cases hj
    · rw [e] at hj
      cases hj
      exact ⟨hb0, _, _, _, hg0⟩
  rcases ho.2 with ⟨e, _⟩ | ⟨g1, cap, cur, e, hb1, hg1, hle, hcm, hsz, htk⟩
  · cases e
  · injection e with e1 e2 e3
    injection e1 with e1
    injection e1 with e1
    subst e1 e3
    have hT : w.heap.size + 1 < W.heap.size := lt_of h1
    have lo : ∀ k, k < w3.heap.size → V.heap[k]? = W.heap[k]? := fun k hk => (hgr.block k (by have := hb.size; omega) (fun e => by have := (own k e.symm).1; omega)).trans (hb.block k (by omega))
    have hcur : cur = (ts.flatMap rep ++ (z8 ++ cur.toList.drop ((ts.length + 2) * 4))).toArray := by
      rw [← List.append_assoc, ← htk, List.take_append_drop]
    refine ⟨cur.toList.drop ((ts.length + 2) * 4), ⟨hq.bel.trans ((hb.mono hq.bel.size).trans ⟨hgr.os, hgr.tape, hgr.output, hgr.size, fun k hk => hgr.block k (by have := hb.size; omega) (fun e => by have := (own k e.symm).1; omega)⟩), Nat.le_trans hb.size hgr.size, hb1, hl, ?_, (lo _ (by omega)).trans h1, fun k hk _ => lo k hk, ⟨Nat.le_trans hb.size hgr.size, fun k o _ hk hc => ?_⟩⟩, ?_, hle, hcm, hlen⟩
    · rw [← hcur]
      exact hg1
    · have hk2 := lt_of hk
      refine (hgr.block k (by have := hb.size; omega) (fun e => ?_)).trans ((hb.block k hk2).trans hk)
      obtain ⟨_, cs, t, fz, hj⟩ := own k e.symm
      rw [hj] at hk
      cases hk
      cases hc
    · have hcl : cur.toList.length = c' * 4 := (Array.length_toList (xs := cur)).trans hsz
      rw [List.length_drop, hcl]
      omega
theorem st_end {w w3 W V : World} {pre : List (Fx L0)} {g c' : Nat} {R : List Value} (x : Fx L0) (hq : QI w w3 w3.heap.size (txt (pre.map (·.1))) W)
    (h : St w W w3.heap.size V g ((((((((((txt (pre.map (·.1))).flatMap rep ++ (z8 ++ R)).set ((txt (pre.map (·.1))).length * 4) (.int .i64 4)).set ((txt (pre.map (·.1))).length * 4 + 1) (.string (DiBase.mk x.1.1))).set ((txt (pre.map (·.1))).length * 4 + 2) (.int .i64 0)).set ((txt (pre.map (·.1))).length * 4 + 3) (.slice none 0 0)).set ((txt (pre.map (·.1))).length * 4 + 4) (.int .i64 4)).set ((txt (pre.map (·.1))).length * 4 + 4 + 1) (.string (DiBase.mk x.1.2))).set ((txt (pre.map (·.1))).length * 4 + 4 + 2) (.int .i64 0)).set ((txt (pre.map (·.1))).length * 4 + 4 + 3) (.slice none 0 0)) (.slice (some ⟨g, 0, none⟩) ((txt (pre.map (·.1))).length + 2) c'))
    (k : ((txt (pre.map (·.1))).length + 2) * 4 + R.length = c' * 4 ∧ (txt (pre.map (·.1))).length + 2 ≤ c' ∧ c' ≤ maxLen ∧ ((txt (pre.map (·.1))).flatMap rep).length = (txt (pre.map (·.1))).length * 4) :
    KeepsFrom w3.heap.size W V ∧ Kp (fun k => w.heap.size + 2 ≤ k ∧ k < w3.heap.size) W V ∧ QI w w3 w3.heap.size (txt ((pre ++ [x]).map (·.1))) V := by
  obtain ⟨k1, k2, k3, k4⟩ := k
  have hs := hq.size
  have hl := hq.lt
  have hh := h.hg
  unfold z8 at hh
  simp only [List.cons_append, List.nil_append] at hh
  rw [sets_two _ _ _ k4] at hh
  have ht : txt ((pre ++ [x]).map (·.1)) = txt (pre.map (·.1)) ++ [x.1.1, x.1.2] := by
    unfold txt
    rw [List.map_append, List.flatMap_append]
    rfl
  refine ⟨h.keeps, fun k hk => h.lo k hk.2 (by omega), ⟨h.bel, Nat.le_trans hs h.size, hl, (h.lo _ (by omega) (by omega)).trans hq.z0, fun k ka kb => (h.lo k kb (by omega)).trans (hq.keep k ka kb), some ⟨g, 0, none⟩, _, c', h.hT, ?_⟩⟩
  rw [ht]
  have hfm : (txt (pre.map (·.1)) ++ [x.1.1, x.1.2]).flatMap rep = (txt (pre.map (·.1))).flatMap rep ++ [.int .i64 4, .string (DiBase.mk x.1.1), .int .i64 0, .slice none 0 0, .int .i64 4, .string (DiBase.mk x.1.2), .int .i64 0, .slice none 0 0] := by
    rw [List.flatMap_append]
    rfl
  have hln : (txt (pre.map (·.1)) ++ [x.1.1, x.1.2]).length = (txt (pre.map (·.1))).length + 2 := by simp
  unfold RR
  rw [hfm, hln]
  refine ⟨by simp [k4]; omega, .inr ⟨g, c', _, rfl, h.gB, hh, k2, k3, ?_, ?_⟩⟩
  · simp [k4]
    omega
  · rw [List.toList_toArray, ← List.append_assoc, List.take_left' (by simp [k4]; omega)]
set_option maxHeartbeats 16000000 in
set_option maxRecDepth 100000 in
theorem all1_call (w : World) (d m : Nat) {L : FL} (hd : DK d m L w) (hn : L.length < 1099511627776) :
    Calls Tryz.prog 95 #[ptr d] w fun e w' => ∃ v, e = .returned (rpL v) ∧ RR w.heap.size w' v (txt L) ∧ Below w.heap.size w w' := by
  obtain ⟨W, hW⟩ : ∃ W, W = (w.alloc zO).alloc (.cells #[.slice none 0 0] 23) := ⟨_, rfl⟩
  obtain ⟨bW, x0, x1, sW⟩ := two_boxes w zO (.cells #[.slice none 0 0] 23) ⟨_, _, rfl⟩
  rw [← hW] at bW x0 x1 sW
  have HAl := hid_of (DiIter.all_call d m L W (hd.below bW) (by omega))
  have HAr := hid_of fun (V : World) (a : Option Addr) (n c : Nat) => array_call a n c V
  have HBk := hid_of fun (V : World) (T : ByteArray) => bulk_call T V
  have HB := hid_of bW
  have HX0 := hid_of x0
  have HX1 := hid_of x1
  have HSW := hid_of sW
  have HW := hid_of hW
  clear hW bW x0 x1 sW hd
  refine (callsIn_wide (n := 5)).1 ?_
  refine callsIn_of_wp_marks Tryz.func95 rfl trivial ?_ rfl
  simp only [Tryz.ntmps95, List.size_toArray, List.length_cons, List.length_nil, Nat.reduceAdd, Nat.reduceSub, Array.replicate_succ, Array.replicate_zero, List.push_toArray, List.append_toArray, List.nil_append, List.cons_append]
  gi_wp2_with fail
  rw [← HW.out]
  refine ⟨trivial, callsIn_wide.2 (HAl.out.mono ?_)⟩
  rintro e w3 ⟨Bx, vF, rfl, hx3, hBx, o3, b3⟩
  have hBx3 := lt_of hx3
  have hs3 := b3.size
  have HQ3 : Hid (QI w w3 w3.heap.size [] w3) := hid_of ⟨FRow.bel HB.out b3 (Nat.le_refl _), Nat.le_refl _, by have := HSW.out; omega, (b3.block _ (lt_of HX0.out)).trans HX0.out, fun _ _ _ => rfl, none, 0, 0, (b3.block _ (lt_of HX1.out)).trans HX1.out, HRow.rr_nil _ _⟩
  have hIt := iter_stops 4 (by decide) (fun k => w.heap.size + 2 ≤ k ∧ k < w3.heap.size) Bx vF L w3 (by omega) ⟨by have := HSW.out; omega, hBx3⟩ (fun k hk => hk.2) (Lib.cell_of_heap hx3 0) ⟨DiBase.fs_row o3, fun g o n c e _ => by
    have := o3.lt g (by rw [e]; rfl)
    exact ⟨by have := HSW.out; omega, this.2⟩⟩
  have HIt := hid_of hIt
  clear hx3 hBx o3 b3 HAl hIt
  gi_wp2_with fail
  apply wpIn_rangeFunc_ownG (F := Fence.wide) (n := 5) (P := Tryz.prog) (w := w3) rfl (by decide) (gf := 135) (lb := #[.pointer (some ⟨Bx, 0, none⟩)]) rfl trivial (enters_of Tryz.func135 (by kernel_rfl) rfl) HIt.out kp_t (fun W q o o' hq _ _ _ => kp_put (w3 := w3) W q o o' hq) (Below.refl _ _) (fun _ => rfl)
    (fun (pre : List (Fx L)) W => QI w w3 w3.heap.size (txt (pre.map (·.1))) W)
    (fun c pre W => False)
    (qi_own w w3 w3.heap.size (fun (pre : List (Fx L)) => txt (pre.map (·.1))))
    (fun c => ownFrom_pure _ _)
    HQ3.out
  case hassign =>
    intro lp x W K hK
    unfold encF
    gi_wp2_with fail
    exact hK
  case hbody =>
    rintro lp pre x W hq hpl
    obtain ⟨a, n, c, h1, h2⟩ := hq.row
    have hnn : n = (txt (pre.map (·.1))).length := by
      rcases h2.2 with ⟨e, h0⟩ | ⟨g, cap, cur, e, _⟩
      · injection e with _ e; rw [e, h0]
      · injection e
    subst hnn
    have hT : w.heap.size + 1 < W.heap.size := lt_of h1
    have HB := hid_of ((Below.refl W.heap.size W).drew)
    have cT : W.drew.cell? ⟨w.heap.size + 1, 0, none⟩ = some (.slice a (txt (pre.map (·.1))).length c) := Lib.cell_of_heap h1 0
    have H1b := hid_of (fun (V : World) => HBk.out V (DiBase.mk x.1.1))
    have H2b := hid_of (fun (V : World) => HBk.out V (DiBase.mk x.1.2))
    have hB3 : w3.heap.size ≤ W.heap.size := hq.size
    have hpl2 : (txt (pre.map (·.1))).length + 2 ≤ 4000000000000 := by rw [txt_len, List.length_map]; have : pre.length < L.length := hpl; omega
    have HAp := hid_of fun (V : World) (q : Nat) (hb : Below W.heap.size W V) (hq8 : V.heap[q]? = some z8O) => app_two w3.heap.size V _ _ q (FRow.row_below h2 hb) hq8 (Nat.le_trans hB3 hb.size) hpl2
    have HSt := hid_of fun (V7 V : World) (g c' : Nat) (hb : Below W.heap.size W V7) (hgr : V7.grownBy V (Value.slice a (txt (pre.map (·.1))).length c).ownBlock) (ho : V.ownsRow w3.heap.size 25 4 (.slice (some ⟨g, 0, none⟩) ((txt (pre.map (·.1))).length + 2) c') ((txt (pre.map (·.1))).length + 2) ((txt (pre.map (·.1))).flatMap rep ++ z8)) => st_begin hq h1 h2 hb hgr ho
    have HEnd := hid_of fun (V : World) (g c' : Nat) (R : List Value) (h : St w W w3.heap.size V g _ _) (k) => st_end (pre := pre) x hq (c' := c') (R := R) h k
    clear hq h1 h2 HBk
    generalize hNM : DiBase.mk x.1.1 = NM at *
    generalize hVL : DiBase.mk x.1.2 = VL at *
    obtain ⟨N, hN⟩ : ∃ N, N = (txt (pre.map (·.1))).length := ⟨_, rfl⟩
    rw [← hN] at cT HAp HSt hpl2 HEnd
    have HN := hid_of hN
    clear hN
    have HC0 := hid_of (show W.cell? ⟨w.heap.size + 1, 0, none⟩ = some (.slice a N c) from cT)
    have HBt := hid_of (fun (V : World) (hb : Below W.heap.size W V) => hb.cell (p := ⟨w.heap.size + 1, 0, none⟩) hT)
    have hN2 : (N : Int) + 1 < 9223372036854775808 := by omega
    have hN0 : (0 : Int) ≤ (N : Int) := Int.natCast_nonneg _
    gi_wp2_with fail
    refine region_round (fun _ => True) (by kernel_rfl) (by kernel_rfl) (by rintro ⟨a, w, h⟩; exact h) ?_
    refine wpAnyH_take (i := 1) (v := .string NM) rfl (by kernel_rfl) (by kernel_rfl) (by kernel_rfl) (fun _ _ _ h => h) (Or.inl ⟨by kernel_rfl, fun Wx _ => by kernel_rfl⟩) trivial ?_
    try simp only [Act.put, List.setIfInBounds_toArray, List.set_cons_zero, List.set_cons_succ]
    refine wpAnyH_take (i := 3) (v := .string VL) rfl (by kernel_rfl) (by kernel_rfl) (by kernel_rfl) (fun _ _ _ h => h) (Or.inl ⟨by kernel_rfl, fun Wx _ => by kernel_rfl⟩) trivial ?_
    try simp only [Act.put, List.setIfInBounds_toArray, List.set_cons_zero, List.set_cons_succ]
    refine wpAnyH_all (rs := [0, 2, 6]) (by kernel_rfl) (by simp) (fa3 ?_ ?_ ?_)
    · refine op_value (v := .slice a N c) (w' := W.drew) rfl rfl (by go_simp) ⟨trivial, ?_⟩
      try simp only [Act.put, List.setIfInBounds_toArray, List.set_cons_zero, List.set_cons_succ]
      refine wpAnyH_take (i := 5) (v := .int .i64 (N : Int)) rfl (by kernel_rfl) (by kernel_rfl) (by kernel_rfl) (fun _ _ _ h => h) (Or.inl ⟨by kernel_rfl, fun Wx _ => by kernel_rfl⟩) trivial ?_
      try simp only [Act.put, List.setIfInBounds_toArray, List.set_cons_zero, List.set_cons_succ]
      refine wpAnyH_take (i := 10) (v := .int .i64 ((N : Int) + 1)) rfl (by kernel_rfl) (by kernel_rfl) (by kernel_rfl) (fun _ _ _ h => h) (Or.inl ⟨by kernel_rfl, fun Wx _ => by go_simp; exact IntWalk.i64_in _ ⟨by omega, by omega⟩⟩) trivial ?_
      try simp only [Act.put, List.setIfInBounds_toArray, List.set_cons_zero, List.set_cons_succ]
      refine wpAnyH_all (rs := [2, 6]) (by kernel_rfl) (by simp) (fa2 ?_ ?_)
      · refine op_call (f := 97) (args := #[.string NM]) rfl rfl (by kernel_rfl) ((H1b.out _).mono ?_)
        rintro e V2 ⟨rfl, b2⟩
        refine ⟨_, rfl, trivial, ?_⟩
        try simp only [Act.put, List.setIfInBounds_toArray, List.set_cons_zero, List.set_cons_succ]
        replace cT := (HBt.out _ (FRow.bel HB.out b2 (Nat.le_refl _))).trans HC0.out
        replace HB := hid_of (FRow.bel HB.out b2 (Nat.le_refl _))
        clear b2
        refine wpAnyH_all (rs := [4, 6]) (by kernel_rfl) (by simp) (fa2 ?_ ?_)
        · refine op_call (f := 97) (args := #[.string VL]) rfl rfl (by kernel_rfl) ((H2b.out _).mono ?_)
          rintro e V3 ⟨rfl, b3⟩
          refine ⟨_, rfl, trivial, ?_⟩
          try simp only [Act.put, List.setIfInBounds_toArray, List.set_cons_zero, List.set_cons_succ]
          replace cT := (HBt.out _ (FRow.bel HB.out b3 (Nat.le_refl _))).trans HC0.out
          replace HB := hid_of (FRow.bel HB.out b3 (Nat.le_refl _))
          clear b3
          refine wpAnyH_all (rs := [6]) (by kernel_rfl) (by simp) (fa1 ?_)
          · refine op_value (v := .slice (some ⟨World.heap V3 |>.size, 0, none⟩) 2 2) (w' := World.alloc V3 z8O) rfl rfl (by kernel_rfl) ⟨trivial, ?_⟩
            try simp only [Act.put, List.setIfInBounds_toArray, List.set_cons_zero, List.set_cons_succ]
            have Hq := hid_of (heap_alloc_new V3 z8O)
            replace HB := hid_of (FRow.bel HB.out (alb V3 z8O) (Nat.le_refl _))
            replace cT := (HBt.out _ HB.out).trans HC0.out
            generalize World.alloc V3 z8O = V4 at *
            generalize (World.heap V3).size = q4 at *
            refine wpAnyH_all (rs := [7]) (by kernel_rfl) (by simp) (fa1 ?_)
            obtain ⟨g, c9, V9, hr, ho, hgr⟩ := HAp.out _ _ HB.out Hq.out
            refine op_any rfl rfl ?_
            refine wp_app (.tmp 10) (.tmp 16) 23 hr rfl rfl (by kernel_rfl) (by kernel_rfl) ⟨trivial, ?_⟩
            try simp only [Act.put, List.setIfInBounds_toArray, List.set_cons_zero, List.set_cons_succ]
            obtain ⟨R, hS0, hlen⟩ := HSt.out _ _ _ _ HB.out hgr ho
            have S0 := hid_of hS0
            have HFin := hid_of fun (V : World) h => HEnd.out V g c9 R h hlen
            have hl9 := hlen.1
            clear hS0 hgr ho hr HB Hq cT HEnd
            refine wpAnyH_take (i := 8) (v := .pointer (some ⟨g, N * 4, none⟩)) rfl (by kernel_rfl) (by kernel_rfl) (by kernel_rfl) (fun _ _ _ h => h) (Or.inl ⟨by kernel_rfl, fun Wx _ => exec_index (i := N) (n := N + 2) (c := c9) rfl (by kernel_rfl) (by kernel_rfl) (by omega) rfl⟩) trivial ?_
            try simp only [Act.put, List.setIfInBounds_toArray, List.set_cons_zero, List.set_cons_succ]
            refine wpAnyH_all (rs := [9, 13]) (by kernel_rfl) (by simp) (fa2 ?_ ?_)
            · refine op_skip rfl rfl (exec_store4 (s1 := 18) (s2 := 12) (g := g) (off := N * 4) (s := NM) rfl (by kernel_rfl) (by kernel_rfl) S0.out.hg (by have := hlen.2.2.2; simp only [List.length_set, List.length_append, z8, List.length_cons, List.length_nil]; omega)) ⟨trivial, ?_⟩
              try simp only [Act.put, List.setIfInBounds_toArray, List.set_cons_zero, List.set_cons_succ]
              have S1 := hid_of (S0.out.put (N * 4) NM)
              refine wpAnyH_take (i := 11) (v := .pointer (some ⟨g, N * 4 + 4, none⟩)) rfl (by kernel_rfl) (by kernel_rfl) (by kernel_rfl) (fun _ _ _ h => h) (Or.inl ⟨by kernel_rfl, fun Wx _ => exec_index (i := N + 1) (n := N + 2) (c := c9) rfl (by kernel_rfl) (by kernel_rfl) (by omega) (by omega)⟩) trivial ?_
              try simp only [Act.put, List.setIfInBounds_toArray, List.set_cons_zero, List.set_cons_succ]
              refine wpAnyH_all (rs := [12, 13]) (by kernel_rfl) (by simp) (fa2 ?_ ?_)
              · refine op_skip rfl rfl (exec_store4 (s1 := 20) (s2 := 14) (g := g) (off := N * 4 + 4) (s := VL) rfl (by kernel_rfl) (by kernel_rfl) S1.out.hg (by have := hlen.2.2.2; simp only [List.length_set, List.length_append, z8, List.length_cons, List.length_nil]; omega)) ⟨trivial, ?_⟩
                try simp only [Act.put, List.setIfInBounds_toArray, List.set_cons_zero, List.set_cons_succ]
                have S2 := hid_of (S1.out.put (N * 4 + 4) VL)
                refine wpAnyH_all (rs := [13]) (by kernel_rfl) (by simp) (fa1 ?_)
                refine op_skip rfl rfl (exec_store1 (s1 := 3) (s2 := 17) (T := w.heap.size + 1) (x := some ⟨g, 0, none⟩) (n := N + 2) (c := c9) rfl (by kernel_rfl) (by kernel_rfl) S2.out.hT) ⟨trivial, ?_⟩
                try simp only [Act.put, List.setIfInBounds_toArray, List.set_cons_zero, List.set_cons_succ]
                have S3 := hid_of (S2.out.box (.slice (some ⟨g, 0, none⟩) (N + 2) c9))
                refine wpAnyH_done (by kernel_rfl) ?_ _
                exact HFin.out _ S3.out
              · refine op_skip rfl rfl (exec_store1 (s1 := 3) (s2 := 17) (T := w.heap.size + 1) (x := some ⟨g, 0, none⟩) (n := N + 2) (c := c9) rfl (by kernel_rfl) (by kernel_rfl) S1.out.hT) ⟨trivial, ?_⟩
                try simp only [Act.put, List.setIfInBounds_toArray, List.set_cons_zero, List.set_cons_succ]
                have S2 := hid_of (S1.out.box (.slice (some ⟨g, 0, none⟩) (N + 2) c9))
                refine wpAnyH_all (rs := [12]) (by kernel_rfl) (by simp) (fa1 ?_)
                refine op_skip rfl rfl (exec_store4 (s1 := 20) (s2 := 14) (g := g) (off := N * 4 + 4) (s := VL) rfl (by kernel_rfl) (by kernel_rfl) S2.out.hg (by have := hlen.2.2.2; simp only [List.length_set, List.length_append, z8, List.length_cons, List.length_nil]; omega)) ⟨trivial, ?_⟩
                try simp only [Act.put, List.setIfInBounds_toArray, List.set_cons_zero, List.set_cons_succ]
                have S3 := hid_of (S2.out.put (N * 4 + 4) VL)
                refine wpAnyH_done (by kernel_rfl) ?_ _
                exact HFin.out _ S3.out
            · refine op_skip rfl rfl (exec_store1 (s1 := 3) (s2 := 17) (T := w.heap.size + 1) (x := some ⟨g, 0, none⟩) (n := N + 2) (c := c9) rfl (by kernel_rfl) (by kernel_rfl) S0.out.hT) ⟨trivial, ?_⟩
              try simp only [Act.put, List.setIfInBounds_toArray, List.set_cons_zero, List.set_cons_succ]
              have S1 := hid_of (S0.out.box (.slice (some ⟨g, 0, none⟩) (N + 2) c9))
              refine wpAnyH_all (rs := [9]) (by kernel_rfl) (by simp) (fa1 ?_)
              refine op_skip rfl rfl (exec_store4 (s1 := 18) (s2 := 12) (g := g) (off := N * 4) (s := NM) rfl (by kernel_rfl) (by kernel_rfl) S1.out.hg (by have := hlen.2.2.2; simp only [List.length_set, List.length_append, z8, List.length_cons, List.length_nil]; omega)) ⟨trivial, ?_⟩
              try simp only [Act.put, List.setIfInBounds_toArray, List.set_cons_zero, List.set_cons_succ]
              have S2 := hid_of (S1.out.put (N * 4) NM)
              refine wpAnyH_take (i := 11) (v := .pointer (some ⟨g, N * 4 + 4, none⟩)) rfl (by kernel_rfl) (by kernel_rfl) (by kernel_rfl) (fun _ _ _ h => h) (Or.inl ⟨by kernel_rfl, fun Wx _ => exec_index (i := N + 1) (n := N + 2) (c := c9) rfl (by kernel_rfl) (by kernel_rfl) (by omega) (by omega)⟩) trivial ?_
              try simp only [Act.put, List.setIfInBounds_toArray, List.set_cons_zero, List.set_cons_succ]
              refine wpAnyH_all (rs := [12]) (by kernel_rfl) (by simp) (fa1 ?_)
              refine op_skip rfl rfl (exec_store4 (s1 := 20) (s2 := 14) (g := g) (off := N * 4 + 4) (s := VL) rfl (by kernel_rfl) (by kernel_rfl) S2.out.hg (by have := hlen.2.2.2; simp only [List.length_set, List.length_append, z8, List.length_cons, List.length_nil]; omega)) ⟨trivial, ?_⟩
              try simp only [Act.put, List.setIfInBounds_toArray, List.set_cons_zero, List.set_cons_succ]
              have S3 := hid_of (S2.out.put (N * 4 + 4) VL)
              refine wpAnyH_done (by kernel_rfl) ?_ _
              exact HFin.out _ S3.out
        · refine op_value (v := .slice (some ⟨World.heap V2 |>.size, 0, none⟩) 2 2) (w' := World.alloc V2 z8O) rfl rfl (by kernel_rfl) ⟨trivial, ?_⟩
          try simp only [Act.put, List.setIfInBounds_toArray, List.set_cons_zero, List.set_cons_succ]
          have Hq := hid_of (heap_alloc_new V2 z8O)
          replace HB := hid_of (FRow.bel HB.out (alb V2 z8O) (Nat.le_refl _))
          replace cT := (HBt.out _ HB.out).trans HC0.out
          generalize World.alloc V2 z8O = V5 at *
          generalize (World.heap V2).size = q5 at *
          refine wpAnyH_all (rs := [4]) (by kernel_rfl) (by simp) (fa1 ?_)
          · refine op_call (f := 97) (args := #[.string VL]) rfl rfl (by kernel_rfl) ((H2b.out _).mono ?_)
            rintro e V6 ⟨rfl, b6⟩
            refine ⟨_, rfl, trivial, ?_⟩
            try simp only [Act.put, List.setIfInBounds_toArray, List.set_cons_zero, List.set_cons_succ]
            replace cT := (HBt.out _ (FRow.bel HB.out b6 (Nat.le_refl _))).trans HC0.out
            replace Hq := hid_of ((b6.block _ (lt_of Hq.out)).trans Hq.out)
            replace HB := hid_of (FRow.bel HB.out b6 (Nat.le_refl _))
            clear b6
            refine wpAnyH_all (rs := [7]) (by kernel_rfl) (by simp) (fa1 ?_)
            obtain ⟨g, c9, V9, hr, ho, hgr⟩ := HAp.out _ _ HB.out Hq.out
            refine op_any rfl rfl ?_
            refine wp_app (.tmp 10) (.tmp 16) 23 hr rfl rfl (by kernel_rfl) (by kernel_rfl) ⟨trivial, ?_⟩
            try simp only [Act.put, List.setIfInBounds_toArray, List.set_cons_zero, List.set_cons_succ]
            obtain ⟨R, hS0, hlen⟩ := HSt.out _ _ _ _ HB.out hgr ho
            have S0 := hid_of hS0
            have HFin := hid_of fun (V : World) h => HEnd.out V g c9 R h hlen
            have hl9 := hlen.1
            clear hS0 hgr ho hr HB Hq cT HEnd
            refine wpAnyH_take (i := 8) (v := .pointer (some ⟨g, N * 4, none⟩)) rfl (by kernel_rfl) (by kernel_rfl) (by kernel_rfl) (fun _ _ _ h => h) (Or.inl ⟨by kernel_rfl, fun Wx _ => exec_index (i := N) (n := N + 2) (c := c9) rfl (by kernel_rfl) (by kernel_rfl) (by omega) rfl⟩) trivial ?_
            try simp only [Act.put, List.setIfInBounds_toArray, List.set_cons_zero, List.set_cons_succ]
            refine wpAnyH_all (rs := [9, 13]) (by kernel_rfl) (by simp) (fa2 ?_ ?_)
            · refine op_skip rfl rfl (exec_store4 (s1 := 18) (s2 := 12) (g := g) (off := N * 4) (s := NM) rfl (by kernel_rfl) (by kernel_rfl) S0.out.hg (by have := hlen.2.2.2; simp only [List.length_set, List.length_append, z8, List.length_cons, List.length_nil]; omega)) ⟨trivial, ?_⟩
              try simp only [Act.put, List.setIfInBounds_toArray, List.set_cons_zero, List.set_cons_succ]
              have S1 := hid_of (S0.out.put (N * 4) NM)
              refine wpAnyH_take (i := 11) (v := .pointer (some ⟨g, N * 4 + 4, none⟩)) rfl (by kernel_rfl) (by kernel_rfl) (by kernel_rfl) (fun _ _ _ h => h) (Or.inl ⟨by kernel_rfl, fun Wx _ => exec_index (i := N + 1) (n := N + 2) (c := c9) rfl (by kernel_rfl) (by kernel_rfl) (by omega) (by omega)⟩) trivial ?_
              try simp only [Act.put, List.setIfInBounds_toArray, List.set_cons_zero, List.set_cons_succ]
              refine wpAnyH_all (rs := [12, 13]) (by kernel_rfl) (by simp) (fa2 ?_ ?_)
              · refine op_skip rfl rfl (exec_store4 (s1 := 20) (s2 := 14) (g := g) (off := N * 4 + 4) (s := VL) rfl (by kernel_rfl) (by kernel_rfl) S1.out.hg (by have := hlen.2.2.2; simp only [List.length_set, List.length_append, z8, List.length_cons, List.length_nil]; omega)) ⟨trivial, ?_⟩
                try simp only [Act.put, List.setIfInBounds_toArray, List.set_cons_zero, List.set_cons_succ]
                have S2 := hid_of (S1.out.put (N * 4 + 4) VL)
                refine wpAnyH_all (rs := [13]) (by kernel_rfl) (by simp) (fa1 ?_)
                refine op_skip rfl rfl (exec_store1 (s1 := 3) (s2 := 17) (T := w.heap.size + 1) (x := some ⟨g, 0, none⟩) (n := N + 2) (c := c9) rfl (by kernel_rfl) (by kernel_rfl) S2.out.hT) ⟨trivial, ?_⟩
                try simp only [Act.put, List.setIfInBounds_toArray, List.set_cons_zero, List.set_cons_succ]
                have S3 := hid_of (S2.out.box (.slice (some ⟨g, 0, none⟩) (N + 2) c9))
                refine wpAnyH_done (by kernel_rfl) ?_ _
                exact HFin.out _ S3.out
              · refine op_skip rfl rfl (exec_store1 (s1 := 3) (s2 := 17) (T := w.heap.size + 1) (x := some ⟨g, 0, none⟩) (n := N + 2) (c := c9) rfl (by kernel_rfl) (by kernel_rfl) S1.out.hT) ⟨trivial, ?_⟩
                try simp only [Act.put, List.setIfInBounds_toArray, List.set_cons_zero, List.set_cons_succ]
                have S2 := hid_of (S1.out.box (.slice (some ⟨g, 0, none⟩) (N + 2) c9))
                refine wpAnyH_all (rs := [12]) (by kernel_rfl) (by simp) (fa1 ?_)
                refine op_skip rfl rfl (exec_store4 (s1 := 20) (s2 := 14) (g := g) (off := N * 4 + 4) (s := VL) rfl (by kernel_rfl) (by kernel_rfl) S2.out.hg (by have := hlen.2.2.2; simp only [List.length_set, List.length_append, z8, List.length_cons, List.length_nil]; omega)) ⟨trivial, ?_⟩
                try simp only [Act.put, List.setIfInBounds_toArray, List.set_cons_zero, List.set_cons_succ]
                have S3 := hid_of (S2.out.put (N * 4 + 4) VL)
                refine wpAnyH_done (by kernel_rfl) ?_ _
                exact HFin.out _ S3.out
            · refine op_skip rfl rfl (exec_store1 (s1 := 3) (s2 := 17) (T := w.heap.size + 1) (x := some ⟨g, 0, none⟩) (n := N + 2) (c := c9) rfl (by kernel_rfl) (by kernel_rfl) S0.out.hT) ⟨trivial, ?_⟩
              try simp only [Act.put, List.setIfInBounds_toArray, List.set_cons_zero, List.set_cons_succ]
              have S1 := hid_of (S0.out.box (.slice (some ⟨g, 0, none⟩) (N + 2) c9))
              refine wpAnyH_all (rs := [9]) (by kernel_rfl) (by simp) (fa1 ?_)
              refine op_skip rfl rfl (exec_store4 (s1 := 18) (s2 := 12) (g := g) (off := N * 4) (s := NM) rfl (by kernel_rfl) (by kernel_rfl) S1.out.hg (by have := hlen.2.2.2; simp only [List.length_set, List.length_append, z8, List.length_cons, List.length_nil]; omega)) ⟨trivial, ?_⟩
              try simp only [Act.put, List.setIfInBounds_toArray, List.set_cons_zero, List.set_cons_succ]
              have S2 := hid_of (S1.out.put (N * 4) NM)
              refine wpAnyH_take (i := 11) (v := .pointer (some ⟨g, N * 4 + 4, none⟩)) rfl (by kernel_rfl) (by kernel_rfl) (by kernel_rfl) (fun _ _ _ h => h) (Or.inl ⟨by kernel_rfl, fun Wx _ => exec_index (i := N + 1) (n := N + 2) (c := c9) rfl (by kernel_rfl) (by kernel_rfl) (by omega) (by omega)⟩) trivial ?_
              try simp only [Act.put, List.setIfInBounds_toArray, List.set_cons_zero, List.set_cons_succ]
              refine wpAnyH_all (rs := [12]) (by kernel_rfl) (by simp) (fa1 ?_)
              refine op_skip rfl rfl (exec_store4 (s1 := 20) (s2 := 14) (g := g) (off := N * 4 + 4) (s := VL) rfl (by kernel_rfl) (by kernel_rfl) S2.out.hg (by have := hlen.2.2.2; simp only [List.length_set, List.length_append, z8, List.length_cons, List.length_nil]; omega)) ⟨trivial, ?_⟩
              try simp only [Act.put, List.setIfInBounds_toArray, List.set_cons_zero, List.set_cons_succ]
              have S3 := hid_of (S2.out.put (N * 4 + 4) VL)
              refine wpAnyH_done (by kernel_rfl) ?_ _
              exact HFin.out _ S3.out
      · refine op_value (v := .slice (some ⟨World.heap W.drew |>.size, 0, none⟩) 2 2) (w' := World.alloc W.drew z8O) rfl rfl (by kernel_rfl) ⟨trivial, ?_⟩
        try simp only [Act.put, List.setIfInBounds_toArray, List.set_cons_zero, List.set_cons_succ]
        have Hq := hid_of (heap_alloc_new W.drew z8O)
        replace HB := hid_of (FRow.bel HB.out (alb W.drew z8O) (Nat.le_refl _))
        replace cT := (HBt.out _ HB.out).trans HC0.out
        generalize World.alloc W.drew z8O = V7 at *
        generalize (World.heap W.drew).size = q7 at *
        refine wpAnyH_all (rs := [2]) (by kernel_rfl) (by simp) (fa1 ?_)
        · refine op_call (f := 97) (args := #[.string NM]) rfl rfl (by kernel_rfl) ((H1b.out _).mono ?_)
          rintro e V8 ⟨rfl, b8⟩
          refine ⟨_, rfl, trivial, ?_⟩
          try simp only [Act.put, List.setIfInBounds_toArray, List.set_cons_zero, List.set_cons_succ]
          replace cT := (HBt.out _ (FRow.bel HB.out b8 (Nat.le_refl _))).trans HC0.out
          replace Hq := hid_of ((b8.block _ (lt_of Hq.out)).trans Hq.out)
          replace HB := hid_of (FRow.bel HB.out b8 (Nat.le_refl _))
          clear b8
          refine wpAnyH_all (rs := [4]) (by kernel_rfl) (by simp) (fa1 ?_)
          · refine op_call (f := 97) (args := #[.string VL]) rfl rfl (by kernel_rfl) ((H2b.out _).mono ?_)
            rintro e V9 ⟨rfl, b9⟩
            refine ⟨_, rfl, trivial, ?_⟩
            try simp only [Act.put, List.setIfInBounds_toArray, List.set_cons_zero, List.set_cons_succ]
            replace cT := (HBt.out _ (FRow.bel HB.out b9 (Nat.le_refl _))).trans HC0.out
            replace Hq := hid_of ((b9.block _ (lt_of Hq.out)).trans Hq.out)
            replace HB := hid_of (FRow.bel HB.out b9 (Nat.le_refl _))
            clear b9
            refine wpAnyH_all (rs := [7]) (by kernel_rfl) (by simp) (fa1 ?_)
            obtain ⟨g, c9, V9, hr, ho, hgr⟩ := HAp.out _ _ HB.out Hq.out
            refine op_any rfl rfl ?_
            refine wp_app (.tmp 10) (.tmp 16) 23 hr rfl rfl (by kernel_rfl) (by kernel_rfl) ⟨trivial, ?_⟩
            try simp only [Act.put, List.setIfInBounds_toArray, List.set_cons_zero, List.set_cons_succ]
            obtain ⟨R, hS0, hlen⟩ := HSt.out _ _ _ _ HB.out hgr ho
            have S0 := hid_of hS0
            have HFin := hid_of fun (V : World) h => HEnd.out V g c9 R h hlen
            have hl9 := hlen.1
            clear hS0 hgr ho hr HB Hq cT HEnd
            refine wpAnyH_take (i := 8) (v := .pointer (some ⟨g, N * 4, none⟩)) rfl (by kernel_rfl) (by kernel_rfl) (by kernel_rfl) (fun _ _ _ h => h) (Or.inl ⟨by kernel_rfl, fun Wx _ => exec_index (i := N) (n := N + 2) (c := c9) rfl (by kernel_rfl) (by kernel_rfl) (by omega) rfl⟩) trivial ?_
            try simp only [Act.put, List.setIfInBounds_toArray, List.set_cons_zero, List.set_cons_succ]
            refine wpAnyH_all (rs := [9, 13]) (by kernel_rfl) (by simp) (fa2 ?_ ?_)
            · refine op_skip rfl rfl (exec_store4 (s1 := 18) (s2 := 12) (g := g) (off := N * 4) (s := NM) rfl (by kernel_rfl) (by kernel_rfl) S0.out.hg (by have := hlen.2.2.2; simp only [List.length_set, List.length_append, z8, List.length_cons, List.length_nil]; omega)) ⟨trivial, ?_⟩
              try simp only [Act.put, List.setIfInBounds_toArray, List.set_cons_zero, List.set_cons_succ]
              have S1 := hid_of (S0.out.put (N * 4) NM)
              refine wpAnyH_take (i := 11) (v := .pointer (some ⟨g, N * 4 + 4, none⟩)) rfl (by kernel_rfl) (by kernel_rfl) (by kernel_rfl) (fun _ _ _ h => h) (Or.inl ⟨by kernel_rfl, fun Wx _ => exec_index (i := N + 1) (n := N + 2) (c := c9) rfl (by kernel_rfl) (by kernel_rfl) (by omega) (by omega)⟩) trivial ?_
              try simp only [Act.put, List.setIfInBounds_toArray, List.set_cons_zero, List.set_cons_succ]
              refine wpAnyH_all (rs := [12, 13]) (by kernel_rfl) (by simp) (fa2 ?_ ?_)
              · refine op_skip rfl rfl (exec_store4 (s1 := 20) (s2 := 14) (g := g) (off := N * 4 + 4) (s := VL) rfl (by kernel_rfl) (by kernel_rfl) S1.out.hg (by have := hlen.2.2.2; simp only [List.length_set, List.length_append, z8, List.length_cons, List.length_nil]; omega)) ⟨trivial, ?_⟩
                try simp only [Act.put, List.setIfInBounds_toArray, List.set_cons_zero, List.set_cons_succ]
                have S2 := hid_of (S1.out.put (N * 4 + 4) VL)
                refine wpAnyH_all (rs := [13]) (by kernel_rfl) (by simp) (fa1 ?_)
                refine op_skip rfl rfl (exec_store1 (s1 := 3) (s2 := 17) (T := w.heap.size + 1) (x := some ⟨g, 0, none⟩) (n := N + 2) (c := c9) rfl (by kernel_rfl) (by kernel_rfl) S2.out.hT) ⟨trivial, ?_⟩
                try simp only [Act.put, List.setIfInBounds_toArray, List.set_cons_zero, List.set_cons_succ]
                have S3 := hid_of (S2.out.box (.slice (some ⟨g, 0, none⟩) (N + 2) c9))
                refine wpAnyH_done (by kernel_rfl) ?_ _
                exact HFin.out _ S3.out
              · refine op_skip rfl rfl (exec_store1 (s1 := 3) (s2 := 17) (T := w.heap.size + 1) (x := some ⟨g, 0, none⟩) (n := N + 2) (c := c9) rfl (by kernel_rfl) (by kernel_rfl) S1.out.hT) ⟨trivial, ?_⟩
                try simp only [Act.put, List.setIfInBounds_toArray, List.set_cons_zero, List.set_cons_succ]
                have S2 := hid_of (S1.out.box (.slice (some ⟨g, 0, none⟩) (N + 2) c9))
                refine wpAnyH_all (rs := [12]) (by kernel_rfl) (by simp) (fa1 ?_)
                refine op_skip rfl rfl (exec_store4 (s1 := 20) (s2 := 14) (g := g) (off := N * 4 + 4) (s := VL) rfl (by kernel_rfl) (by kernel_rfl) S2.out.hg (by have := hlen.2.2.2; simp only [List.length_set, List.length_append, z8, List.length_cons, List.length_nil]; omega)) ⟨trivial, ?_⟩
                try simp only [Act.put, List.setIfInBounds_toArray, List.set_cons_zero, List.set_cons_succ]
                have S3 := hid_of (S2.out.put (N * 4 + 4) VL)
                refine wpAnyH_done (by kernel_rfl) ?_ _
                exact HFin.out _ S3.out
            · refine op_skip rfl rfl (exec_store1 (s1 := 3) (s2 := 17) (T := w.heap.size + 1) (x := some ⟨g, 0, none⟩) (n := N + 2) (c := c9) rfl (by kernel_rfl) (by kernel_rfl) S0.out.hT) ⟨trivial, ?_⟩
              try simp only [Act.put, List.setIfInBounds_toArray, List.set_cons_zero, List.set_cons_succ]
              have S1 := hid_of (S0.out.box (.slice (some ⟨g, 0, none⟩) (N + 2) c9))
              refine wpAnyH_all (rs := [9]) (by kernel_rfl) (by simp) (fa1 ?_)
              refine op_skip rfl rfl (exec_store4 (s1 := 18) (s2 := 12) (g := g) (off := N * 4) (s := NM) rfl (by kernel_rfl) (by kernel_rfl) S1.out.hg (by have := hlen.2.2.2; simp only [List.length_set, List.length_append, z8, List.length_cons, List.length_nil]; omega)) ⟨trivial, ?_⟩
              try simp only [Act.put, List.setIfInBounds_toArray, List.set_cons_zero, List.set_cons_succ]
              have S2 := hid_of (S1.out.put (N * 4) NM)
              refine wpAnyH_take (i := 11) (v := .pointer (some ⟨g, N * 4 + 4, none⟩)) rfl (by kernel_rfl) (by kernel_rfl) (by kernel_rfl) (fun _ _ _ h => h) (Or.inl ⟨by kernel_rfl, fun Wx _ => exec_index (i := N + 1) (n := N + 2) (c := c9) rfl (by kernel_rfl) (by kernel_rfl) (by omega) (by omega)⟩) trivial ?_
              try simp only [Act.put, List.setIfInBounds_toArray, List.set_cons_zero, List.set_cons_succ]
              refine wpAnyH_all (rs := [12]) (by kernel_rfl) (by simp) (fa1 ?_)
              refine op_skip rfl rfl (exec_store4 (s1 := 20) (s2 := 14) (g := g) (off := N * 4 + 4) (s := VL) rfl (by kernel_rfl) (by kernel_rfl) S2.out.hg (by have := hlen.2.2.2; simp only [List.length_set, List.length_append, z8, List.length_cons, List.length_nil]; omega)) ⟨trivial, ?_⟩
              try simp only [Act.put, List.setIfInBounds_toArray, List.set_cons_zero, List.set_cons_succ]
              have S3 := hid_of (S2.out.put (N * 4 + 4) VL)
              refine wpAnyH_done (by kernel_rfl) ?_ _
              exact HFin.out _ S3.out
    · refine op_call (f := 97) (args := #[.string NM]) rfl rfl (by kernel_rfl) ((H1b.out _).mono ?_)
      rintro e V10 ⟨rfl, b10⟩
      refine ⟨_, rfl, trivial, ?_⟩
      try simp only [Act.put, List.setIfInBounds_toArray, List.set_cons_zero, List.set_cons_succ]
      replace cT := (HBt.out _ (FRow.bel HB.out b10 (Nat.le_refl _))).trans HC0.out
      replace HB := hid_of (FRow.bel HB.out b10 (Nat.le_refl _))
      clear b10
      refine wpAnyH_all (rs := [0, 4, 6]) (by kernel_rfl) (by simp) (fa3 ?_ ?_ ?_)
      · refine op_value (v := .slice a N c) (w' := V10) rfl rfl (by go_simp) ⟨trivial, ?_⟩
        try simp only [Act.put, List.setIfInBounds_toArray, List.set_cons_zero, List.set_cons_succ]
        refine wpAnyH_take (i := 5) (v := .int .i64 (N : Int)) rfl (by kernel_rfl) (by kernel_rfl) (by kernel_rfl) (fun _ _ _ h => h) (Or.inl ⟨by kernel_rfl, fun Wx _ => by kernel_rfl⟩) trivial ?_
        try simp only [Act.put, List.setIfInBounds_toArray, List.set_cons_zero, List.set_cons_succ]
        refine wpAnyH_take (i := 10) (v := .int .i64 ((N : Int) + 1)) rfl (by kernel_rfl) (by kernel_rfl) (by kernel_rfl) (fun _ _ _ h => h) (Or.inl ⟨by kernel_rfl, fun Wx _ => by go_simp; exact IntWalk.i64_in _ ⟨by omega, by omega⟩⟩) trivial ?_
        try simp only [Act.put, List.setIfInBounds_toArray, List.set_cons_zero, List.set_cons_succ]
        refine wpAnyH_all (rs := [4, 6]) (by kernel_rfl) (by simp) (fa2 ?_ ?_)
        · refine op_call (f := 97) (args := #[.string VL]) rfl rfl (by kernel_rfl) ((H2b.out _).mono ?_)
          rintro e V12 ⟨rfl, b12⟩
          refine ⟨_, rfl, trivial, ?_⟩
          try simp only [Act.put, List.setIfInBounds_toArray, List.set_cons_zero, List.set_cons_succ]
          replace cT := (HBt.out _ (FRow.bel HB.out b12 (Nat.le_refl _))).trans HC0.out
          replace HB := hid_of (FRow.bel HB.out b12 (Nat.le_refl _))
          clear b12
          refine wpAnyH_all (rs := [6]) (by kernel_rfl) (by simp) (fa1 ?_)
          · refine op_value (v := .slice (some ⟨World.heap V12 |>.size, 0, none⟩) 2 2) (w' := World.alloc V12 z8O) rfl rfl (by kernel_rfl) ⟨trivial, ?_⟩
            try simp only [Act.put, List.setIfInBounds_toArray, List.set_cons_zero, List.set_cons_succ]
            have Hq := hid_of (heap_alloc_new V12 z8O)
            replace HB := hid_of (FRow.bel HB.out (alb V12 z8O) (Nat.le_refl _))
            replace cT := (HBt.out _ HB.out).trans HC0.out
            generalize World.alloc V12 z8O = V13 at *
            generalize (World.heap V12).size = q13 at *
            refine wpAnyH_all (rs := [7]) (by kernel_rfl) (by simp) (fa1 ?_)
            obtain ⟨g, c9, V9, hr, ho, hgr⟩ := HAp.out _ _ HB.out Hq.out
            refine op_any rfl rfl ?_
            refine wp_app (.tmp 10) (.tmp 16) 23 hr rfl rfl (by kernel_rfl) (by kernel_rfl) ⟨trivial, ?_⟩
            try simp only [Act.put, List.setIfInBounds_toArray, List.set_cons_zero, List.set_cons_succ]
            obtain ⟨R, hS0, hlen⟩ := HSt.out _ _ _ _ HB.out hgr ho
            have S0 := hid_of hS0
            have HFin := hid_of fun (V : World) h => HEnd.out V g c9 R h hlen
            have hl9 := hlen.1
            clear hS0 hgr ho hr HB Hq cT HEnd
            refine wpAnyH_take (i := 8) (v := .pointer (some ⟨g, N * 4, none⟩)) rfl (by kernel_rfl) (by kernel_rfl) (by kernel_rfl) (fun _ _ _ h => h) (Or.inl ⟨by kernel_rfl, fun Wx _ => exec_index (i := N) (n := N + 2) (c := c9) rfl (by kernel_rfl) (by kernel_rfl) (by omega) rfl⟩) trivial ?_
            try simp only [Act.put, List.setIfInBounds_toArray, List.set_cons_zero, List.set_cons_succ]
            refine wpAnyH_all (rs := [9, 13]) (by kernel_rfl) (by simp) (fa2 ?_ ?_)
            · refine op_skip rfl rfl (exec_store4 (s1 := 18) (s2 := 12) (g := g) (off := N * 4) (s := NM) rfl (by kernel_rfl) (by kernel_rfl) S0.out.hg (by have := hlen.2.2.2; simp only [List.length_set, List.length_append, z8, List.length_cons, List.length_nil]; omega)) ⟨trivial, ?_⟩
              try simp only [Act.put, List.setIfInBounds_toArray, List.set_cons_zero, List.set_cons_succ]
              have S1 := hid_of (S0.out.put (N * 4) NM)
              refine wpAnyH_take (i := 11) (v := .pointer (some ⟨g, N * 4 + 4, none⟩)) rfl (by kernel_rfl) (by kernel_rfl) (by kernel_rfl) (fun _ _ _ h => h) (Or.inl ⟨by kernel_rfl, fun Wx _ => exec_index (i := N + 1) (n := N + 2) (c := c9) rfl (by kernel_rfl) (by kernel_rfl) (by omega) (by omega)⟩) trivial ?_
              try simp only [Act.put, List.setIfInBounds_toArray, List.set_cons_zero, List.set_cons_succ]
              refine wpAnyH_all (rs := [12, 13]) (by kernel_rfl) (by simp) (fa2 ?_ ?_)
              · refine op_skip rfl rfl (exec_store4 (s1 := 20) (s2 := 14) (g := g) (off := N * 4 + 4) (s := VL) rfl (by kernel_rfl) (by kernel_rfl) S1.out.hg (by have := hlen.2.2.2; simp only [List.length_set, List.length_append, z8, List.length_cons, List.length_nil]; omega)) ⟨trivial, ?_⟩
                try simp only [Act.put, List.setIfInBounds_toArray, List.set_cons_zero, List.set_cons_succ]
                have S2 := hid_of (S1.out.put (N * 4 + 4) VL)
                refine wpAnyH_all (rs := [13]) (by kernel_rfl) (by simp) (fa1 ?_)
                refine op_skip rfl rfl (exec_store1 (s1 := 3) (s2 := 17) (T := w.heap.size + 1) (x := some ⟨g, 0, none⟩) (n := N + 2) (c := c9) rfl (by kernel_rfl) (by kernel_rfl) S2.out.hT) ⟨trivial, ?_⟩
                try simp only [Act.put, List.setIfInBounds_toArray, List.set_cons_zero, List.set_cons_succ]
                have S3 := hid_of (S2.out.box (.slice (some ⟨g, 0, none⟩) (N + 2) c9))
                refine wpAnyH_done (by kernel_rfl) ?_ _
                exact HFin.out _ S3.out
              · refine op_skip rfl rfl (exec_store1 (s1 := 3) (s2 := 17) (T := w.heap.size + 1) (x := some ⟨g, 0, none⟩) (n := N + 2) (c := c9) rfl (by kernel_rfl) (by kernel_rfl) S1.out.hT) ⟨trivial, ?_⟩
                try simp only [Act.put, List.setIfInBounds_toArray, List.set_cons_zero, List.set_cons_succ]
                have S2 := hid_of (S1.out.box (.slice (some ⟨g, 0, none⟩) (N + 2) c9))
                refine wpAnyH_all (rs := [12]) (by kernel_rfl) (by simp) (fa1 ?_)
                refine op_skip rfl rfl (exec_store4 (s1 := 20) (s2 := 14) (g := g) (off := N * 4 + 4) (s := VL) rfl (by kernel_rfl) (by kernel_rfl) S2.out.hg (by have := hlen.2.2.2; simp only [List.length_set, List.length_append, z8, List.length_cons, List.length_nil]; omega)) ⟨trivial, ?_⟩
                try simp only [Act.put, List.setIfInBounds_toArray, List.set_cons_zero, List.set_cons_succ]
                have S3 := hid_of (S2.out.put (N * 4 + 4) VL)
                refine wpAnyH_done (by kernel_rfl) ?_ _
                exact HFin.out _ S3.out
            · refine op_skip rfl rfl (exec_store1 (s1 := 3) (s2 := 17) (T := w.heap.size + 1) (x := some ⟨g, 0, none⟩) (n := N + 2) (c := c9) rfl (by kernel_rfl) (by kernel_rfl) S0.out.hT) ⟨trivial, ?_⟩
              try simp only [Act.put, List.setIfInBounds_toArray, List.set_cons_zero, List.set_cons_succ]
              have S1 := hid_of (S0.out.box (.slice (some ⟨g, 0, none⟩) (N + 2) c9))
              refine wpAnyH_all (rs := [9]) (by kernel_rfl) (by simp) (fa1 ?_)
              refine op_skip rfl rfl (exec_store4 (s1 := 18) (s2 := 12) (g := g) (off := N * 4) (s := NM) rfl (by kernel_rfl) (by kernel_rfl) S1.out.hg (by have := hlen.2.2.2; simp only [List.length_set, List.length_append, z8, List.length_cons, List.length_nil]; omega)) ⟨trivial, ?_⟩
              try simp only [Act.put, List.setIfInBounds_toArray, List.set_cons_zero, List.set_cons_succ]
              have S2 := hid_of (S1.out.put (N * 4) NM)
              refine wpAnyH_take (i := 11) (v := .pointer (some ⟨g, N * 4 + 4, none⟩)) rfl (by kernel_rfl) (by kernel_rfl) (by kernel_rfl) (fun _ _ _ h => h) (Or.inl ⟨by kernel_rfl, fun Wx _ => exec_index (i := N + 1) (n := N + 2) (c := c9) rfl (by kernel_rfl) (by kernel_rfl) (by omega) (by omega)⟩) trivial ?_
              try simp only [Act.put, List.setIfInBounds_toArray, List.set_cons_zero, List.set_cons_succ]
              refine wpAnyH_all (rs := [12]) (by kernel_rfl) (by simp) (fa1 ?_)
              refine op_skip rfl rfl (exec_store4 (s1 := 20) (s2 := 14) (g := g) (off := N * 4 + 4) (s := VL) rfl (by kernel_rfl) (by kernel_rfl) S2.out.hg (by have := hlen.2.2.2; simp only [List.length_set, List.length_append, z8, List.length_cons, List.length_nil]; omega)) ⟨trivial, ?_⟩
              try simp only [Act.put, List.setIfInBounds_toArray, List.set_cons_zero, List.set_cons_succ]
              have S3 := hid_of (S2.out.put (N * 4 + 4) VL)
              refine wpAnyH_done (by kernel_rfl) ?_ _
              exact HFin.out _ S3.out
        · refine op_value (v := .slice (some ⟨World.heap V10 |>.size, 0, none⟩) 2 2) (w' := World.alloc V10 z8O) rfl rfl (by kernel_rfl) ⟨trivial, ?_⟩
          try simp only [Act.put, List.setIfInBounds_toArray, List.set_cons_zero, List.set_cons_succ]
          have Hq := hid_of (heap_alloc_new V10 z8O)
          replace HB := hid_of (FRow.bel HB.out (alb V10 z8O) (Nat.le_refl _))
          replace cT := (HBt.out _ HB.out).trans HC0.out
          generalize World.alloc V10 z8O = V14 at *
          generalize (World.heap V10).size = q14 at *
          refine wpAnyH_all (rs := [4]) (by kernel_rfl) (by simp) (fa1 ?_)
          · refine op_call (f := 97) (args := #[.string VL]) rfl rfl (by kernel_rfl) ((H2b.out _).mono ?_)
            rintro e V15 ⟨rfl, b15⟩
            refine ⟨_, rfl, trivial, ?_⟩
            try simp only [Act.put, List.setIfInBounds_toArray, List.set_cons_zero, List.set_cons_succ]
            replace cT := (HBt.out _ (FRow.bel HB.out b15 (Nat.le_refl _))).trans HC0.out
            replace Hq := hid_of ((b15.block _ (lt_of Hq.out)).trans Hq.out)
            replace HB := hid_of (FRow.bel HB.out b15 (Nat.le_refl _))
            clear b15
            refine wpAnyH_all (rs := [7]) (by kernel_rfl) (by simp) (fa1 ?_)
            obtain ⟨g, c9, V9, hr, ho, hgr⟩ := HAp.out _ _ HB.out Hq.out
            refine op_any rfl rfl ?_
            refine wp_app (.tmp 10) (.tmp 16) 23 hr rfl rfl (by kernel_rfl) (by kernel_rfl) ⟨trivial, ?_⟩
            try simp only [Act.put, List.setIfInBounds_toArray, List.set_cons_zero, List.set_cons_succ]
            obtain ⟨R, hS0, hlen⟩ := HSt.out _ _ _ _ HB.out hgr ho
            have S0 := hid_of hS0
            have HFin := hid_of fun (V : World) h => HEnd.out V g c9 R h hlen
            have hl9 := hlen.1
            clear hS0 hgr ho hr HB Hq cT HEnd
            refine wpAnyH_take (i := 8) (v := .pointer (some ⟨g, N * 4, none⟩)) rfl (by kernel_rfl) (by kernel_rfl) (by kernel_rfl) (fun _ _ _ h => h) (Or.inl ⟨by kernel_rfl, fun Wx _ => exec_index (i := N) (n := N + 2) (c := c9) rfl (by kernel_rfl) (by kernel_rfl) (by omega) rfl⟩) trivial ?_
            try simp only [Act.put, List.setIfInBounds_toArray, List.set_cons_zero, List.set_cons_succ]
            refine wpAnyH_all (rs := [9, 13]) (by kernel_rfl) (by simp) (fa2 ?_ ?_)
            · refine op_skip rfl rfl (exec_store4 (s1 := 18) (s2 := 12) (g := g) (off := N * 4) (s := NM) rfl (by kernel_rfl) (by kernel_rfl) S0.out.hg (by have := hlen.2.2.2; simp only [List.length_set, List.length_append, z8, List.length_cons, List.length_nil]; omega)) ⟨trivial, ?_⟩
              try simp only [Act.put, List.setIfInBounds_toArray, List.set_cons_zero, List.set_cons_succ]
              have S1 := hid_of (S0.out.put (N * 4) NM)
              refine wpAnyH_take (i := 11) (v := .pointer (some ⟨g, N * 4 + 4, none⟩)) rfl (by kernel_rfl) (by kernel_rfl) (by kernel_rfl) (fun _ _ _ h => h) (Or.inl ⟨by kernel_rfl, fun Wx _ => exec_index (i := N + 1) (n := N + 2) (c := c9) rfl (by kernel_rfl) (by kernel_rfl) (by omega) (by omega)⟩) trivial ?_
              try simp only [Act.put, List.setIfInBounds_toArray, List.set_cons_zero, List.set_cons_succ]
              refine wpAnyH_all (rs := [12, 13]) (by kernel_rfl) (by simp) (fa2 ?_ ?_)
              · refine op_skip rfl rfl (exec_store4 (s1 := 20) (s2 := 14) (g := g) (off := N * 4 + 4) (s := VL) rfl (by kernel_rfl) (by kernel_rfl) S1.out.hg (by have := hlen.2.2.2; simp only [List.length_set, List.length_append, z8, List.length_cons, List.length_nil]; omega)) ⟨trivial, ?_⟩
                try simp only [Act.put, List.setIfInBounds_toArray, List.set_cons_zero, List.set_cons_succ]
                have S2 := hid_of (S1.out.put (N * 4 + 4) VL)
                refine wpAnyH_all (rs := [13]) (by kernel_rfl) (by simp) (fa1 ?_)
                refine op_skip rfl rfl (exec_store1 (s1 := 3) (s2 := 17) (T := w.heap.size + 1) (x := some ⟨g, 0, none⟩) (n := N + 2) (c := c9) rfl (by kernel_rfl) (by kernel_rfl) S2.out.hT) ⟨trivial, ?_⟩
                try simp only [Act.put, List.setIfInBounds_toArray, List.set_cons_zero, List.set_cons_succ]
                have S3 := hid_of (S2.out.box (.slice (some ⟨g, 0, none⟩) (N + 2) c9))
                refine wpAnyH_done (by kernel_rfl) ?_ _
                exact HFin.out _ S3.out
              · refine op_skip rfl rfl (exec_store1 (s1 := 3) (s2 := 17) (T := w.heap.size + 1) (x := some ⟨g, 0, none⟩) (n := N + 2) (c := c9) rfl (by kernel_rfl) (by kernel_rfl) S1.out.hT) ⟨trivial, ?_⟩
                try simp only [Act.put, List.setIfInBounds_toArray, List.set_cons_zero, List.set_cons_succ]
                have S2 := hid_of (S1.out.box (.slice (some ⟨g, 0, none⟩) (N + 2) c9))
                refine wpAnyH_all (rs := [12]) (by kernel_rfl) (by simp) (fa1 ?_)
                refine op_skip rfl rfl (exec_store4 (s1 := 20) (s2 := 14) (g := g) (off := N * 4 + 4) (s := VL) rfl (by kernel_rfl) (by kernel_rfl) S2.out.hg (by have := hlen.2.2.2; simp only [List.length_set, List.length_append, z8, List.length_cons, List.length_nil]; omega)) ⟨trivial, ?_⟩
                try simp only [Act.put, List.setIfInBounds_toArray, List.set_cons_zero, List.set_cons_succ]
                have S3 := hid_of (S2.out.put (N * 4 + 4) VL)
                refine wpAnyH_done (by kernel_rfl) ?_ _
                exact HFin.out _ S3.out
            · refine op_skip rfl rfl (exec_store1 (s1 := 3) (s2 := 17) (T := w.heap.size + 1) (x := some ⟨g, 0, none⟩) (n := N + 2) (c := c9) rfl (by kernel_rfl) (by kernel_rfl) S0.out.hT) ⟨trivial, ?_⟩
              try simp only [Act.put, List.setIfInBounds_toArray, List.set_cons_zero, List.set_cons_succ]
              have S1 := hid_of (S0.out.box (.slice (some ⟨g, 0, none⟩) (N + 2) c9))
              refine wpAnyH_all (rs := [9]) (by kernel_rfl) (by simp) (fa1 ?_)
              refine op_skip rfl rfl (exec_store4 (s1 := 18) (s2 := 12) (g := g) (off := N * 4) (s := NM) rfl (by kernel_rfl) (by kernel_rfl) S1.out.hg (by have := hlen.2.2.2; simp only [List.length_set, List.length_append, z8, List.length_cons, List.length_nil]; omega)) ⟨trivial, ?_⟩
              try simp only [Act.put, List.setIfInBounds_toArray, List.set_cons_zero, List.set_cons_succ]
              have S2 := hid_of (S1.out.put (N * 4) NM)
              refine wpAnyH_take (i := 11) (v := .pointer (some ⟨g, N * 4 + 4, none⟩)) rfl (by kernel_rfl) (by kernel_rfl) (by kernel_rfl) (fun _ _ _ h => h) (Or.inl ⟨by kernel_rfl, fun Wx _ => exec_index (i := N + 1) (n := N + 2) (c := c9) rfl (by kernel_rfl) (by kernel_rfl) (by omega) (by omega)⟩) trivial ?_
              try simp only [Act.put, List.setIfInBounds_toArray, List.set_cons_zero, List.set_cons_succ]
              refine wpAnyH_all (rs := [12]) (by kernel_rfl) (by simp) (fa1 ?_)
              refine op_skip rfl rfl (exec_store4 (s1 := 20) (s2 := 14) (g := g) (off := N * 4 + 4) (s := VL) rfl (by kernel_rfl) (by kernel_rfl) S2.out.hg (by have := hlen.2.2.2; simp only [List.length_set, List.length_append, z8, List.length_cons, List.length_nil]; omega)) ⟨trivial, ?_⟩
              try simp only [Act.put, List.setIfInBounds_toArray, List.set_cons_zero, List.set_cons_succ]
              have S3 := hid_of (S2.out.put (N * 4 + 4) VL)
              refine wpAnyH_done (by kernel_rfl) ?_ _
              exact HFin.out _ S3.out
      · refine op_call (f := 97) (args := #[.string VL]) rfl rfl (by kernel_rfl) ((H2b.out _).mono ?_)
        rintro e V16 ⟨rfl, b16⟩
        refine ⟨_, rfl, trivial, ?_⟩
        try simp only [Act.put, List.setIfInBounds_toArray, List.set_cons_zero, List.set_cons_succ]
        replace cT := (HBt.out _ (FRow.bel HB.out b16 (Nat.le_refl _))).trans HC0.out
        replace HB := hid_of (FRow.bel HB.out b16 (Nat.le_refl _))
        clear b16
        refine wpAnyH_all (rs := [0, 6]) (by kernel_rfl) (by simp) (fa2 ?_ ?_)
        · refine op_value (v := .slice a N c) (w' := V16) rfl rfl (by go_simp) ⟨trivial, ?_⟩
          try simp only [Act.put, List.setIfInBounds_toArray, List.set_cons_zero, List.set_cons_succ]
          refine wpAnyH_take (i := 5) (v := .int .i64 (N : Int)) rfl (by kernel_rfl) (by kernel_rfl) (by kernel_rfl) (fun _ _ _ h => h) (Or.inl ⟨by kernel_rfl, fun Wx _ => by kernel_rfl⟩) trivial ?_
          try simp only [Act.put, List.setIfInBounds_toArray, List.set_cons_zero, List.set_cons_succ]
          refine wpAnyH_take (i := 10) (v := .int .i64 ((N : Int) + 1)) rfl (by kernel_rfl) (by kernel_rfl) (by kernel_rfl) (fun _ _ _ h => h) (Or.inl ⟨by kernel_rfl, fun Wx _ => by go_simp; exact IntWalk.i64_in _ ⟨by omega, by omega⟩⟩) trivial ?_
          try simp only [Act.put, List.setIfInBounds_toArray, List.set_cons_zero, List.set_cons_succ]
          refine wpAnyH_all (rs := [6]) (by kernel_rfl) (by simp) (fa1 ?_)
          · refine op_value (v := .slice (some ⟨World.heap V16 |>.size, 0, none⟩) 2 2) (w' := World.alloc V16 z8O) rfl rfl (by kernel_rfl) ⟨trivial, ?_⟩
            try simp only [Act.put, List.setIfInBounds_toArray, List.set_cons_zero, List.set_cons_succ]
            have Hq := hid_of (heap_alloc_new V16 z8O)
            replace HB := hid_of (FRow.bel HB.out (alb V16 z8O) (Nat.le_refl _))
            replace cT := (HBt.out _ HB.out).trans HC0.out
            generalize World.alloc V16 z8O = V18 at *
            generalize (World.heap V16).size = q18 at *
            refine wpAnyH_all (rs := [7]) (by kernel_rfl) (by simp) (fa1 ?_)
            obtain ⟨g, c9, V9, hr, ho, hgr⟩ := HAp.out _ _ HB.out Hq.out
            refine op_any rfl rfl ?_
            refine wp_app (.tmp 10) (.tmp 16) 23 hr rfl rfl (by kernel_rfl) (by kernel_rfl) ⟨trivial, ?_⟩
            try simp only [Act.put, List.setIfInBounds_toArray, List.set_cons_zero, List.set_cons_succ]
            obtain ⟨R, hS0, hlen⟩ := HSt.out _ _ _ _ HB.out hgr ho
            have S0 := hid_of hS0
            have HFin := hid_of fun (V : World) h => HEnd.out V g c9 R h hlen
            have hl9 := hlen.1
            clear hS0 hgr ho hr HB Hq cT HEnd
            refine wpAnyH_take (i := 8) (v := .pointer (some ⟨g, N * 4, none⟩)) rfl (by kernel_rfl) (by kernel_rfl) (by kernel_rfl) (fun _ _ _ h => h) (Or.inl ⟨by kernel_rfl, fun Wx _ => exec_index (i := N) (n := N + 2) (c := c9) rfl (by kernel_rfl) (by kernel_rfl) (by omega) rfl⟩) trivial ?_
            try simp only [Act.put, List.setIfInBounds_toArray, List.set_cons_zero, List.set_cons_succ]
            refine wpAnyH_all (rs := [9, 13]) (by kernel_rfl) (by simp) (fa2 ?_ ?_)
            · refine op_skip rfl rfl (exec_store4 (s1 := 18) (s2 := 12) (g := g) (off := N * 4) (s := NM) rfl (by kernel_rfl) (by kernel_rfl) S0.out.hg (by have := hlen.2.2.2; simp only [List.length_set, List.length_append, z8, List.length_cons, List.length_nil]; omega)) ⟨trivial, ?_⟩
              try simp only [Act.put, List.setIfInBounds_toArray, List.set_cons_zero, List.set_cons_succ]
              have S1 := hid_of (S0.out.put (N * 4) NM)
              refine wpAnyH_take (i := 11) (v := .pointer (some ⟨g, N * 4 + 4, none⟩)) rfl (by kernel_rfl) (by kernel_rfl) (by kernel_rfl) (fun _ _ _ h => h) (Or.inl ⟨by kernel_rfl, fun Wx _ => exec_index (i := N + 1) (n := N + 2) (c := c9) rfl (by kernel_rfl) (by kernel_rfl) (by omega) (by omega)⟩) trivial ?_
              try simp only [Act.put, List.setIfInBounds_toArray, List.set_cons_zero, List.set_cons_succ]
              refine wpAnyH_all (rs := [12, 13]) (by kernel_rfl) (by simp) (fa2 ?_ ?_)
              · refine op_skip rfl rfl (exec_store4 (s1 := 20) (s2 := 14) (g := g) (off := N * 4 + 4) (s := VL) rfl (by kernel_rfl) (by kernel_rfl) S1.out.hg (by have := hlen.2.2.2; simp only [List.length_set, List.length_append, z8, List.length_cons, List.length_nil]; omega)) ⟨trivial, ?_⟩
                try simp only [Act.put, List.setIfInBounds_toArray, List.set_cons_zero, List.set_cons_succ]
                have S2 := hid_of (S1.out.put (N * 4 + 4) VL)
                refine wpAnyH_all (rs := [13]) (by kernel_rfl) (by simp) (fa1 ?_)
                refine op_skip rfl rfl (exec_store1 (s1 := 3) (s2 := 17) (T := w.heap.size + 1) (x := some ⟨g, 0, none⟩) (n := N + 2) (c := c9) rfl (by kernel_rfl) (by kernel_rfl) S2.out.hT) ⟨trivial, ?_⟩
                try simp only [Act.put, List.setIfInBounds_toArray, List.set_cons_zero, List.set_cons_succ]
                have S3 := hid_of (S2.out.box (.slice (some ⟨g, 0, none⟩) (N + 2) c9))
                refine wpAnyH_done (by kernel_rfl) ?_ _
                exact HFin.out _ S3.out
              · refine op_skip rfl rfl (exec_store1 (s1 := 3) (s2 := 17) (T := w.heap.size + 1) (x := some ⟨g, 0, none⟩) (n := N + 2) (c := c9) rfl (by kernel_rfl) (by kernel_rfl) S1.out.hT) ⟨trivial, ?_⟩
                try simp only [Act.put, List.setIfInBounds_toArray, List.set_cons_zero, List.set_cons_succ]
                have S2 := hid_of (S1.out.box (.slice (some ⟨g, 0, none⟩) (N + 2) c9))
                refine wpAnyH_all (rs := [12]) (by kernel_rfl) (by simp) (fa1 ?_)
                refine op_skip rfl rfl (exec_store4 (s1 := 20) (s2 := 14) (g := g) (off := N * 4 + 4) (s := VL) rfl (by kernel_rfl) (by kernel_rfl) S2.out.hg (by have := hlen.2.2.2; simp only [List.length_set, List.length_append, z8, List.length_cons, List.length_nil]; omega)) ⟨trivial, ?_⟩
                try simp only [Act.put, List.setIfInBounds_toArray, List.set_cons_zero, List.set_cons_succ]
                have S3 := hid_of (S2.out.put (N * 4 + 4) VL)
                refine wpAnyH_done (by kernel_rfl) ?_ _
                exact HFin.out _ S3.out
            · refine op_skip rfl rfl (exec_store1 (s1 := 3) (s2 := 17) (T := w.heap.size + 1) (x := some ⟨g, 0, none⟩) (n := N + 2) (c := c9) rfl (by kernel_rfl) (by kernel_rfl) S0.out.hT) ⟨trivial, ?_⟩
              try simp only [Act.put, List.setIfInBounds_toArray, List.set_cons_zero, List.set_cons_succ]
              have S1 := hid_of (S0.out.box (.slice (some ⟨g, 0, none⟩) (N + 2) c9))
              refine wpAnyH_all (rs := [9]) (by kernel_rfl) (by simp) (fa1 ?_)
              refine op_skip rfl rfl (exec_store4 (s1 := 18) (s2 := 12) (g := g) (off := N * 4) (s := NM) rfl (by kernel_rfl) (by kernel_rfl) S1.out.hg (by have := hlen.2.2.2; simp only [List.length_set, List.length_append, z8, List.length_cons, List.length_nil]; omega)) ⟨trivial, ?_⟩
              try simp only [Act.put, List.setIfInBounds_toArray, List.set_cons_zero, List.set_cons_succ]
              have S2 := hid_of (S1.out.put (N * 4) NM)
              refine wpAnyH_take (i := 11) (v := .pointer (some ⟨g, N * 4 + 4, none⟩)) rfl (by kernel_rfl) (by kernel_rfl) (by kernel_rfl) (fun _ _ _ h => h) (Or.inl ⟨by kernel_rfl, fun Wx _ => exec_index (i := N + 1) (n := N + 2) (c := c9) rfl (by kernel_rfl) (by kernel_rfl) (by omega) (by omega)⟩) trivial ?_
              try simp only [Act.put, List.setIfInBounds_toArray, List.set_cons_zero, List.set_cons_succ]
              refine wpAnyH_all (rs := [12]) (by kernel_rfl) (by simp) (fa1 ?_)
              refine op_skip rfl rfl (exec_store4 (s1 := 20) (s2 := 14) (g := g) (off := N * 4 + 4) (s := VL) rfl (by kernel_rfl) (by kernel_rfl) S2.out.hg (by have := hlen.2.2.2; simp only [List.length_set, List.length_append, z8, List.length_cons, List.length_nil]; omega)) ⟨trivial, ?_⟩
              try simp only [Act.put, List.setIfInBounds_toArray, List.set_cons_zero, List.set_cons_succ]
              have S3 := hid_of (S2.out.put (N * 4 + 4) VL)
              refine wpAnyH_done (by kernel_rfl) ?_ _
              exact HFin.out _ S3.out
        · refine op_value (v := .slice (some ⟨World.heap V16 |>.size, 0, none⟩) 2 2) (w' := World.alloc V16 z8O) rfl rfl (by kernel_rfl) ⟨trivial, ?_⟩
          try simp only [Act.put, List.setIfInBounds_toArray, List.set_cons_zero, List.set_cons_succ]
          have Hq := hid_of (heap_alloc_new V16 z8O)
          replace HB := hid_of (FRow.bel HB.out (alb V16 z8O) (Nat.le_refl _))
          replace cT := (HBt.out _ HB.out).trans HC0.out
          generalize World.alloc V16 z8O = V19 at *
          generalize (World.heap V16).size = q19 at *
          refine wpAnyH_all (rs := [0]) (by kernel_rfl) (by simp) (fa1 ?_)
          · refine op_value (v := .slice a N c) (w' := V19) rfl rfl (by go_simp) ⟨trivial, ?_⟩
            try simp only [Act.put, List.setIfInBounds_toArray, List.set_cons_zero, List.set_cons_succ]
            refine wpAnyH_take (i := 5) (v := .int .i64 (N : Int)) rfl (by kernel_rfl) (by kernel_rfl) (by kernel_rfl) (fun _ _ _ h => h) (Or.inl ⟨by kernel_rfl, fun Wx _ => by kernel_rfl⟩) trivial ?_
            try simp only [Act.put, List.setIfInBounds_toArray, List.set_cons_zero, List.set_cons_succ]
            refine wpAnyH_take (i := 10) (v := .int .i64 ((N : Int) + 1)) rfl (by kernel_rfl) (by kernel_rfl) (by kernel_rfl) (fun _ _ _ h => h) (Or.inl ⟨by kernel_rfl, fun Wx _ => by go_simp; exact IntWalk.i64_in _ ⟨by omega, by omega⟩⟩) trivial ?_
            try simp only [Act.put, List.setIfInBounds_toArray, List.set_cons_zero, List.set_cons_succ]
            refine wpAnyH_all (rs := [7]) (by kernel_rfl) (by simp) (fa1 ?_)
            obtain ⟨g, c9, V9, hr, ho, hgr⟩ := HAp.out _ _ HB.out Hq.out
            refine op_any rfl rfl ?_
            refine wp_app (.tmp 10) (.tmp 16) 23 hr rfl rfl (by kernel_rfl) (by kernel_rfl) ⟨trivial, ?_⟩
            try simp only [Act.put, List.setIfInBounds_toArray, List.set_cons_zero, List.set_cons_succ]
            obtain ⟨R, hS0, hlen⟩ := HSt.out _ _ _ _ HB.out hgr ho
            have S0 := hid_of hS0
            have HFin := hid_of fun (V : World) h => HEnd.out V g c9 R h hlen
            have hl9 := hlen.1
            clear hS0 hgr ho hr HB Hq cT HEnd
            refine wpAnyH_take (i := 8) (v := .pointer (some ⟨g, N * 4, none⟩)) rfl (by kernel_rfl) (by kernel_rfl) (by kernel_rfl) (fun _ _ _ h => h) (Or.inl ⟨by kernel_rfl, fun Wx _ => exec_index (i := N) (n := N + 2) (c := c9) rfl (by kernel_rfl) (by kernel_rfl) (by omega) rfl⟩) trivial ?_
            try simp only [Act.put, List.setIfInBounds_toArray, List.set_cons_zero, List.set_cons_succ]
            refine wpAnyH_all (rs := [9, 13]) (by kernel_rfl) (by simp) (fa2 ?_ ?_)
            · refine op_skip rfl rfl (exec_store4 (s1 := 18) (s2 := 12) (g := g) (off := N * 4) (s := NM) rfl (by kernel_rfl) (by kernel_rfl) S0.out.hg (by have := hlen.2.2.2; simp only [List.length_set, List.length_append, z8, List.length_cons, List.length_nil]; omega)) ⟨trivial, ?_⟩
              try simp only [Act.put, List.setIfInBounds_toArray, List.set_cons_zero, List.set_cons_succ]
              have S1 := hid_of (S0.out.put (N * 4) NM)
              refine wpAnyH_take (i := 11) (v := .pointer (some ⟨g, N * 4 + 4, none⟩)) rfl (by kernel_rfl) (by kernel_rfl) (by kernel_rfl) (fun _ _ _ h => h) (Or.inl ⟨by kernel_rfl, fun Wx _ => exec_index (i := N + 1) (n := N + 2) (c := c9) rfl (by kernel_rfl) (by kernel_rfl) (by omega) (by omega)⟩) trivial ?_
              try simp only [Act.put, List.setIfInBounds_toArray, List.set_cons_zero, List.set_cons_succ]
              refine wpAnyH_all (rs := [12, 13]) (by kernel_rfl) (by simp) (fa2 ?_ ?_)
              · refine op_skip rfl rfl (exec_store4 (s1 := 20) (s2 := 14) (g := g) (off := N * 4 + 4) (s := VL) rfl (by kernel_rfl) (by kernel_rfl) S1.out.hg (by have := hlen.2.2.2; simp only [List.length_set, List.length_append, z8, List.length_cons, List.length_nil]; omega)) ⟨trivial, ?_⟩
                try simp only [Act.put, List.setIfInBounds_toArray, List.set_cons_zero, List.set_cons_succ]
                have S2 := hid_of (S1.out.put (N * 4 + 4) VL)
                refine wpAnyH_all (rs := [13]) (by kernel_rfl) (by simp) (fa1 ?_)
                refine op_skip rfl rfl (exec_store1 (s1 := 3) (s2 := 17) (T := w.heap.size + 1) (x := some ⟨g, 0, none⟩) (n := N + 2) (c := c9) rfl (by kernel_rfl) (by kernel_rfl) S2.out.hT) ⟨trivial, ?_⟩
                try simp only [Act.put, List.setIfInBounds_toArray, List.set_cons_zero, List.set_cons_succ]
                have S3 := hid_of (S2.out.box (.slice (some ⟨g, 0, none⟩) (N + 2) c9))
                refine wpAnyH_done (by kernel_rfl) ?_ _
                exact HFin.out _ S3.out
              · refine op_skip rfl rfl (exec_store1 (s1 := 3) (s2 := 17) (T := w.heap.size + 1) (x := some ⟨g, 0, none⟩) (n := N + 2) (c := c9) rfl (by kernel_rfl) (by kernel_rfl) S1.out.hT) ⟨trivial, ?_⟩
                try simp only [Act.put, List.setIfInBounds_toArray, List.set_cons_zero, List.set_cons_succ]
                have S2 := hid_of (S1.out.box (.slice (some ⟨g, 0, none⟩) (N + 2) c9))
                refine wpAnyH_all (rs := [12]) (by kernel_rfl) (by simp) (fa1 ?_)
                refine op_skip rfl rfl (exec_store4 (s1 := 20) (s2 := 14) (g := g) (off := N * 4 + 4) (s := VL) rfl (by kernel_rfl) (by kernel_rfl) S2.out.hg (by have := hlen.2.2.2; simp only [List.length_set, List.length_append, z8, List.length_cons, List.length_nil]; omega)) ⟨trivial, ?_⟩
                try simp only [Act.put, List.setIfInBounds_toArray, List.set_cons_zero, List.set_cons_succ]
                have S3 := hid_of (S2.out.put (N * 4 + 4) VL)
                refine wpAnyH_done (by kernel_rfl) ?_ _
                exact HFin.out _ S3.out
            · refine op_skip rfl rfl (exec_store1 (s1 := 3) (s2 := 17) (T := w.heap.size + 1) (x := some ⟨g, 0, none⟩) (n := N + 2) (c := c9) rfl (by kernel_rfl) (by kernel_rfl) S0.out.hT) ⟨trivial, ?_⟩
              try simp only [Act.put, List.setIfInBounds_toArray, List.set_cons_zero, List.set_cons_succ]
              have S1 := hid_of (S0.out.box (.slice (some ⟨g, 0, none⟩) (N + 2) c9))
              refine wpAnyH_all (rs := [9]) (by kernel_rfl) (by simp) (fa1 ?_)
              refine op_skip rfl rfl (exec_store4 (s1 := 18) (s2 := 12) (g := g) (off := N * 4) (s := NM) rfl (by kernel_rfl) (by kernel_rfl) S1.out.hg (by have := hlen.2.2.2; simp only [List.length_set, List.length_append, z8, List.length_cons, List.length_nil]; omega)) ⟨trivial, ?_⟩
              try simp only [Act.put, List.setIfInBounds_toArray, List.set_cons_zero, List.set_cons_succ]
              have S2 := hid_of (S1.out.put (N * 4) NM)
              refine wpAnyH_take (i := 11) (v := .pointer (some ⟨g, N * 4 + 4, none⟩)) rfl (by kernel_rfl) (by kernel_rfl) (by kernel_rfl) (fun _ _ _ h => h) (Or.inl ⟨by kernel_rfl, fun Wx _ => exec_index (i := N + 1) (n := N + 2) (c := c9) rfl (by kernel_rfl) (by kernel_rfl) (by omega) (by omega)⟩) trivial ?_
              try simp only [Act.put, List.setIfInBounds_toArray, List.set_cons_zero, List.set_cons_succ]
              refine wpAnyH_all (rs := [12]) (by kernel_rfl) (by simp) (fa1 ?_)
              refine op_skip rfl rfl (exec_store4 (s1 := 20) (s2 := 14) (g := g) (off := N * 4 + 4) (s := VL) rfl (by kernel_rfl) (by kernel_rfl) S2.out.hg (by have := hlen.2.2.2; simp only [List.length_set, List.length_append, z8, List.length_cons, List.length_nil]; omega)) ⟨trivial, ?_⟩
              try simp only [Act.put, List.setIfInBounds_toArray, List.set_cons_zero, List.set_cons_succ]
              have S3 := hid_of (S2.out.put (N * 4 + 4) VL)
              refine wpAnyH_done (by kernel_rfl) ?_ _
              exact HFin.out _ S3.out
      · refine op_value (v := .slice (some ⟨World.heap V10 |>.size, 0, none⟩) 2 2) (w' := World.alloc V10 z8O) rfl rfl (by kernel_rfl) ⟨trivial, ?_⟩
        try simp only [Act.put, List.setIfInBounds_toArray, List.set_cons_zero, List.set_cons_succ]
        have Hq := hid_of (heap_alloc_new V10 z8O)
        replace HB := hid_of (FRow.bel HB.out (alb V10 z8O) (Nat.le_refl _))
        replace cT := (HBt.out _ HB.out).trans HC0.out
        generalize World.alloc V10 z8O = V21 at *
        generalize (World.heap V10).size = q21 at *
        refine wpAnyH_all (rs := [0, 4]) (by kernel_rfl) (by simp) (fa2 ?_ ?_)
        · refine op_value (v := .slice a N c) (w' := V21) rfl rfl (by go_simp) ⟨trivial, ?_⟩
          try simp only [Act.put, List.setIfInBounds_toArray, List.set_cons_zero, List.set_cons_succ]
          refine wpAnyH_take (i := 5) (v := .int .i64 (N : Int)) rfl (by kernel_rfl) (by kernel_rfl) (by kernel_rfl) (fun _ _ _ h => h) (Or.inl ⟨by kernel_rfl, fun Wx _ => by kernel_rfl⟩) trivial ?_
          try simp only [Act.put, List.setIfInBounds_toArray, List.set_cons_zero, List.set_cons_succ]
          refine wpAnyH_take (i := 10) (v := .int .i64 ((N : Int) + 1)) rfl (by kernel_rfl) (by kernel_rfl) (by kernel_rfl) (fun _ _ _ h => h) (Or.inl ⟨by kernel_rfl, fun Wx _ => by go_simp; exact IntWalk.i64_in _ ⟨by omega, by omega⟩⟩) trivial ?_
          try simp only [Act.put, List.setIfInBounds_toArray, List.set_cons_zero, List.set_cons_succ]
          refine wpAnyH_all (rs := [4]) (by kernel_rfl) (by simp) (fa1 ?_)
          · refine op_call (f := 97) (args := #[.string VL]) rfl rfl (by kernel_rfl) ((H2b.out _).mono ?_)
            rintro e V23 ⟨rfl, b23⟩
            refine ⟨_, rfl, trivial, ?_⟩
            try simp only [Act.put, List.setIfInBounds_toArray, List.set_cons_zero, List.set_cons_succ]
            replace cT := (HBt.out _ (FRow.bel HB.out b23 (Nat.le_refl _))).trans HC0.out
            replace Hq := hid_of ((b23.block _ (lt_of Hq.out)).trans Hq.out)
            replace HB := hid_of (FRow.bel HB.out b23 (Nat.le_refl _))
            clear b23
            refine wpAnyH_all (rs := [7]) (by kernel_rfl) (by simp) (fa1 ?_)
            obtain ⟨g, c9, V9, hr, ho, hgr⟩ := HAp.out _ _ HB.out Hq.out
            refine op_any rfl rfl ?_
            refine wp_app (.tmp 10) (.tmp 16) 23 hr rfl rfl (by kernel_rfl) (by kernel_rfl) ⟨trivial, ?_⟩
            try simp only [Act.put, List.setIfInBounds_toArray, List.set_cons_zero, List.set_cons_succ]
            obtain ⟨R, hS0, hlen⟩ := HSt.out _ _ _ _ HB.out hgr ho
            have S0 := hid_of hS0
            have HFin := hid_of fun (V : World) h => HEnd.out V g c9 R h hlen
            have hl9 := hlen.1
            clear hS0 hgr ho hr HB Hq cT HEnd
            refine wpAnyH_take (i := 8) (v := .pointer (some ⟨g, N * 4, none⟩)) rfl (by kernel_rfl) (by kernel_rfl) (by kernel_rfl) (fun _ _ _ h => h) (Or.inl ⟨by kernel_rfl, fun Wx _ => exec_index (i := N) (n := N + 2) (c := c9) rfl (by kernel_rfl) (by kernel_rfl) (by omega) rfl⟩) trivial ?_
            try simp only [Act.put, List.setIfInBounds_toArray, List.set_cons_zero, List.set_cons_succ]
            refine wpAnyH_all (rs := [9, 13]) (by kernel_rfl) (by simp) (fa2 ?_ ?_)
            · refine op_skip rfl rfl (exec_store4 (s1 := 18) (s2 := 12) (g := g) (off := N * 4) (s := NM) rfl (by kernel_rfl) (by kernel_rfl) S0.out.hg (by have := hlen.2.2.2; simp only [List.length_set, List.length_append, z8, List.length_cons, List.length_nil]; omega)) ⟨trivial, ?_⟩
              try simp only [Act.put, List.setIfInBounds_toArray, List.set_cons_zero, List.set_cons_succ]
              have S1 := hid_of (S0.out.put (N * 4) NM)
              refine wpAnyH_take (i := 11) (v := .pointer (some ⟨g, N * 4 + 4, none⟩)) rfl (by kernel_rfl) (by kernel_rfl) (by kernel_rfl) (fun _ _ _ h => h) (Or.inl ⟨by kernel_rfl, fun Wx _ => exec_index (i := N + 1) (n := N + 2) (c := c9) rfl (by kernel_rfl) (by kernel_rfl) (by omega) (by omega)⟩) trivial ?_
              try simp only [Act.put, List.setIfInBounds_toArray, List.set_cons_zero, List.set_cons_succ]
              refine wpAnyH_all (rs := [12, 13]) (by kernel_rfl) (by simp) (fa2 ?_ ?_)
              · refine op_skip rfl rfl (exec_store4 (s1 := 20) (s2 := 14) (g := g) (off := N * 4 + 4) (s := VL) rfl (by kernel_rfl) (by kernel_rfl) S1.out.hg (by have := hlen.2.2.2; simp only [List.length_set, List.length_append, z8, List.length_cons, List.length_nil]; omega)) ⟨trivial, ?_⟩
                try simp only [Act.put, List.setIfInBounds_toArray, List.set_cons_zero, List.set_cons_succ]
                have S2 := hid_of (S1.out.put (N * 4 + 4) VL)
                refine wpAnyH_all (rs := [13]) (by kernel_rfl) (by simp) (fa1 ?_)
                refine op_skip rfl rfl (exec_store1 (s1 := 3) (s2 := 17) (T := w.heap.size + 1) (x := some ⟨g, 0, none⟩) (n := N + 2) (c := c9) rfl (by kernel_rfl) (by kernel_rfl) S2.out.hT) ⟨trivial, ?_⟩
                try simp only [Act.put, List.setIfInBounds_toArray, List.set_cons_zero, List.set_cons_succ]
                have S3 := hid_of (S2.out.box (.slice (some ⟨g, 0, none⟩) (N + 2) c9))
                refine wpAnyH_done (by kernel_rfl) ?_ _
                exact HFin.out _ S3.out
              · refine op_skip rfl rfl (exec_store1 (s1 := 3) (s2 := 17) (T := w.heap.size + 1) (x := some ⟨g, 0, none⟩) (n := N + 2) (c := c9) rfl (by kernel_rfl) (by kernel_rfl) S1.out.hT) ⟨trivial, ?_⟩
                try simp only [Act.put, List.setIfInBounds_toArray, List.set_cons_zero, List.set_cons_succ]
                have S2 := hid_of (S1.out.box (.slice (some ⟨g, 0, none⟩) (N + 2) c9))
                refine wpAnyH_all (rs := [12]) (by kernel_rfl) (by simp) (fa1 ?_)
                refine op_skip rfl rfl (exec_store4 (s1 := 20) (s2 := 14) (g := g) (off := N * 4 + 4) (s := VL) rfl (by kernel_rfl) (by kernel_rfl) S2.out.hg (by have := hlen.2.2.2; simp only [List.length_set, List.length_append, z8, List.length_cons, List.length_nil]; omega)) ⟨trivial, ?_⟩
                try simp only [Act.put, List.setIfInBounds_toArray, List.set_cons_zero, List.set_cons_succ]
                have S3 := hid_of (S2.out.put (N * 4 + 4) VL)
                refine wpAnyH_done (by kernel_rfl) ?_ _
                exact HFin.out _ S3.out
            · refine op_skip rfl rfl (exec_store1 (s1 := 3) (s2 := 17) (T := w.heap.size + 1) (x := some ⟨g, 0, none⟩) (n := N + 2) (c := c9) rfl (by kernel_rfl) (by kernel_rfl) S0.out.hT) ⟨trivial, ?_⟩
              try simp only [Act.put, List.setIfInBounds_toArray, List.set_cons_zero, List.set_cons_succ]
              have S1 := hid_of (S0.out.box (.slice (some ⟨g, 0, none⟩) (N + 2) c9))
              refine wpAnyH_all (rs := [9]) (by kernel_rfl) (by simp) (fa1 ?_)
              refine op_skip rfl rfl (exec_store4 (s1 := 18) (s2 := 12) (g := g) (off := N * 4) (s := NM) rfl (by kernel_rfl) (by kernel_rfl) S1.out.hg (by have := hlen.2.2.2; simp only [List.length_set, List.length_append, z8, List.length_cons, List.length_nil]; omega)) ⟨trivial, ?_⟩
              try simp only [Act.put, List.setIfInBounds_toArray, List.set_cons_zero, List.set_cons_succ]
              have S2 := hid_of (S1.out.put (N * 4) NM)
              refine wpAnyH_take (i := 11) (v := .pointer (some ⟨g, N * 4 + 4, none⟩)) rfl (by kernel_rfl) (by kernel_rfl) (by kernel_rfl) (fun _ _ _ h => h) (Or.inl ⟨by kernel_rfl, fun Wx _ => exec_index (i := N + 1) (n := N + 2) (c := c9) rfl (by kernel_rfl) (by kernel_rfl) (by omega) (by omega)⟩) trivial ?_
              try simp only [Act.put, List.setIfInBounds_toArray, List.set_cons_zero, List.set_cons_succ]
              refine wpAnyH_all (rs := [12]) (by kernel_rfl) (by simp) (fa1 ?_)
              refine op_skip rfl rfl (exec_store4 (s1 := 20) (s2 := 14) (g := g) (off := N * 4 + 4) (s := VL) rfl (by kernel_rfl) (by kernel_rfl) S2.out.hg (by have := hlen.2.2.2; simp only [List.length_set, List.length_append, z8, List.length_cons, List.length_nil]; omega)) ⟨trivial, ?_⟩
              try simp only [Act.put, List.setIfInBounds_toArray, List.set_cons_zero, List.set_cons_succ]
              have S3 := hid_of (S2.out.put (N * 4 + 4) VL)
              refine wpAnyH_done (by kernel_rfl) ?_ _
              exact HFin.out _ S3.out
        · refine op_call (f := 97) (args := #[.string VL]) rfl rfl (by kernel_rfl) ((H2b.out _).mono ?_)
          rintro e V24 ⟨rfl, b24⟩
          refine ⟨_, rfl, trivial, ?_⟩
          try simp only [Act.put, List.setIfInBounds_toArray, List.set_cons_zero, List.set_cons_succ]
          replace cT := (HBt.out _ (FRow.bel HB.out b24 (Nat.le_refl _))).trans HC0.out
          replace Hq := hid_of ((b24.block _ (lt_of Hq.out)).trans Hq.out)
          replace HB := hid_of (FRow.bel HB.out b24 (Nat.le_refl _))
          clear b24
          refine wpAnyH_all (rs := [0]) (by kernel_rfl) (by simp) (fa1 ?_)
          · refine op_value (v := .slice a N c) (w' := V24) rfl rfl (by go_simp) ⟨trivial, ?_⟩
            try simp only [Act.put, List.setIfInBounds_toArray, List.set_cons_zero, List.set_cons_succ]
            refine wpAnyH_take (i := 5) (v := .int .i64 (N : Int)) rfl (by kernel_rfl) (by kernel_rfl) (by kernel_rfl) (fun _ _ _ h => h) (Or.inl ⟨by kernel_rfl, fun Wx _ => by kernel_rfl⟩) trivial ?_
            try simp only [Act.put, List.setIfInBounds_toArray, List.set_cons_zero, List.set_cons_succ]
            refine wpAnyH_take (i := 10) (v := .int .i64 ((N : Int) + 1)) rfl (by kernel_rfl) (by kernel_rfl) (by kernel_rfl) (fun _ _ _ h => h) (Or.inl ⟨by kernel_rfl, fun Wx _ => by go_simp; exact IntWalk.i64_in _ ⟨by omega, by omega⟩⟩) trivial ?_
            try simp only [Act.put, List.setIfInBounds_toArray, List.set_cons_zero, List.set_cons_succ]
            refine wpAnyH_all (rs := [7]) (by kernel_rfl) (by simp) (fa1 ?_)
            obtain ⟨g, c9, V9, hr, ho, hgr⟩ := HAp.out _ _ HB.out Hq.out
            refine op_any rfl rfl ?_
            refine wp_app (.tmp 10) (.tmp 16) 23 hr rfl rfl (by kernel_rfl) (by kernel_rfl) ⟨trivial, ?_⟩
            try simp only [Act.put, List.setIfInBounds_toArray, List.set_cons_zero, List.set_cons_succ]
            obtain ⟨R, hS0, hlen⟩ := HSt.out _ _ _ _ HB.out hgr ho
            have S0 := hid_of hS0
            have HFin := hid_of fun (V : World) h => HEnd.out V g c9 R h hlen
            have hl9 := hlen.1
            clear hS0 hgr ho hr HB Hq cT HEnd
            refine wpAnyH_take (i := 8) (v := .pointer (some ⟨g, N * 4, none⟩)) rfl (by kernel_rfl) (by kernel_rfl) (by kernel_rfl) (fun _ _ _ h => h) (Or.inl ⟨by kernel_rfl, fun Wx _ => exec_index (i := N) (n := N + 2) (c := c9) rfl (by kernel_rfl) (by kernel_rfl) (by omega) rfl⟩) trivial ?_
            try simp only [Act.put, List.setIfInBounds_toArray, List.set_cons_zero, List.set_cons_succ]
            refine wpAnyH_all (rs := [9, 13]) (by kernel_rfl) (by simp) (fa2 ?_ ?_)
            · refine op_skip rfl rfl (exec_store4 (s1 := 18) (s2 := 12) (g := g) (off := N * 4) (s := NM) rfl (by kernel_rfl) (by kernel_rfl) S0.out.hg (by have := hlen.2.2.2; simp only [List.length_set, List.length_append, z8, List.length_cons, List.length_nil]; omega)) ⟨trivial, ?_⟩
              try simp only [Act.put, List.setIfInBounds_toArray, List.set_cons_zero, List.set_cons_succ]
              have S1 := hid_of (S0.out.put (N * 4) NM)
              refine wpAnyH_take (i := 11) (v := .pointer (some ⟨g, N * 4 + 4, none⟩)) rfl (by kernel_rfl) (by kernel_rfl) (by kernel_rfl) (fun _ _ _ h => h) (Or.inl ⟨by kernel_rfl, fun Wx _ => exec_index (i := N + 1) (n := N + 2) (c := c9) rfl (by kernel_rfl) (by kernel_rfl) (by omega) (by omega)⟩) trivial ?_
              try simp only [Act.put, List.setIfInBounds_toArray, List.set_cons_zero, List.set_cons_succ]
              refine wpAnyH_all (rs := [12, 13]) (by kernel_rfl) (by simp) (fa2 ?_ ?_)
              · refine op_skip rfl rfl (exec_store4 (s1 := 20) (s2 := 14) (g := g) (off := N * 4 + 4) (s := VL) rfl (by kernel_rfl) (by kernel_rfl) S1.out.hg (by have := hlen.2.2.2; simp only [List.length_set, List.length_append, z8, List.length_cons, List.length_nil]; omega)) ⟨trivial, ?_⟩
                try simp only [Act.put, List.setIfInBounds_toArray, List.set_cons_zero, List.set_cons_succ]
                have S2 := hid_of (S1.out.put (N * 4 + 4) VL)
                refine wpAnyH_all (rs := [13]) (by kernel_rfl) (by simp) (fa1 ?_)
                refine op_skip rfl rfl (exec_store1 (s1 := 3) (s2 := 17) (T := w.heap.size + 1) (x := some ⟨g, 0, none⟩) (n := N + 2) (c := c9) rfl (by kernel_rfl) (by kernel_rfl) S2.out.hT) ⟨trivial, ?_⟩
                try simp only [Act.put, List.setIfInBounds_toArray, List.set_cons_zero, List.set_cons_succ]
                have S3 := hid_of (S2.out.box (.slice (some ⟨g, 0, none⟩) (N + 2) c9))
                refine wpAnyH_done (by kernel_rfl) ?_ _
                exact HFin.out _ S3.out
              · refine op_skip rfl rfl (exec_store1 (s1 := 3) (s2 := 17) (T := w.heap.size + 1) (x := some ⟨g, 0, none⟩) (n := N + 2) (c := c9) rfl (by kernel_rfl) (by kernel_rfl) S1.out.hT) ⟨trivial, ?_⟩
                try simp only [Act.put, List.setIfInBounds_toArray, List.set_cons_zero, List.set_cons_succ]
                have S2 := hid_of (S1.out.box (.slice (some ⟨g, 0, none⟩) (N + 2) c9))
                refine wpAnyH_all (rs := [12]) (by kernel_rfl) (by simp) (fa1 ?_)
                refine op_skip rfl rfl (exec_store4 (s1 := 20) (s2 := 14) (g := g) (off := N * 4 + 4) (s := VL) rfl (by kernel_rfl) (by kernel_rfl) S2.out.hg (by have := hlen.2.2.2; simp only [List.length_set, List.length_append, z8, List.length_cons, List.length_nil]; omega)) ⟨trivial, ?_⟩
                try simp only [Act.put, List.setIfInBounds_toArray, List.set_cons_zero, List.set_cons_succ]
                have S3 := hid_of (S2.out.put (N * 4 + 4) VL)
                refine wpAnyH_done (by kernel_rfl) ?_ _
                exact HFin.out _ S3.out
            · refine op_skip rfl rfl (exec_store1 (s1 := 3) (s2 := 17) (T := w.heap.size + 1) (x := some ⟨g, 0, none⟩) (n := N + 2) (c := c9) rfl (by kernel_rfl) (by kernel_rfl) S0.out.hT) ⟨trivial, ?_⟩
              try simp only [Act.put, List.setIfInBounds_toArray, List.set_cons_zero, List.set_cons_succ]
              have S1 := hid_of (S0.out.box (.slice (some ⟨g, 0, none⟩) (N + 2) c9))
              refine wpAnyH_all (rs := [9]) (by kernel_rfl) (by simp) (fa1 ?_)
              refine op_skip rfl rfl (exec_store4 (s1 := 18) (s2 := 12) (g := g) (off := N * 4) (s := NM) rfl (by kernel_rfl) (by kernel_rfl) S1.out.hg (by have := hlen.2.2.2; simp only [List.length_set, List.length_append, z8, List.length_cons, List.length_nil]; omega)) ⟨trivial, ?_⟩
              try simp only [Act.put, List.setIfInBounds_toArray, List.set_cons_zero, List.set_cons_succ]
              have S2 := hid_of (S1.out.put (N * 4) NM)
              refine wpAnyH_take (i := 11) (v := .pointer (some ⟨g, N * 4 + 4, none⟩)) rfl (by kernel_rfl) (by kernel_rfl) (by kernel_rfl) (fun _ _ _ h => h) (Or.inl ⟨by kernel_rfl, fun Wx _ => exec_index (i := N + 1) (n := N + 2) (c := c9) rfl (by kernel_rfl) (by kernel_rfl) (by omega) (by omega)⟩) trivial ?_
              try simp only [Act.put, List.setIfInBounds_toArray, List.set_cons_zero, List.set_cons_succ]
              refine wpAnyH_all (rs := [12]) (by kernel_rfl) (by simp) (fa1 ?_)
              refine op_skip rfl rfl (exec_store4 (s1 := 20) (s2 := 14) (g := g) (off := N * 4 + 4) (s := VL) rfl (by kernel_rfl) (by kernel_rfl) S2.out.hg (by have := hlen.2.2.2; simp only [List.length_set, List.length_append, z8, List.length_cons, List.length_nil]; omega)) ⟨trivial, ?_⟩
              try simp only [Act.put, List.setIfInBounds_toArray, List.set_cons_zero, List.set_cons_succ]
              have S3 := hid_of (S2.out.put (N * 4 + 4) VL)
              refine wpAnyH_done (by kernel_rfl) ?_ _
              exact HFin.out _ S3.out
    · refine op_value (v := .slice (some ⟨World.heap W.drew |>.size, 0, none⟩) 2 2) (w' := World.alloc W.drew z8O) rfl rfl (by kernel_rfl) ⟨trivial, ?_⟩
      try simp only [Act.put, List.setIfInBounds_toArray, List.set_cons_zero, List.set_cons_succ]
      have Hq := hid_of (heap_alloc_new W.drew z8O)
      replace HB := hid_of (FRow.bel HB.out (alb W.drew z8O) (Nat.le_refl _))
      replace cT := (HBt.out _ HB.out).trans HC0.out
      generalize World.alloc W.drew z8O = V26 at *
      generalize (World.heap W.drew).size = q26 at *
      refine wpAnyH_all (rs := [0, 2]) (by kernel_rfl) (by simp) (fa2 ?_ ?_)
      · refine op_value (v := .slice a N c) (w' := V26) rfl rfl (by go_simp) ⟨trivial, ?_⟩
        try simp only [Act.put, List.setIfInBounds_toArray, List.set_cons_zero, List.set_cons_succ]
        refine wpAnyH_take (i := 5) (v := .int .i64 (N : Int)) rfl (by kernel_rfl) (by kernel_rfl) (by kernel_rfl) (fun _ _ _ h => h) (Or.inl ⟨by kernel_rfl, fun Wx _ => by kernel_rfl⟩) trivial ?_
        try simp only [Act.put, List.setIfInBounds_toArray, List.set_cons_zero, List.set_cons_succ]
        refine wpAnyH_take (i := 10) (v := .int .i64 ((N : Int) + 1)) rfl (by kernel_rfl) (by kernel_rfl) (by kernel_rfl) (fun _ _ _ h => h) (Or.inl ⟨by kernel_rfl, fun Wx _ => by go_simp; exact IntWalk.i64_in _ ⟨by omega, by omega⟩⟩) trivial ?_
        try simp only [Act.put, List.setIfInBounds_toArray, List.set_cons_zero, List.set_cons_succ]
        refine wpAnyH_all (rs := [2]) (by kernel_rfl) (by simp) (fa1 ?_)
        · refine op_call (f := 97) (args := #[.string NM]) rfl rfl (by kernel_rfl) ((H1b.out _).mono ?_)
          rintro e V28 ⟨rfl, b28⟩
          refine ⟨_, rfl, trivial, ?_⟩
          try simp only [Act.put, List.setIfInBounds_toArray, List.set_cons_zero, List.set_cons_succ]
          replace cT := (HBt.out _ (FRow.bel HB.out b28 (Nat.le_refl _))).trans HC0.out
          replace Hq := hid_of ((b28.block _ (lt_of Hq.out)).trans Hq.out)
          replace HB := hid_of (FRow.bel HB.out b28 (Nat.le_refl _))
          clear b28
          refine wpAnyH_all (rs := [4]) (by kernel_rfl) (by simp) (fa1 ?_)
          · refine op_call (f := 97) (args := #[.string VL]) rfl rfl (by kernel_rfl) ((H2b.out _).mono ?_)
            rintro e V29 ⟨rfl, b29⟩
            refine ⟨_, rfl, trivial, ?_⟩
            try simp only [Act.put, List.setIfInBounds_toArray, List.set_cons_zero, List.set_cons_succ]
            replace cT := (HBt.out _ (FRow.bel HB.out b29 (Nat.le_refl _))).trans HC0.out
            replace Hq := hid_of ((b29.block _ (lt_of Hq.out)).trans Hq.out)
            replace HB := hid_of (FRow.bel HB.out b29 (Nat.le_refl _))
            clear b29
            refine wpAnyH_all (rs := [7]) (by kernel_rfl) (by simp) (fa1 ?_)
            obtain ⟨g, c9, V9, hr, ho, hgr⟩ := HAp.out _ _ HB.out Hq.out
            refine op_any rfl rfl ?_
            refine wp_app (.tmp 10) (.tmp 16) 23 hr rfl rfl (by kernel_rfl) (by kernel_rfl) ⟨trivial, ?_⟩
            try simp only [Act.put, List.setIfInBounds_toArray, List.set_cons_zero, List.set_cons_succ]
            obtain ⟨R, hS0, hlen⟩ := HSt.out _ _ _ _ HB.out hgr ho
            have S0 := hid_of hS0
            have HFin := hid_of fun (V : World) h => HEnd.out V g c9 R h hlen
            have hl9 := hlen.1
            clear hS0 hgr ho hr HB Hq cT HEnd
            refine wpAnyH_take (i := 8) (v := .pointer (some ⟨g, N * 4, none⟩)) rfl (by kernel_rfl) (by kernel_rfl) (by kernel_rfl) (fun _ _ _ h => h) (Or.inl ⟨by kernel_rfl, fun Wx _ => exec_index (i := N) (n := N + 2) (c := c9) rfl (by kernel_rfl) (by kernel_rfl) (by omega) rfl⟩) trivial ?_
            try simp only [Act.put, List.setIfInBounds_toArray, List.set_cons_zero, List.set_cons_succ]
            refine wpAnyH_all (rs := [9, 13]) (by kernel_rfl) (by simp) (fa2 ?_ ?_)
            · refine op_skip rfl rfl (exec_store4 (s1 := 18) (s2 := 12) (g := g) (off := N * 4) (s := NM) rfl (by kernel_rfl) (by kernel_rfl) S0.out.hg (by have := hlen.2.2.2; simp only [List.length_set, List.length_append, z8, List.length_cons, List.length_nil]; omega)) ⟨trivial, ?_⟩
              try simp only [Act.put, List.setIfInBounds_toArray, List.set_cons_zero, List.set_cons_succ]
              have S1 := hid_of (S0.out.put (N * 4) NM)
              refine wpAnyH_take (i := 11) (v := .pointer (some ⟨g, N * 4 + 4, none⟩)) rfl (by kernel_rfl) (by kernel_rfl) (by kernel_rfl) (fun _ _ _ h => h) (Or.inl ⟨by kernel_rfl, fun Wx _ => exec_index (i := N + 1) (n := N + 2) (c := c9) rfl (by kernel_rfl) (by kernel_rfl) (by omega) (by omega)⟩) trivial ?_
              try simp only [Act.put, List.setIfInBounds_toArray, List.set_cons_zero, List.set_cons_succ]
              refine wpAnyH_all (rs := [12, 13]) (by kernel_rfl) (by simp) (fa2 ?_ ?_)
              · refine op_skip rfl rfl (exec_store4 (s1 := 20) (s2 := 14) (g := g) (off := N * 4 + 4) (s := VL) rfl (by kernel_rfl) (by kernel_rfl) S1.out.hg (by have := hlen.2.2.2; simp only [List.length_set, List.length_append, z8, List.length_cons, List.length_nil]; omega)) ⟨trivial, ?_⟩
                try simp only [Act.put, List.setIfInBounds_toArray, List.set_cons_zero, List.set_cons_succ]
                have S2 := hid_of (S1.out.put (N * 4 + 4) VL)
                refine wpAnyH_all (rs := [13]) (by kernel_rfl) (by simp) (fa1 ?_)
                refine op_skip rfl rfl (exec_store1 (s1 := 3) (s2 := 17) (T := w.heap.size + 1) (x := some ⟨g, 0, none⟩) (n := N + 2) (c := c9) rfl (by kernel_rfl) (by kernel_rfl) S2.out.hT) ⟨trivial, ?_⟩
                try simp only [Act.put, List.setIfInBounds_toArray, List.set_cons_zero, List.set_cons_succ]
                have S3 := hid_of (S2.out.box (.slice (some ⟨g, 0, none⟩) (N + 2) c9))
                refine wpAnyH_done (by kernel_rfl) ?_ _
                exact HFin.out _ S3.out
              · refine op_skip rfl rfl (exec_store1 (s1 := 3) (s2 := 17) (T := w.heap.size + 1) (x := some ⟨g, 0, none⟩) (n := N + 2) (c := c9) rfl (by kernel_rfl) (by kernel_rfl) S1.out.hT) ⟨trivial, ?_⟩
                try simp only [Act.put, List.setIfInBounds_toArray, List.set_cons_zero, List.set_cons_succ]
                have S2 := hid_of (S1.out.box (.slice (some ⟨g, 0, none⟩) (N + 2) c9))
                refine wpAnyH_all (rs := [12]) (by kernel_rfl) (by simp) (fa1 ?_)
                refine op_skip rfl rfl (exec_store4 (s1 := 20) (s2 := 14) (g := g) (off := N * 4 + 4) (s := VL) rfl (by kernel_rfl) (by kernel_rfl) S2.out.hg (by have := hlen.2.2.2; simp only [List.length_set, List.length_append, z8, List.length_cons, List.length_nil]; omega)) ⟨trivial, ?_⟩
                try simp only [Act.put, List.setIfInBounds_toArray, List.set_cons_zero, List.set_cons_succ]
                have S3 := hid_of (S2.out.put (N * 4 + 4) VL)
                refine wpAnyH_done (by kernel_rfl) ?_ _
                exact HFin.out _ S3.out
            · refine op_skip rfl rfl (exec_store1 (s1 := 3) (s2 := 17) (T := w.heap.size + 1) (x := some ⟨g, 0, none⟩) (n := N + 2) (c := c9) rfl (by kernel_rfl) (by kernel_rfl) S0.out.hT) ⟨trivial, ?_⟩
              try simp only [Act.put, List.setIfInBounds_toArray, List.set_cons_zero, List.set_cons_succ]
              have S1 := hid_of (S0.out.box (.slice (some ⟨g, 0, none⟩) (N + 2) c9))
              refine wpAnyH_all (rs := [9]) (by kernel_rfl) (by simp) (fa1 ?_)
              refine op_skip rfl rfl (exec_store4 (s1 := 18) (s2 := 12) (g := g) (off := N * 4) (s := NM) rfl (by kernel_rfl) (by kernel_rfl) S1.out.hg (by have := hlen.2.2.2; simp only [List.length_set, List.length_append, z8, List.length_cons, List.length_nil]; omega)) ⟨trivial, ?_⟩
              try simp only [Act.put, List.setIfInBounds_toArray, List.set_cons_zero, List.set_cons_succ]
              have S2 := hid_of (S1.out.put (N * 4) NM)
              refine wpAnyH_take (i := 11) (v := .pointer (some ⟨g, N * 4 + 4, none⟩)) rfl (by kernel_rfl) (by kernel_rfl) (by kernel_rfl) (fun _ _ _ h => h) (Or.inl ⟨by kernel_rfl, fun Wx _ => exec_index (i := N + 1) (n := N + 2) (c := c9) rfl (by kernel_rfl) (by kernel_rfl) (by omega) (by omega)⟩) trivial ?_
              try simp only [Act.put, List.setIfInBounds_toArray, List.set_cons_zero, List.set_cons_succ]
              refine wpAnyH_all (rs := [12]) (by kernel_rfl) (by simp) (fa1 ?_)
              refine op_skip rfl rfl (exec_store4 (s1 := 20) (s2 := 14) (g := g) (off := N * 4 + 4) (s := VL) rfl (by kernel_rfl) (by kernel_rfl) S2.out.hg (by have := hlen.2.2.2; simp only [List.length_set, List.length_append, z8, List.length_cons, List.length_nil]; omega)) ⟨trivial, ?_⟩
              try simp only [Act.put, List.setIfInBounds_toArray, List.set_cons_zero, List.set_cons_succ]
              have S3 := hid_of (S2.out.put (N * 4 + 4) VL)
              refine wpAnyH_done (by kernel_rfl) ?_ _
              exact HFin.out _ S3.out
      · refine op_call (f := 97) (args := #[.string NM]) rfl rfl (by kernel_rfl) ((H1b.out _).mono ?_)
        rintro e V30 ⟨rfl, b30⟩
        refine ⟨_, rfl, trivial, ?_⟩
        try simp only [Act.put, List.setIfInBounds_toArray, List.set_cons_zero, List.set_cons_succ]
        replace cT := (HBt.out _ (FRow.bel HB.out b30 (Nat.le_refl _))).trans HC0.out
        replace Hq := hid_of ((b30.block _ (lt_of Hq.out)).trans Hq.out)
        replace HB := hid_of (FRow.bel HB.out b30 (Nat.le_refl _))
        clear b30
        refine wpAnyH_all (rs := [0, 4]) (by kernel_rfl) (by simp) (fa2 ?_ ?_)
        · refine op_value (v := .slice a N c) (w' := V30) rfl rfl (by go_simp) ⟨trivial, ?_⟩
          try simp only [Act.put, List.setIfInBounds_toArray, List.set_cons_zero, List.set_cons_succ]
          refine wpAnyH_take (i := 5) (v := .int .i64 (N : Int)) rfl (by kernel_rfl) (by kernel_rfl) (by kernel_rfl) (fun _ _ _ h => h) (Or.inl ⟨by kernel_rfl, fun Wx _ => by kernel_rfl⟩) trivial ?_
          try simp only [Act.put, List.setIfInBounds_toArray, List.set_cons_zero, List.set_cons_succ]
          refine wpAnyH_take (i := 10) (v := .int .i64 ((N : Int) + 1)) rfl (by kernel_rfl) (by kernel_rfl) (by kernel_rfl) (fun _ _ _ h => h) (Or.inl ⟨by kernel_rfl, fun Wx _ => by go_simp; exact IntWalk.i64_in _ ⟨by omega, by omega⟩⟩) trivial ?_
          try simp only [Act.put, List.setIfInBounds_toArray, List.set_cons_zero, List.set_cons_succ]
          refine wpAnyH_all (rs := [4]) (by kernel_rfl) (by simp) (fa1 ?_)
          · refine op_call (f := 97) (args := #[.string VL]) rfl rfl (by kernel_rfl) ((H2b.out _).mono ?_)
            rintro e V32 ⟨rfl, b32⟩
            refine ⟨_, rfl, trivial, ?_⟩
            try simp only [Act.put, List.setIfInBounds_toArray, List.set_cons_zero, List.set_cons_succ]
            replace cT := (HBt.out _ (FRow.bel HB.out b32 (Nat.le_refl _))).trans HC0.out
            replace Hq := hid_of ((b32.block _ (lt_of Hq.out)).trans Hq.out)
            replace HB := hid_of (FRow.bel HB.out b32 (Nat.le_refl _))
            clear b32
            refine wpAnyH_all (rs := [7]) (by kernel_rfl) (by simp) (fa1 ?_)
            obtain ⟨g, c9, V9, hr, ho, hgr⟩ := HAp.out _ _ HB.out Hq.out
            refine op_any rfl rfl ?_
            refine wp_app (.tmp 10) (.tmp 16) 23 hr rfl rfl (by kernel_rfl) (by kernel_rfl) ⟨trivial, ?_⟩
            try simp only [Act.put, List.setIfInBounds_toArray, List.set_cons_zero, List.set_cons_succ]
            obtain ⟨R, hS0, hlen⟩ := HSt.out _ _ _ _ HB.out hgr ho
            have S0 := hid_of hS0
            have HFin := hid_of fun (V : World) h => HEnd.out V g c9 R h hlen
            have hl9 := hlen.1
            clear hS0 hgr ho hr HB Hq cT HEnd
            refine wpAnyH_take (i := 8) (v := .pointer (some ⟨g, N * 4, none⟩)) rfl (by kernel_rfl) (by kernel_rfl) (by kernel_rfl) (fun _ _ _ h => h) (Or.inl ⟨by kernel_rfl, fun Wx _ => exec_index (i := N) (n := N + 2) (c := c9) rfl (by kernel_rfl) (by kernel_rfl) (by omega) rfl⟩) trivial ?_
            try simp only [Act.put, List.setIfInBounds_toArray, List.set_cons_zero, List.set_cons_succ]
            refine wpAnyH_all (rs := [9, 13]) (by kernel_rfl) (by simp) (fa2 ?_ ?_)
            · refine op_skip rfl rfl (exec_store4 (s1 := 18) (s2 := 12) (g := g) (off := N * 4) (s := NM) rfl (by kernel_rfl) (by kernel_rfl) S0.out.hg (by have := hlen.2.2.2; simp only [List.length_set, List.length_append, z8, List.length_cons, List.length_nil]; omega)) ⟨trivial, ?_⟩
              try simp only [Act.put, List.setIfInBounds_toArray, List.set_cons_zero, List.set_cons_succ]
              have S1 := hid_of (S0.out.put (N * 4) NM)
              refine wpAnyH_take (i := 11) (v := .pointer (some ⟨g, N * 4 + 4, none⟩)) rfl (by kernel_rfl) (by kernel_rfl) (by kernel_rfl) (fun _ _ _ h => h) (Or.inl ⟨by kernel_rfl, fun Wx _ => exec_index (i := N + 1) (n := N + 2) (c := c9) rfl (by kernel_rfl) (by kernel_rfl) (by omega) (by omega)⟩) trivial ?_
              try simp only [Act.put, List.setIfInBounds_toArray, List.set_cons_zero, List.set_cons_succ]
              refine wpAnyH_all (rs := [12, 13]) (by kernel_rfl) (by simp) (fa2 ?_ ?_)
              · refine op_skip rfl rfl (exec_store4 (s1 := 20) (s2 := 14) (g := g) (off := N * 4 + 4) (s := VL) rfl (by kernel_rfl) (by kernel_rfl) S1.out.hg (by have := hlen.2.2.2; simp only [List.length_set, List.length_append, z8, List.length_cons, List.length_nil]; omega)) ⟨trivial, ?_⟩
                try simp only [Act.put, List.setIfInBounds_toArray, List.set_cons_zero, List.set_cons_succ]
                have S2 := hid_of (S1.out.put (N * 4 + 4) VL)
                refine wpAnyH_all (rs := [13]) (by kernel_rfl) (by simp) (fa1 ?_)
                refine op_skip rfl rfl (exec_store1 (s1 := 3) (s2 := 17) (T := w.heap.size + 1) (x := some ⟨g, 0, none⟩) (n := N + 2) (c := c9) rfl (by kernel_rfl) (by kernel_rfl) S2.out.hT) ⟨trivial, ?_⟩
                try simp only [Act.put, List.setIfInBounds_toArray, List.set_cons_zero, List.set_cons_succ]
                have S3 := hid_of (S2.out.box (.slice (some ⟨g, 0, none⟩) (N + 2) c9))
                refine wpAnyH_done (by kernel_rfl) ?_ _
                exact HFin.out _ S3.out
              · refine op_skip rfl rfl (exec_store1 (s1 := 3) (s2 := 17) (T := w.heap.size + 1) (x := some ⟨g, 0, none⟩) (n := N + 2) (c := c9) rfl (by kernel_rfl) (by kernel_rfl) S1.out.hT) ⟨trivial, ?_⟩
                try simp only [Act.put, List.setIfInBounds_toArray, List.set_cons_zero, List.set_cons_succ]
                have S2 := hid_of (S1.out.box (.slice (some ⟨g, 0, none⟩) (N + 2) c9))
                refine wpAnyH_all (rs := [12]) (by kernel_rfl) (by simp) (fa1 ?_)
                refine op_skip rfl rfl (exec_store4 (s1 := 20) (s2 := 14) (g := g) (off := N * 4 + 4) (s := VL) rfl (by kernel_rfl) (by kernel_rfl) S2.out.hg (by have := hlen.2.2.2; simp only [List.length_set, List.length_append, z8, List.length_cons, List.length_nil]; omega)) ⟨trivial, ?_⟩
                try simp only [Act.put, List.setIfInBounds_toArray, List.set_cons_zero, List.set_cons_succ]
                have S3 := hid_of (S2.out.put (N * 4 + 4) VL)
                refine wpAnyH_done (by kernel_rfl) ?_ _
                exact HFin.out _ S3.out
            · refine op_skip rfl rfl (exec_store1 (s1 := 3) (s2 := 17) (T := w.heap.size + 1) (x := some ⟨g, 0, none⟩) (n := N + 2) (c := c9) rfl (by kernel_rfl) (by kernel_rfl) S0.out.hT) ⟨trivial, ?_⟩
              try simp only [Act.put, List.setIfInBounds_toArray, List.set_cons_zero, List.set_cons_succ]
              have S1 := hid_of (S0.out.box (.slice (some ⟨g, 0, none⟩) (N + 2) c9))
              refine wpAnyH_all (rs := [9]) (by kernel_rfl) (by simp) (fa1 ?_)
              refine op_skip rfl rfl (exec_store4 (s1 := 18) (s2 := 12) (g := g) (off := N * 4) (s := NM) rfl (by kernel_rfl) (by kernel_rfl) S1.out.hg (by have := hlen.2.2.2; simp only [List.length_set, List.length_append, z8, List.length_cons, List.length_nil]; omega)) ⟨trivial, ?_⟩
              try simp only [Act.put, List.setIfInBounds_toArray, List.set_cons_zero, List.set_cons_succ]
              have S2 := hid_of (S1.out.put (N * 4) NM)
              refine wpAnyH_take (i := 11) (v := .pointer (some ⟨g, N * 4 + 4, none⟩)) rfl (by kernel_rfl) (by kernel_rfl) (by kernel_rfl) (fun _ _ _ h => h) (Or.inl ⟨by kernel_rfl, fun Wx _ => exec_index (i := N + 1) (n := N + 2) (c := c9) rfl (by kernel_rfl) (by kernel_rfl) (by omega) (by omega)⟩) trivial ?_
              try simp only [Act.put, List.setIfInBounds_toArray, List.set_cons_zero, List.set_cons_succ]
              refine wpAnyH_all (rs := [12]) (by kernel_rfl) (by simp) (fa1 ?_)
              refine op_skip rfl rfl (exec_store4 (s1 := 20) (s2 := 14) (g := g) (off := N * 4 + 4) (s := VL) rfl (by kernel_rfl) (by kernel_rfl) S2.out.hg (by have := hlen.2.2.2; simp only [List.length_set, List.length_append, z8, List.length_cons, List.length_nil]; omega)) ⟨trivial, ?_⟩
              try simp only [Act.put, List.setIfInBounds_toArray, List.set_cons_zero, List.set_cons_succ]
              have S3 := hid_of (S2.out.put (N * 4 + 4) VL)
              refine wpAnyH_done (by kernel_rfl) ?_ _
              exact HFin.out _ S3.out
        · refine op_call (f := 97) (args := #[.string VL]) rfl rfl (by kernel_rfl) ((H2b.out _).mono ?_)
          rintro e V33 ⟨rfl, b33⟩
          refine ⟨_, rfl, trivial, ?_⟩
          try simp only [Act.put, List.setIfInBounds_toArray, List.set_cons_zero, List.set_cons_succ]
          replace cT := (HBt.out _ (FRow.bel HB.out b33 (Nat.le_refl _))).trans HC0.out
          replace Hq := hid_of ((b33.block _ (lt_of Hq.out)).trans Hq.out)
          replace HB := hid_of (FRow.bel HB.out b33 (Nat.le_refl _))
          clear b33
          refine wpAnyH_all (rs := [0]) (by kernel_rfl) (by simp) (fa1 ?_)
          · refine op_value (v := .slice a N c) (w' := V33) rfl rfl (by go_simp) ⟨trivial, ?_⟩
            try simp only [Act.put, List.setIfInBounds_toArray, List.set_cons_zero, List.set_cons_succ]
            refine wpAnyH_take (i := 5) (v := .int .i64 (N : Int)) rfl (by kernel_rfl) (by kernel_rfl) (by kernel_rfl) (fun _ _ _ h => h) (Or.inl ⟨by kernel_rfl, fun Wx _ => by kernel_rfl⟩) trivial ?_
            try simp only [Act.put, List.setIfInBounds_toArray, List.set_cons_zero, List.set_cons_succ]
            refine wpAnyH_take (i := 10) (v := .int .i64 ((N : Int) + 1)) rfl (by kernel_rfl) (by kernel_rfl) (by kernel_rfl) (fun _ _ _ h => h) (Or.inl ⟨by kernel_rfl, fun Wx _ => by go_simp; exact IntWalk.i64_in _ ⟨by omega, by omega⟩⟩) trivial ?_
            try simp only [Act.put, List.setIfInBounds_toArray, List.set_cons_zero, List.set_cons_succ]
            refine wpAnyH_all (rs := [7]) (by kernel_rfl) (by simp) (fa1 ?_)
            obtain ⟨g, c9, V9, hr, ho, hgr⟩ := HAp.out _ _ HB.out Hq.out
            refine op_any rfl rfl ?_
            refine wp_app (.tmp 10) (.tmp 16) 23 hr rfl rfl (by kernel_rfl) (by kernel_rfl) ⟨trivial, ?_⟩
            try simp only [Act.put, List.setIfInBounds_toArray, List.set_cons_zero, List.set_cons_succ]
            obtain ⟨R, hS0, hlen⟩ := HSt.out _ _ _ _ HB.out hgr ho
            have S0 := hid_of hS0
            have HFin := hid_of fun (V : World) h => HEnd.out V g c9 R h hlen
            have hl9 := hlen.1
            clear hS0 hgr ho hr HB Hq cT HEnd
            refine wpAnyH_take (i := 8) (v := .pointer (some ⟨g, N * 4, none⟩)) rfl (by kernel_rfl) (by kernel_rfl) (by kernel_rfl) (fun _ _ _ h => h) (Or.inl ⟨by kernel_rfl, fun Wx _ => exec_index (i := N) (n := N + 2) (c := c9) rfl (by kernel_rfl) (by kernel_rfl) (by omega) rfl⟩) trivial ?_
            try simp only [Act.put, List.setIfInBounds_toArray, List.set_cons_zero, List.set_cons_succ]
            refine wpAnyH_all (rs := [9, 13]) (by kernel_rfl) (by simp) (fa2 ?_ ?_)
            · refine op_skip rfl rfl (exec_store4 (s1 := 18) (s2 := 12) (g := g) (off := N * 4) (s := NM) rfl (by kernel_rfl) (by kernel_rfl) S0.out.hg (by have := hlen.2.2.2; simp only [List.length_set, List.length_append, z8, List.length_cons, List.length_nil]; omega)) ⟨trivial, ?_⟩
              try simp only [Act.put, List.setIfInBounds_toArray, List.set_cons_zero, List.set_cons_succ]
              have S1 := hid_of (S0.out.put (N * 4) NM)
              refine wpAnyH_take (i := 11) (v := .pointer (some ⟨g, N * 4 + 4, none⟩)) rfl (by kernel_rfl) (by kernel_rfl) (by kernel_rfl) (fun _ _ _ h => h) (Or.inl ⟨by kernel_rfl, fun Wx _ => exec_index (i := N + 1) (n := N + 2) (c := c9) rfl (by kernel_rfl) (by kernel_rfl) (by omega) (by omega)⟩) trivial ?_
              try simp only [Act.put, List.setIfInBounds_toArray, List.set_cons_zero, List.set_cons_succ]
              refine wpAnyH_all (rs := [12, 13]) (by kernel_rfl) (by simp) (fa2 ?_ ?_)
              · refine op_skip rfl rfl (exec_store4 (s1 := 20) (s2 := 14) (g := g) (off := N * 4 + 4) (s := VL) rfl (by kernel_rfl) (by kernel_rfl) S1.out.hg (by have := hlen.2.2.2; simp only [List.length_set, List.length_append, z8, List.length_cons, List.length_nil]; omega)) ⟨trivial, ?_⟩
                try simp only [Act.put, List.setIfInBounds_toArray, List.set_cons_zero, List.set_cons_succ]
                have S2 := hid_of (S1.out.put (N * 4 + 4) VL)
                refine wpAnyH_all (rs := [13]) (by kernel_rfl) (by simp) (fa1 ?_)
                refine op_skip rfl rfl (exec_store1 (s1 := 3) (s2 := 17) (T := w.heap.size + 1) (x := some ⟨g, 0, none⟩) (n := N + 2) (c := c9) rfl (by kernel_rfl) (by kernel_rfl) S2.out.hT) ⟨trivial, ?_⟩
                try simp only [Act.put, List.setIfInBounds_toArray, List.set_cons_zero, List.set_cons_succ]
                have S3 := hid_of (S2.out.box (.slice (some ⟨g, 0, none⟩) (N + 2) c9))
                refine wpAnyH_done (by kernel_rfl) ?_ _
                exact HFin.out _ S3.out
              · refine op_skip rfl rfl (exec_store1 (s1 := 3) (s2 := 17) (T := w.heap.size + 1) (x := some ⟨g, 0, none⟩) (n := N + 2) (c := c9) rfl (by kernel_rfl) (by kernel_rfl) S1.out.hT) ⟨trivial, ?_⟩
                try simp only [Act.put, List.setIfInBounds_toArray, List.set_cons_zero, List.set_cons_succ]
                have S2 := hid_of (S1.out.box (.slice (some ⟨g, 0, none⟩) (N + 2) c9))
                refine wpAnyH_all (rs := [12]) (by kernel_rfl) (by simp) (fa1 ?_)
                refine op_skip rfl rfl (exec_store4 (s1 := 20) (s2 := 14) (g := g) (off := N * 4 + 4) (s := VL) rfl (by kernel_rfl) (by kernel_rfl) S2.out.hg (by have := hlen.2.2.2; simp only [List.length_set, List.length_append, z8, List.length_cons, List.length_nil]; omega)) ⟨trivial, ?_⟩
                try simp only [Act.put, List.setIfInBounds_toArray, List.set_cons_zero, List.set_cons_succ]
                have S3 := hid_of (S2.out.put (N * 4 + 4) VL)
                refine wpAnyH_done (by kernel_rfl) ?_ _
                exact HFin.out _ S3.out
            · refine op_skip rfl rfl (exec_store1 (s1 := 3) (s2 := 17) (T := w.heap.size + 1) (x := some ⟨g, 0, none⟩) (n := N + 2) (c := c9) rfl (by kernel_rfl) (by kernel_rfl) S0.out.hT) ⟨trivial, ?_⟩
              try simp only [Act.put, List.setIfInBounds_toArray, List.set_cons_zero, List.set_cons_succ]
              have S1 := hid_of (S0.out.box (.slice (some ⟨g, 0, none⟩) (N + 2) c9))
              refine wpAnyH_all (rs := [9]) (by kernel_rfl) (by simp) (fa1 ?_)
              refine op_skip rfl rfl (exec_store4 (s1 := 18) (s2 := 12) (g := g) (off := N * 4) (s := NM) rfl (by kernel_rfl) (by kernel_rfl) S1.out.hg (by have := hlen.2.2.2; simp only [List.length_set, List.length_append, z8, List.length_cons, List.length_nil]; omega)) ⟨trivial, ?_⟩
              try simp only [Act.put, List.setIfInBounds_toArray, List.set_cons_zero, List.set_cons_succ]
              have S2 := hid_of (S1.out.put (N * 4) NM)
              refine wpAnyH_take (i := 11) (v := .pointer (some ⟨g, N * 4 + 4, none⟩)) rfl (by kernel_rfl) (by kernel_rfl) (by kernel_rfl) (fun _ _ _ h => h) (Or.inl ⟨by kernel_rfl, fun Wx _ => exec_index (i := N + 1) (n := N + 2) (c := c9) rfl (by kernel_rfl) (by kernel_rfl) (by omega) (by omega)⟩) trivial ?_
              try simp only [Act.put, List.setIfInBounds_toArray, List.set_cons_zero, List.set_cons_succ]
              refine wpAnyH_all (rs := [12]) (by kernel_rfl) (by simp) (fa1 ?_)
              refine op_skip rfl rfl (exec_store4 (s1 := 20) (s2 := 14) (g := g) (off := N * 4 + 4) (s := VL) rfl (by kernel_rfl) (by kernel_rfl) S2.out.hg (by have := hlen.2.2.2; simp only [List.length_set, List.length_append, z8, List.length_cons, List.length_nil]; omega)) ⟨trivial, ?_⟩
              try simp only [Act.put, List.setIfInBounds_toArray, List.set_cons_zero, List.set_cons_succ]
              have S3 := hid_of (S2.out.put (N * 4 + 4) VL)
              refine wpAnyH_done (by kernel_rfl) ?_ _
              exact HFin.out _ S3.out
  case' hdone =>
    rintro D xs W hD hxs hq hK
    have hxm : xs.map (·.1) = L := by rw [hxs, xs_map, List.take_length]
    rw [hxm] at hq
    obtain ⟨a, n, c, h1, h2⟩ := hq.row
    have cT : W.cell? ⟨w.heap.size + 1, 0, none⟩ = some (.slice a n c) := Lib.cell_of_heap h1 0
    have HR := hid_of h2
    have HQ := hid_of hq
    have HDD := hid_of (And.intro hD hK)
    clear hq h1 h2 hK hD
    gi_wp2_with fail
    refine ⟨trivial, callsIn_wide.2 ((HAr.out W a n c).mono ?_)⟩
    rintro e w5 ⟨rfl, b5⟩
    have hq5 := HQ.out.below b5
    have hD5 := (b5.block _ (lt_of HDD.out.2)).trans HDD.out.2
    have hr5 := FRow.row_below HR.out b5
    obtain ⟨⟨v0, v1, v2, v3⟩, fv⟩ := box4 hq5.z0
    have fv0 := fv 0; have fv1 := fv 1; have fv2 := fv 2; have fv3 := fv 3
    have hz := fin4_at hq5.z0 (.int .i64 6) (.string ⟨#[]⟩) (.int .i64 0) (.slice a n c)
    have hbz := fin4_b (y0 := .int .i64 6) (y1 := .string ⟨#[]⟩) (y2 := .int .i64 0) (y3 := .slice a n c) hq5.bel (Nat.le_refl _)
    have hne : D ≠ w.heap.size := by have := hq5.lt; have := HDD.out.1; omega
    have hDz := (fin4_ne hne (y0 := .int .i64 6) (y1 := .string ⟨#[]⟩) (y2 := .int .i64 0) (y3 := .slice a n c)).trans hD5
    have hrz : RR w3.heap.size (fin4 w5 w.heap.size (.int .i64 6) (.string ⟨#[]⟩) (.int .i64 0) (.slice a n c)) (.slice a n c) (txt L) := FRow.row_later hr5 fun g cs t fz hg hgg ht => fin4_ne (by have := (hr5.lt g hg).1; have := hq5.lt; omega)
    have HZ := hid_of (And.intro hz (And.intro hbz (And.intro hDz hrz)))
    have hlt5 := hq5.lt
    clear fv hq5 hD5 hr5 b5 hz hbz hDz hrz HR HQ cT
    unfold fin4 at HZ
    gi_wp2_with fail
    obtain ⟨hz, hbz, hDz, hrz⟩ := HZ.out
    refine ⟨by simp, .inl ⟨_, _, rfl, run_takeDeferred hDz, ?_⟩⟩
    have hzp := (World.putObj_heap_other (o := .deferred none) (Ne.symm hne)).trans hz
    obtain ⟨⟨g0, g1, g2, g3⟩, -⟩ := box4 hzp
    refine ⟨rpL (.slice a n c), by simp [results, Tryz.results95, go_sem, g0, g1, g2, g3], ⟨.slice a n c, rfl, FRow.row_mono (FRow.row_later hrz fun g cs t fz hg hgg _ => World.putObj_heap_other (by rintro rfl; rw [hDz] at hgg; cases hgg)) (by omega), hbz.grown (grownBy_putObj' _ D (.deferred none)) hbz.size (fun j hj => by cases hj; have := HDD.out.1; omega)⟩⟩
  case' hstop =>
    rintro D cd pre W hD hpre hf hdf
    exact hf.elim
end Go.Proofs.YtcgdnpcegcmboaaGreatDoor.HAll
