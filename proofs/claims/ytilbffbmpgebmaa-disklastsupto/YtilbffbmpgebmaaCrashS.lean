/- Crash, of a disk whose lasting files are synced. -/
import Derived.Test.YtilbffbmpgebmaaCrash
import Derived.Deep.RegionHeld3
namespace Go.Proofs.Ytilbffbmpgebmaa.CrashS
open Go.RowKit Go.Maps Go.Sort
open Go.Proofs.Ytilbffbmpgebmaa.DiskMath
open Go.Proofs.Ytilbffbmpgebmaa.Base
open Go.Proofs.Ytilbffbmpgebmaa.Small
open Go.Proofs.Ytilbffbmpgebmaa.Find
open Go.Proofs.Ytilbffbmpgebmaa.File
open Go.Proofs.Ytilbffbmpgebmaa.File2
open Go.Proofs.Ytilbffbmpgebmaa.Append
open Go.Proofs.Ytilbffbmpgebmaa.Names
open Go.Proofs.Ytilbffbmpgebmaa.Settle
open Go.Proofs.Ytilbffbmpgebmaa.Rising
open Go.Proofs.Ytilbffbmpgebmaa.Crash
set_option linter.unusedVariables false

/- a file that is synced is cut to what it is -/
set_option maxRecDepth 100000 in
theorem slice_same {base : Nat} {w : World} {v : Value} {t : Bs} (h : w.ownsRow base 5 1 v t.length (Lib.strCells (mk t))) (W : World) : (Instr.slice 84 v none (some (.int .i64 (t.length : Int))) none).run Try.prog W = .ok v W := by
  have und : Try.prog.underlying 84 = some (.slice (Try.prog.elem 84)) := by kernel_rfl
  have el : Try.prog.elem 84 = 5 := by kernel_rfl
  rcases h.2 with ⟨rfl, h0⟩ | ⟨g, cap, cur, rfl, hb, hg, h1, h2, h3, h4⟩
  · rw [h0, run_slice_h (P := Try.prog) W 84 none 0 0 und .i64 ((0 : Nat) : Int) (by omega) (by omega), el, Try.sizeOf5]
    rfl
  · rw [run_slice_h (P := Try.prog) W 84 (some ⟨g, 0, none⟩) t.length cap und .i64 (t.length : Int) (by omega) (by omega), el, Try.sizeOf5]
    show Result.ok (sliced _ 0 ((t.length : Int)).toNat cap 1) W = _
    unfold sliced
    by_cases e : cap = 0
    · simp [e]
    · simp [Addr.add]
set_option maxHeartbeats 1000000 in
set_option maxRecDepth 100000 in
theorem cut_same (base : Nat) (f : Nat) (tv : Value) (t : Bs) (w : World) (q : FileAt base w f tv (t, t.length)) :
    Calls Try.prog 46 #[ptr f, .int .i64 (t.length : Int)] w fun e w' => e = .returned (.tuple #[]) ∧ FileAt base w' f tv (t, t.length) ∧ (∀ k, k ≠ f → w'.heap[k]? = w.heap[k]?) ∧ w'.heap.size = w.heap.size ∧ Ev DT base w w' := by
  have hq := slice_same q.row w
  obtain ⟨a, c, hv⟩ := row_shape q.row
  have c0 : w.cell? ⟨f, 0, none⟩ = some (.slice a t.length c) := by rw [← hv]; exact Lib.cell_of_heap q.blk 0
  have f0 : w.frozen? ⟨f, 0, none⟩ = false := Lib.frozen_of_heap q.blk 0
  have c1' : w.cell? ⟨f, 1, none⟩ = some (.int .i64 (t.length : Int)) := Lib.cell_of_heap q.blk 1
  have f1 : w.frozen? ⟨f, 1, none⟩ = false := Lib.frozen_of_heap q.blk 1
  rw [hv] at hq
  have e2 : min (t.length : Int) (t.length : Int) = (t.length : Int) := by omega
  have Q := hid_of q
  have HV := hid_of hv
  clear q hv
  unfold ptr
  go_enter Try.func46, Try.ntmps46
  go_wp2_with fail
  go_end0
  have b1 := set_at (i := 0) Q.out.blk (.slice a t.length c)
  have hne : ∀ k, k ≠ f → ((w.setCell ⟨f, 0, none⟩ (.slice a t.length c)).setCell ⟨f, 1, none⟩ (.int .i64 (t.length : Int))).heap[k]? = w.heap[k]? := fun k hk => (set_ne hk _).trans (set_ne hk _)
  refine ⟨rfl, ⟨?_, row_later Q.out.row fun g hg => hne g (fun e => ?_), Q.out.low, Q.out.le, Q.out.big⟩, hne, by rw [size_set, size_set], (Ev.set Q.out.blk Q.out.low rfl _).trans (Ev.set b1 Q.out.low rfl _)⟩
  · rw [HV.out]
    exact set_at b1 _
  · have := (row_kd Q.out.row hg).1
    rw [e, kd_cells Q.out.blk] at this
    cases this
theorem crashF_all (m : Int) (t : Bs) : crashF m (t, t.length) = (t, t.length) := by
  have e : within m (t.length - t.length) = 0 := by unfold within; omega
  unfold crashF cutF syncF
  dsimp only
  rw [e]
  simp
theorem files_same (bytes : List Int) : ∀ (l : NL) (i : Nat) (fs : List (Bs × Nat)), (∀ p ∈ l, ∃ t : Bs, fs[p.2]? = some (t, t.length)) → crashFiles bytes i l fs = fs
  | [], _, _, _ => rfl
  | q :: r, i, fs, h => by
    obtain ⟨t, ht⟩ := h q List.mem_cons_self
    have e : fs.modify q.2 (crashF (outl bytes i)) = fs := by
      apply List.ext_getElem?
      intro j
      rw [List.getElem?_modify]
      by_cases e : q.2 = j
      · rw [← e, ht]
        simp [crashF_all]
      · simp [e]
    show crashFiles bytes (i + 1) r (fs.modify q.2 (crashF (outl bytes i))) = fs
    rw [e]
    exact files_same bytes r (i + 1) fs (fun p hp => h p (List.mem_cons_of_mem _ hp))
/- the disk behind the first i files of a crash -/
def mid (e : Dk) (bytes : List Int) (i : Nat) : Dk := { e with names := e.last, files := crashFiles bytes 0 (e.last.take i) e.files }
structure CR (base b : Nat) (e : Dk) (bytes : List Int) (w : World) (B0 : Nat) (cn : Int) (bv : Value) (g cap : Nat) (i : Nat) (wr : World) : Prop where
  dk : ∃ y, DK base b y (mid e bytes i) wr
  ev : Ev DT base w wr
  box : wr.heap[B0]? = some (.cells #[.int .i64 cn, bv] 36 (0, 0))
  row : ∃ bs0, wr.ownsRow bs0 9 1 (.slice (some ⟨g, 0, none⟩) e.last.length cap) e.last.length ((keys e.last).map encStr)
/- behind one file -/
theorem mid_step {e : Dk} {bytes : List Int} {i : Nat} (hi : i < e.last.length) : (mid e bytes i).upd (e.last[i]).2 (crashF (outl bytes i)) = mid e bytes (i + 1) := by
  unfold mid Dk.upd
  have : e.last.take (i + 1) = e.last.take i ++ [e.last[i]] := by
    rw [List.take_add_one, List.getElem?_eq_getElem hi]
    rfl
  rw [this, crash_snoc]
  have e2 : 0 + (e.last.take i).length = i := by rw [List.length_take]; omega
  rw [e2]
set_option maxRecDepth 100000 in
theorem look_one {w : World} {b n : Nat} {pos : Nat → Nat} {l : NL} (h : w.ownsMap Try.prog 9 RP b n (toD pos l)) (p : Bs × Nat) (hp : p ∈ l) (hs : p.1.length ≤ 281474976710656) :
    (Instr.lookup 66 (.map (some b)) (encStr p.1) false).run Try.prog w = .ok (ptr (pos p.2)) w := by
  have hs' : (mk p.1).size ≤ 281474976710656 := by rw [mk_size]; exact hs
  obtain ⟨v, ps, hrun, hv⟩ := h.lookup law9 Try.underlying66 (zero82 w) (zd := .nil) (zp := []) rfl (key9 (mk p.1) hs')
  rw [bs_mk, at_D, lkp_at (owns_apart h) p hp] at hv
  rw [enc_mk, hrun]
  rcases RP_inv hv with ⟨_, e2⟩ | ⟨g, e, e2⟩
  · cases e2
  · rw [e]
    have : pos p.2 = g := by injection e2 with e2; injection e2 with _ e2; exact Int.ofNat_inj.1 e2
    rw [← this]; rfl
theorem crash_end {base b : Nat} {y : Lay} {d : Dk} {w : World} (h : DK base b y d w) :
    Has base b { d with plan := [], down := false } ((w.setCell ⟨b, 3, none⟩ (.slice none 0 0)).setCell ⟨b, 5, none⟩ (.bool false)) ∧ Ev DT base w ((w.setCell ⟨b, 3, none⟩ (.slice none 0 0)).setCell ⟨b, 5, none⟩ (.bool false)) := by
  have h1 := set_at (i := 3) h.disk (.slice none 0 0)
  have h2 := set_at (i := 5) h1 (.bool false)
  have ok := h.ok
  refine ⟨⟨{ y with pv := .slice none 0 0 }, ?_⟩, (Ev.set h.disk h.bb rfl _).trans (Ev.set h1 h.bb rfl _)⟩
  refine h.own (fun k hk hne _ => (set_ne hne _).trans (set_ne hne _)) (by rw [size_set, size_set]; exact Nat.le_refl _) rfl rfl rfl rfl h2 rfl rfl rfl (row_later h.op fun g hg => ?_) (Or.inl ⟨rfl, none, 0, rfl⟩) ⟨ok.names, ok.last, ok.opens, ok.nlen, ok.llen, fun f hf => by simp at hf⟩
  have hne : g ≠ b := fun e => by
    have := (row_kd h.op hg).1
    rw [e, kd_cells h.disk] at this
    cases this
  exact (set_ne hne _).trans (set_ne hne _)
/- behind one file, in memory -/
theorem file_done {base b : Nat} {E : Dk} {bytes : List Int} {w wr w5 : World} {B0 : Nat} {cn : Int} {bv : Value} {g cap i : Nat} {yy : Lay} (R : CR base b E bytes w B0 cn bv g cap i wr) (hd : DK base b yy (mid E bytes i) wr) (hi : i < E.last.length) (x : Bs × Nat) (hx : (mid E bytes i).files[(E.last[i]).2]? = some x) (tv : Value)
    (q5 : FileAt base w5 (yy.pos (E.last[i]).2) tv (cutF (x.2 + within (outl bytes i) (x.1.length - x.2)) x)) (ho : tv.ownBlock = (yy.tv (E.last[i]).2).ownBlock) (hk : ∀ k, k ≠ yy.pos (E.last[i]).2 → w5.heap[k]? = wr.drew.heap[k]?) (hs : w5.heap.size = wr.drew.heap.size) (ev : Ev DT base wr.drew w5) :
    CR base b E bytes w B0 cn bv g cap (i + 1) (w5.setCell ⟨yy.pos (E.last[i]).2, 1, none⟩ (.int .i64 ((cutF (x.2 + within (outl bytes i) (x.1.length - x.2)) x).1.length : Int))) := by
  have ev6 : Ev DT base wr (w5.setCell ⟨yy.pos (E.last[i]).2, 1, none⟩ (.int .i64 ((cutF (x.2 + within (outl bytes i) (x.1.length - x.2)) x).1.length : Int))) := ((Ev.refl DT base wr).drew.trans ev).trans (Ev.set q5.blk q5.low rfl _)
  have hne : ∀ g, tv.ownBlock = some g → g ≠ yy.pos (E.last[i]).2 := fun g hg e => by
    have := (row_kd q5.row hg).1
    rw [e, kd_cells q5.blk] at this
    cases this
  obtain ⟨b0, hrow⟩ := R.row
  have hdk : DK base b { yy with tv := fun j => if j = (E.last[i]).2 then tv else yy.tv j } (mid E bytes (i + 1)) (w5.setCell ⟨yy.pos (E.last[i]).2, 1, none⟩ (.int .i64 ((cutF (x.2 + within (outl bytes i) (x.1.length - x.2)) x).1.length : Int))) := by
    rw [← mid_step hi]
    exact DK.turn1 hd (E.last[i]).2 x hx _ tv (fun k hk2 h1 h2 => (set_ne h1 _).trans (hk k h1)) (by rw [size_set, hs]; exact Nat.le_refl _) ⟨set_at q5.blk _, row_later q5.row fun k hk2 => set_ne (hne k hk2) _, q5.low, Nat.le_refl _, q5.big⟩ (fun k hk2 => Or.inl (ho ▸ hk2))
  exact ⟨⟨_, hdk⟩, R.ev.trans ev6, (ev6.block B0 (lt_of R.box) (Or.inr (by rw [kd_cells R.box]; rfl))).trans R.box, ⟨b0, row_later hrow fun k hk2 => ev6.block k (row_kd hrow hk2).2.1 (Or.inr (by rw [(row_kd hrow hk2).1]; rfl))⟩⟩
set_option maxRecDepth 100000 in
theorem crash_nil (c : Value) (hc : ∃ n v, c = .agg #[.int .i64 n, v] ∧ ∃ a l k, v = .slice a l k) (w : World) : Calls Try.prog 13 #[.pointer none, c] w fun e w' => e = .returned (.tuple #[]) ∧ Below w.heap.size w w' := by
  obtain ⟨n, v, rfl, a, l, k, rfl⟩ := hc
  go_enter Try.func13, Try.ntmps13
  go_wp2
  refine bodyPost_ret (results_none rfl _ _ _) rfl ?_
  exact ⟨rfl, (Below.refl _ w).alloc (Nat.le_refl _) _⟩
set_option maxHeartbeats 8000000 in
set_option maxRecDepth 100000 in
theorem crash_call (base b : Nat) (y : Lay) (d : Dk) (w : World) (h : DK base b y d w) (cn : Int) (a0 : Option Addr) (n0 c0 : Nat) (bytes : List Int) (hst : d.steps < 1099511627776) (hbl : bytes.length ≤ 9223372036854775807)
    (hB : ∀ W, Ev DT base w W → IntSl W (.slice a0 n0 c0) bytes)
    (hsy : ∀ p ∈ (d.settle (within cn d.opens.length)).last, ∃ t : Bs, d.files[p.2]? = some (t, t.length)) :
    Calls Try.prog 13 #[ptr b, .agg #[.int .i64 cn, .slice a0 n0 c0]] w fun e w' => e = .returned (.tuple #[]) ∧ Has base b (d.crash cn bytes) w' ∧ Ev DT base w w' := by
  have k0 := h.alloc (.cells #[.int .i64 cn, .slice a0 n0 c0] 36)
  obtain ⟨ao, co, hov⟩ := row_shape h.op
  have b0 : (w.alloc (.cells #[.int .i64 cn, .slice a0 n0 c0] 36)).drew.cell? ⟨w.heap.size, 0, none⟩ = some (.int .i64 cn) := Lib.cell_of_heap (heap_alloc_new w _) 0
  have c2 : (w.alloc (.cells #[.int .i64 cn, .slice a0 n0 c0] 36)).drew.cell? ⟨b, 2, none⟩ = some (.slice ao d.opens.length co) := by rw [← hov]; exact k0.cell 2
  have HW := hid_of (within_call cn d.opens.length (w.alloc (.cells #[.int .i64 cn, .slice a0 n0 c0] 36)).drew)
  have HSt := hid_of (settle_call base b y d _ (k0.below (Below.refl _ _).drew) (within cn d.opens.length) (within_le _ _) hst)
  unfold ptr at HSt
  have HBX : Hid ((w.alloc (.cells #[.int .i64 cn, .slice a0 n0 c0] 36)).drew.heap[w.heap.size]? = some (.cells #[.int .i64 cn, .slice a0 n0 c0] 36 (0, 0))) := heap_alloc_new w _
  have H := hid_of h
  have HB := hid_of hB
  have EV0 : Hid (Ev DT base w (w.alloc (.cells #[.int .i64 cn, .slice a0 n0 c0] 36)).drew) := ((Ev.refl DT base w).alloc _).drew
  have OK := hid_of h.ok
  clear h hB k0 hov
  unfold ptr
  go_enter Try.func13, Try.ntmps13
  go_wp2_with fail
  go_region_with (first
    | (go_at_call 43; refine HW.out.mono ?_; rintro e wy ⟨rfl, rfl⟩)
    | (go_at_call 42; refine HSt.out.mono ?_; rintro e w1 ⟨rfl, ⟨ov, k1⟩, ev1⟩; have K1 := hid_of k1; have V1 := hid_of (EV0.out.trans ev1); have X1 := hid_of ((ev1.block w.heap.size (lt_of HBX.out) (Or.inr (by rw [kd_cells HBX.out]; rfl))).trans HBX.out); clear k1 ev1))
  all_goals (
    obtain ⟨E, hE⟩ : ∃ E, E = d.settle (within cn d.opens.length) := ⟨_, rfl⟩
    rw [← hE] at K1 hsy
    have hEf : E.files = d.files := by rw [hE]; rfl
    rw [← hEf] at hsy
    have HSY := hid_of hsy
    clear hsy hEf
    have HFin : Hid (d.crash cn bytes = { mid E bytes E.last.length with plan := [], down := false }) := by
      unfold Dk.crash mid
      dsimp only
      rw [← hE, List.take_of_length_le (Nat.le_refl _)]
      exact hid_of rfl
    have HEs : Hid (E.last.length < 1099511627776) := by
      have h1 := K1.out.ok.llen
      have h2 : E.steps = d.steps := by rw [hE]; rfl
      exact Nat.lt_of_le_of_lt (Nat.le_trans (Nat.le_add_right _ _) h1) (by rw [h2]; exact hst)
    clear hE b0 c2 HW HSt
    have HCl := hid_of (Try.maps_Clone_owns 9 RP y.bl _ _ w1 K1.out.ls)
    have l1 : w1.cell? ⟨b, 1, none⟩ = some (.map (some y.bl)) := K1.out.cell 1
    go_wp2_with fail
    refine HCl.out.mono ?_
    rintro e w2 ⟨rfl, m2, m2', bl2⟩
    have k2 := K1.out.below bl2
    have cc0 : w2.cell? ⟨b, 0, none⟩ = some (.map (some y.bn)) := k2.cell 0
    have ff0 : w2.frozen? ⟨b, 0, none⟩ = false := k2.frozen 0
    have k3 := DK.cloned k2 m2 K1.out.hb (Nat.ne_of_gt K1.out.ls.lt)
    have HR := hid_of (rising_call w1.heap.size _ _ _ _ k3.nm k3.ok.names HEs.out)
    have V3 := hid_of ((V1.out.trans (Ev.of_below bl2)).trans (Ev.set (i := 0) k2.disk k2.bb rfl (.map (some w1.heap.size))))
    have X3 : Hid ((w2.setCell ⟨b, 0, none⟩ (.map (some w1.heap.size))).heap[w.heap.size]? = some (.cells #[.int .i64 cn, .slice a0 n0 c0] 36 (0, 0))) := by
      have hx2 := (bl2.block _ (lt_of X1.out)).trans X1.out
      rw [set_ne (fun e => by rw [e, k2.disk] at hx2; cases hx2)]
      exact hx2
    have K3 := hid_of k3
    clear m2 m2' bl2 k2 k3 l1
    go_wp2_with fail
    refine HR.out.mono ?_
    rintro e w4 ⟨g, cap, rfl, hr4, bl4⟩
    have R0 : Hid (CR base b E bytes w w.heap.size cn (.slice a0 n0 c0) g cap 0 w4) := ⟨⟨_, K3.out.below bl4⟩, V3.out.trans (Ev.of_below bl4), (bl4.block _ (lt_of X3.out)).trans X3.out, ⟨_, hr4⟩⟩
    clear hr4 bl4 cc0 ff0 HR HCl
    go_wp2_with fail
    go_loopg [33] E.last.length (fun gg s33 wx => ∃ k : Nat, k ≤ E.last.length ∧ E.last.length ≤ k + gg ∧ s33 = .int .i64 k ∧ Hid (CR base b E bytes w w.heap.size cn (.slice a0 n0 c0) g cap k wx))
    case atStart => exact ⟨0, by omega, by omega, rfl, R0⟩
    case round =>
      obtain ⟨k, hk, hg, rfl, R⟩ := hrel
      by_cases hlt : k < E.last.length
      · obtain ⟨g', rfl⟩ : ∃ g', gk = g' + 1 := ⟨gk - 1, by omega⟩
        obtain ⟨yy, hd⟩ := R.out.dk
        have hmem : E.last[k] ∈ E.last := List.getElem_mem hlt
        have hid : (E.last[k]).2 < (mid E bytes k).files.length := hd.ok.names.ids _ hmem
        obtain ⟨xt, hxt⟩ := HSY.out _ hmem
        obtain ⟨x, hxe⟩ : ∃ x : Bs × Nat, x = (xt, xt.length) := ⟨_, rfl⟩
        have hx : (mid E bytes k).files[(E.last[k]).2]? = some x := by
          show (crashFiles bytes 0 (E.last.take k) E.files)[(E.last[k]).2]? = some x
          rw [files_same bytes _ 0 _ (fun p hp => HSY.out p (List.mem_of_mem_take hp)), hxt, hxe]
        have hx2 : x.2 = x.1.length := by rw [hxe]
        have q := hd.fl _ x hx
        obtain ⟨at0, ct0, htv⟩ := row_shape q.row
        have hlk := look_one hd.nm (E.last[k]) hmem (hd.ok.names.len _ hmem)
        unfold ptr at hlk
        have d0 : wr.cell? ⟨b, 0, none⟩ = some (.map (some yy.bn)) := hd.cell 0
        obtain ⟨bs0, hrow⟩ := R.out.row
        have n0c : wr.cell? ⟨g, k, none⟩ = some (encStr (E.last[k]).1) := by
          rw [hrow.cellAt k (by omega)]
          unfold keys
          simp [hlt]
        have HFD0 := fun w5 => file_done (w5 := w5) R.out hd hlt x hx
        have hle := q.le
        have hbig := q.big
        have hwl := within_le (outl bytes k) (x.1.length - x.2)
        have eS : IntKind.i64.wrap ((x.1.length : Int) - (x.2 : Int)) = ((x.1.length - x.2 : Nat) : Int) := by rw [IntWalk.i64_in _ (by omega)]; omega
        have eA : IntKind.i64.wrap ((x.2 : Int) + ((within (outl bytes k) (x.1.length - x.2) : Nat) : Int)) = ((x.2 + within (outl bytes k) (x.1.length - x.2) : Nat) : Int) := by rw [IntWalk.i64_in _ (by omega)]; omega
        have HO := hid_of (outliving_call (.slice a0 n0 c0) bytes k wr.drew (HB.out _ (R.out.ev.drew)) (by have := HEs.out; omega) hbl)
        have HW2 := hid_of (within_call (outl bytes k) (x.1.length - x.2) wr.drew)
        have hw0 : within (outl bytes k) (x.1.length - x.2) = 0 := by rw [hx2]; unfold within; omega
        have ecut : cutF (x.2 + within (outl bytes k) (x.1.length - x.2)) x = x := by
          rw [hw0, hxe]
          unfold cutF
          simp
        have HCu0 := cut_same base (yy.pos (E.last[k]).2) (yy.tv (E.last[k]).2) xt wr.drew (by rw [← hxe]; exact file_later q rfl (fun _ _ => rfl))
        have HCu := hid_of HCu0
        rw [← hxe, show ((xt.length : Nat) : Int) = ((x.2 + within (outl bytes k) (x.1.length - x.2) : Nat) : Int) from by rw [hw0, hxe]; rfl] at HCu
        clear HCu0
        rw [ecut] at HFD0
        have HFD := hid_of (fun (w5 : World) (q5 : FileAt base w5 (yy.pos (E.last[k]'hlt).2) (yy.tv (E.last[k]'hlt).2) x) => HFD0 w5 (yy.tv (E.last[k]'hlt).2) q5 rfl)
        clear HFD0
        unfold ptr at HCu
        have t0 : wr.drew.cell? ⟨yy.pos (E.last[k]).2, 0, none⟩ = some (.slice at0 x.1.length ct0) := by rw [← htv]; exact Lib.cell_of_heap q.blk 0
        have t1 : wr.drew.cell? ⟨yy.pos (E.last[k]).2, 1, none⟩ = some (.int .i64 x.2) := Lib.cell_of_heap q.blk 1
        have t2 : wr.drew.cell? ⟨w.heap.size, 1, none⟩ = some (.slice a0 n0 c0) := Lib.cell_of_heap R.out.box 1
        have ew : IntKind.i64.wrap ((k : Int) + 1) = (k : Int) + 1 := IntWalk.i64_in _ (by have := HEs.out; omega)
        have gi : ((k : Int)) < (E.last.length : Int) := by omega
        have hne0 : w.heap.size ≠ yy.pos (E.last[k]).2 := fun e => by
          have h1 := kd_cells R.out.box
          rw [e, kd_cells q.blk] at h1
          cases h1
        have hbx : wr.drew.heap[w.heap.size]? = some (.cells #[.int .i64 cn, .slice a0 n0 c0] 36 (0, 0)) := R.out.box
        obtain ⟨fb, hfb⟩ : ∃ fb, fb = yy.pos (E.last[k]).2 := ⟨_, rfl⟩
        rw [← hfb] at HFD hlk HCu t0 t1 hne0
        have HNE := hid_of hne0
        have HBX2 := hid_of hbx
        obtain ⟨wi, hwi⟩ : ∃ wi, wi = within (outl bytes k) (x.1.length - x.2) := ⟨_, rfl⟩
        rw [← hwi] at eA HW2 HCu
        obtain ⟨xl, hxl⟩ : ∃ xl, xl = x.1.length - x.2 := ⟨_, rfl⟩
        rw [← hxl] at eS HW2
        obtain ⟨ob, hob⟩ : ∃ ob, ob = outl bytes k := ⟨_, rfl⟩
        rw [← hob] at HO HW2
        have hkm : k < maxLen := by unfold maxLen; have := HEs.out; omega
        obtain ⟨tv0, htv0⟩ : ∃ tv0, tv0 = yy.tv (E.last[k]).2 := ⟨_, rfl⟩
        rw [← htv0] at HFD HCu htv
        have HTV := hid_of htv
        clear hd hmem hid hx q htv hrow hfb hle hbig hwl hwi hxl hob hne0 hbx htv0 hxe hx2 hw0 ecut hxt
        go_wp2_with fail
        go_region_held3 (fun W => W.cell? ⟨fb, 0, none⟩ = some (.slice at0 x.1.length ct0) ∧ W.cell? ⟨fb, 1, none⟩ = some (.int .i64 (x.2 : Int)) ∧ W.cell? ⟨w.heap.size, 1, none⟩ = some (.slice a0 n0 c0)) (first | exact ⟨t0, t1, t2⟩ | exact ⟨s0, s1, sB⟩) (first
          | (go_at_call 47; refine HO.out.mono ?_; rintro e wy ⟨rfl, rfl⟩)
          | (go_at_call 43; refine HW2.out.mono ?_; rintro e wy ⟨rfl, rfl⟩)
          | (go_at_call 46; refine HCu.out.mono ?_; rintro e w5 ⟨rfl, q5, hk5, hs5, ev5⟩; have Q5 := hid_of (HFD.out w5 q5 hk5 hs5 ev5); have s0 : w5.cell? ⟨fb, 0, none⟩ = some (.slice at0 x.1.length ct0) := (Lib.cell_of_heap q5.blk 0).trans (congrArg some HTV.out); have s1 : w5.cell? ⟨fb, 1, none⟩ = some (.int .i64 (x.2 : Int)) := Lib.cell_of_heap q5.blk 1; have s2 := Lib.frozen_of_heap q5.blk 1; have sB : w5.cell? ⟨w.heap.size, 1, none⟩ = some (.slice a0 n0 c0) := Lib.cell_of_heap ((hk5 _ HNE.out).trans HBX2.out) 1; clear q5 hk5 hs5 ev5))
        all_goals (
          go_wp2_with fail
          go_roundg g'
          case measure => omega
          case rel => exact ⟨k + 1, by omega, by omega, by simp, Q5⟩)
      · obtain rfl : k = E.last.length := by omega
        have gi : ¬ ((E.last.length : Int)) < (E.last.length : Int) := by omega
        obtain ⟨yy, hd⟩ := R.out.dk
        have HEn := hid_of (crash_end hd)
        have d3 : wr.cell? ⟨b, 3, none⟩ = some yy.pv := hd.cell 3
        have z3 : wr.frozen? ⟨b, 3, none⟩ = false := hd.frozen 3
        have d5 : wr.cell? ⟨b, 5, none⟩ = some (.bool (mid E bytes E.last.length).down) := hd.cell 5
        have z5 : wr.frozen? ⟨b, 5, none⟩ = false := hd.frozen 5
        have VV := hid_of R.out.ev
        clear hd
        go_wp2_with fail
        go_end0
        exact ⟨rfl, by rw [HFin.out]; exact HEn.out.1, VV.out.trans HEn.out.2⟩)
end Go.Proofs.Ytilbffbmpgebmaa.CrashS
