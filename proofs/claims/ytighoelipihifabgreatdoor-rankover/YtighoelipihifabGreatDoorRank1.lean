/- A rank's Len, Score, Drop, Set. -/
import Derived.Test.YtighoelipihifabGreatDoorSorts
namespace Go.Proofs.YtighoelipihifabGreatDoor.Rank1
open Go.RowKit Go.Maps Go.Sort
open Go.Proofs.YtighoelipihifabGreatDoor.MapMath
open Go.Proofs.YtighoelipihifabGreatDoor.RankMath
open Go.Proofs.YtighoelipihifabGreatDoor.RankMath2
open Go.Proofs.YtighoelipihifabGreatDoor.RankMath3
open Go.Proofs.YtighoelipihifabGreatDoor.Base
open Go.Proofs.YtighoelipihifabGreatDoor.Cmp
open Go.Proofs.YtighoelipihifabGreatDoor.Tree
open Go.Proofs.YtighoelipihifabGreatDoor.Settle
open Go.Proofs.YtighoelipihifabGreatDoor.With
open Go.Proofs.YtighoelipihifabGreatDoor.Without
set_option linter.unusedVariables false

set_option maxRecDepth 100000 in
theorem isScore_call (n : Int) (w : World) : Calls Tryz.prog 16 #[.int .i64 n] w fun e w' => e = .returned (.bool (decide (May n))) ∧ w' = w := by
  by_cases h1 : -9007199254740992 ≤ n
  · by_cases h2 : n ≤ 9007199254740992
    · have HM : Hid (decide (May n) = true) := hid_of (decide_eq_true ⟨h1, h2⟩)
      go_enter Tryz.func16, Tryz.ntmps16
      go_wp2
      go_ret
      exact ⟨by rw [HM.out]; rfl, rfl⟩
    · have HM : Hid (decide (May n) = false) := hid_of (decide_eq_false fun h => h2 h.2)
      go_enter Tryz.func16, Tryz.ntmps16
      go_wp2
      go_ret
      exact ⟨by rw [HM.out]; rfl, rfl⟩
  · have HM : Hid (decide (May n) = false) := hid_of (decide_eq_false fun h => h1 h.1)
    go_enter Tryz.func16, Tryz.ntmps16
    go_wp2
    go_ret
    exact ⟨by rw [HM.out]; rfl, rfl⟩
set_option maxRecDepth 100000 in
theorem len_nil (w : World) : Calls Tryz.prog 28 #[.pointer none] w fun e w' => e = .returned (.int .i64 0) ∧ w' = w := by
  go_enter Tryz.func28, Tryz.ntmps28
  go_wp2
  go_ret
  exact ⟨rfl, rfl⟩
set_option maxRecDepth 100000 in
theorem len_call {B b : Nat} {l : EL} {w : World} (h : RK B b l w) : Calls Tryz.prog 28 #[ptr b] w fun e w' => e = .returned (.int .i64 (l.length : Int)) ∧ w' = w := by
  obtain ⟨m, t, ml, h⟩ := h
  have c1 := h.c1
  have H := hid_of (tlen_call t w h.tr)
  rw [h.list] at H
  clear h
  unfold ptr
  unfold T.ptr at *
  generalize t.addr = A at *
  go_enter Tryz.func28, Tryz.ntmps28
  go_wp2_with fail
  refine H.out.mono ?_
  rintro e w1 hw1
  obtain ⟨rfl, rfl⟩ := hw1
  go_wp2_with fail
  go_ret
  exact ⟨rfl, rfl⟩
set_option maxRecDepth 100000 in
theorem score_nil (s : ByteArray) (w : World) : Calls Tryz.prog 25 #[.pointer none, .string s] w fun e w' => e = .returned (.tuple #[.int .i64 0, .bool false]) ∧ w' = w := by
  go_enter Tryz.func25, Tryz.ntmps25
  go_wp2
  go_ret2
  exact ⟨rfl, rfl⟩
set_option maxRecDepth 100000 in
theorem score_call {B b : Nat} {l : EL} {w : World} (h : RK B b l w) (k : Bs) (hk : k.length ≤ 140737488355328) : Calls Tryz.prog 25 #[ptr b, .string (mk k)] w fun e w' => e = .returned (.tuple #[.int .i64 (valI l k), .bool (ok l k)]) ∧ w' = w := by
  obtain ⟨m, t, ml, h⟩ := h
  have c0 := h.c0
  have hl := look_run h.map (mk k) (by rw [mk_size]; exact hk)
  rw [bs_mk, h.val, h.ok] at hl
  clear h
  unfold ptr
  go_enter Tryz.func25, Tryz.ntmps25
  go_wp2
  go_ret2
  exact ⟨rfl, rfl⟩
set_option maxRecDepth 100000 in
theorem drop_nil (s : ByteArray) (w : World) : Calls Tryz.prog 15 #[.pointer none, .string s] w fun e w' => e = .returned (.bool false) ∧ w' = w := by
  have H := hid_of (score_nil s w)
  go_enter Tryz.func15, Tryz.ntmps15
  go_wp2_with fail
  refine H.out.mono ?_
  rintro e w1 hw1
  obtain ⟨rfl, rfl⟩ := hw1
  go_wp2_with fail
  go_ret
  exact ⟨rfl, rfl⟩
/- the map has turned -/
theorem rx_map {B b m : Nat} {t : T} {ml l : EL} {w w1 : World} (h : RX B b m t ml l w) (ht : w.mapTurned w1 m) : w1.heap[b]? = some (.cells #[.map (some m), t.ptr] 52 (0, 0)) ∧ Tr w1 t ∧ Ev B w w1 := by
  have mo : Mo (fun k => k = m) w w1 := Mo.turned ht rfl
  refine ⟨(mo.block b (lt_of h.blk) h.bm).trans h.blk, h.tr.mo mo (fun k hk e => h.mt (e ▸ hk)), mo.mono fun i _ e => ?_⟩
  obtain ⟨es, c, hm⟩ := owns_map h.map
  subst e
  exact ⟨h.mb, by rw [kd_map hm]; rfl⟩
/- .. and then the tree -/
theorem rx_tree {B b m : Nat} {t t' : T} {ml l ml' l' : EL} {w w1 W w2 : World} {L : EL} (h : RX B b m t ml l w) (ht : w.mapTurned w1 m) (hW : Below w1.heap.size w1 W) (hR : Rs L (fun k => k ∈ t.blks) W t' w2) (hm : OM w1 m ml') (ris : Ris ml') (perm : ml'.Perm l') (hl : L = l') (srt : Srt l') (uq : Uq l') (len : ∀ p ∈ l', p.1.length ≤ 140737488355328) (may : AllMay l') :
    RK B b l' (w2.setCell ⟨b, 1, none⟩ t'.ptr) ∧ Ev B w (w2.setCell ⟨b, 1, none⟩ t'.ptr) ∧ w2.cell? ⟨b, 1, none⟩ = some t.ptr ∧ w2.frozen? ⟨b, 1, none⟩ = false := by
  obtain ⟨a1, a2, a3⟩ := rx_map h ht
  have e3 : Mo (EvS B w) w w1 := a3
  have hb1 : b < w1.heap.size := lt_of a1
  have hbW : W.heap[b]? = some (.cells #[.map (some m), t.ptr] 52 (0, 0)) := (hW.block b hb1).trans a1
  have hb2 : w2.heap[b]? = some (.cells #[.map (some m), t.ptr] 52 (0, 0)) := (hR.mo.block b (lt_of hbW) h.bt).trans hbW
  have m5 : Mo (fun k => k = b) w2 (w2.setCell ⟨b, 1, none⟩ t'.ptr) := Mo.set (S := fun k => k = b) hb2 rfl _
  have hmW : OM W m ml' := owns_later hm (hW.block m hm.lt)
  have hm2 : OM w2 m ml' := owns_later hmW (hR.mo.block m hmW.lt h.mt)
  have hbt : b ∉ t'.blks := fun hh => (hR.own b hh).elim h.bt (fun q => by have := lt_of hbW; omega)
  have hkd : kd w b = 52 + 2 := kd_cells h.blk
  have hkt : ∀ k ∈ t.blks, EvS B w k := fun k hk => ⟨h.tb k hk, by rw [(h.tr.lt k hk).2]; rfl⟩
  have ev : Ev B w (w2.setCell ⟨b, 1, none⟩ t'.ptr) := by
    have q1 : Mo (EvS B w) w W := e3.then_below hW
    have q2 := Mo.trans q1 hR.mo (fun i _ hi => hkt i hi)
    exact Mo.trans q2 m5 (fun i _ hi => by rw [hi]; exact ⟨h.bb, by rw [hkd]; rfl⟩)
  refine ⟨⟨m, t', ml', ?_⟩, ev, Lib.cell_of_heap hb2 1, Lib.frozen_of_heap hb2 1⟩
  exact ⟨set_at hb2 _, owns_later hm2 (m5.block m hm2.lt (fun e => h.bm e.symm)), ris, perm, hR.tr.mo m5 (fun k hk e => hbt (e ▸ hk)), hR.list.trans hl, hR.nd, srt, uq, len, may, h.bb, h.mb, fun k hk => (hR.own k hk).elim (h.tb k) (fun q => by have := h.bb; have := lt_of hbW; omega)⟩
set_option maxHeartbeats 2000000 in
set_option maxRecDepth 100000 in
theorem drop_call {B b : Nat} {l : EL} {w : World} (h : RK B b l w) (k : Bs) (hk : k.length ≤ 140737488355328) (hn : l.length ≤ big) : Calls Tryz.prog 15 #[ptr b, .string (mk k)] w fun e w' => e = .returned (.bool (ok l k)) ∧ RK B b (wout l k) w' ∧ Ev B w w' := by
  have H1 := hid_of (score_call h k hk)
  have HR := hid_of h
  obtain ⟨m, t, ml, h⟩ := h
  cases ho : ok l k with
  | false =>
    rw [ho] at H1
    have HW : Hid (wout l k = l) := hid_of (wout_no ho)
    clear h ho
    unfold ptr
    generalize valI l k = vv at *
    generalize mk k = K at *
    go_enter Tryz.func15, Tryz.ntmps15
    go_wp2_with fail
    refine H1.out.mono ?_
    rintro e w1 hw1
    obtain ⟨rfl, hww⟩ := hw1
    subst hww
    go_wp2_with fail
    go_ret
    exact ⟨rfl, by rw [HW.out]; exact HR.out, Ev.refl _ _⟩
  | true =>
    rw [ho] at H1
    obtain ⟨s, hs⟩ : ∃ s, lkp l k = some s := by unfold ok at ho; exact Option.isSome_iff_exists.1 ho
    have hv : valI l k = s := by unfold valI; rw [hs]; rfl
    rw [hv] at H1
    obtain ⟨w1, hu, hown, hturn⟩ := drop_run h.map (mk k) (by rw [mk_size]; exact hk) 0
    rw [bs_mk] at hown
    obtain ⟨a1, a2, a3⟩ := rx_map h hturn
    have c0 := h.c0
    have d1 : w1.cell? ⟨b, 1, none⟩ = some t.ptr := Lib.cell_of_heap a1 1
    have H2 := hid_of (without_call _ t (k, s) w1 (Nat.le_refl _) a2 h.nd (by rw [h.list]; exact h.srt) (by rw [h.list]; exact hn))
    have HF : Hid (∀ w2 t' q, t'.addr = q ∧ Rs (rmv (k, s) t.list) (fun i => i ∈ t.blks) w1 t' w2 → RK B b (wout l k) (w2.setCell ⟨b, 1, none⟩ (.pointer q)) ∧ Ev B w (w2.setCell ⟨b, 1, none⟩ (.pointer q)) ∧ w2.cell? ⟨b, 1, none⟩ = some t.ptr ∧ w2.frozen? ⟨b, 1, none⟩ = false) := hid_of fun w2 t' q hR => by
      have := rx_tree (l' := wout l k) h hturn (Below.refl _ _) hR.2 hown (wout_ris h.ris k) (wout_perm h.perm k) (by rw [h.list]; exact wout_rmv h.uq hs) (wout_srt h.srt k) (wout_uq h.uq k) (fun p hp => h.len p (wout_mem hp)) (fun p hp => h.may p (wout_mem hp))
      unfold T.ptr at this
      rw [hR.1] at this
      exact this
    clear h ho hs hv hown hturn a1 a2 a3 HR
    unfold ptr
    unfold T.ptr eV at *
    generalize t.addr = A at *
    generalize mk k = K at *
    go_enter Tryz.func15, Tryz.ntmps15
    go_wp2_with fail
    refine H1.out.mono ?_
    rintro e w0 hw0
    obtain ⟨rfl, hww⟩ := hw0
    subst hww
    go_wp2_with fail
    refine H2.out.mono ?_
    rintro e w2 ⟨q2, t2, rfl, R2⟩
    obtain ⟨f1, f2, f3, f4⟩ := HF.out w2 t2 q2 R2.out
    have F1 := hid_of f1
    have F2 := hid_of f2
    clear f1 f2 HF
    go_wp2_with fail
    go_ret
    exact ⟨rfl, F1.out, F2.out⟩
theorem eql_map (m : Nat) (w : World) : (binOp .eql 45 (.map (some m)) (.map none)).run Tryz.prog w = .ok (.bool false) w := by kernel_rfl
set_option maxRecDepth 100000 in
theorem set_nil (s : ByteArray) (n : Int) (w : World) : Calls Tryz.prog 12 #[.pointer none, .string s, .int .i64 n] w fun e w' => e = .returned (.tuple #[.bool false, .int .i64 0]) ∧ w' = w := by
  go_enter Tryz.func12, Tryz.ntmps12
  go_wp2
  go_ret2
  exact ⟨rfl, rfl⟩
set_option maxRecDepth 100000 in
theorem set_no {B b : Nat} (k : Bs) (n : Int) (w : World) (hm : ¬ May n) : Calls Tryz.prog 12 #[ptr b, .string (mk k), .int .i64 n] w fun e w' => e = .returned (.tuple #[.bool false, .int .i64 120]) ∧ w' = w := by
  have H := hid_of (isScore_call n w)
  rw [decide_eq_false hm] at H
  unfold ptr
  go_enter Tryz.func12, Tryz.ntmps12
  go_wp2_with fail
  refine H.out.mono ?_
  rintro e w1 hw1
  obtain ⟨rfl, rfl⟩ := hw1
  go_wp2_with fail
  go_ret2
  exact ⟨rfl, rfl⟩
set_option maxHeartbeats 2000000 in
set_option maxRecDepth 100000 in
theorem set_call {B b : Nat} {l : EL} {w : World} (h : RK B b l w) (k : Bs) (n : Int) (hk : k.length ≤ 140737488355328) (hn : l.length < big) (hm : May n) : Calls Tryz.prog 12 #[ptr b, .string (mk k), .int .i64 n] w fun e w' => e = .returned (.tuple #[.bool (!ok l k), .int .i64 0]) ∧ RK B b (setE l k n) w' ∧ Ev B w w' := by
  have H1 := hid_of (isScore_call n w)
  rw [decide_eq_true hm] at H1
  have H2 := hid_of (drop_call h k hk (Nat.le_of_lt hn))
  have HD : Hid (∀ w0, RK B b (wout l k) w0 → Ev B w w0 → ∃ m A w1, w0.cell? ⟨b, 0, none⟩ = some (.map (some m)) ∧ (Instr.mapUpdate 45 (.map (some m)) (.string (mk k)) (.int .i64 n)).run Tryz.prog w0 = .ok () w1 ∧ w1.cell? ⟨b, 1, none⟩ = some (.pointer A) ∧ Hid (Calls Tryz.prog 32 #[.pointer A, eV (k, n)] w1 fun e w' => ∃ q, e = .returned (.pointer q) ∧ Hid (RK B b (setE l k n) (w'.setCell ⟨b, 1, none⟩ (.pointer q)) ∧ Ev B w (w'.setCell ⟨b, 1, none⟩ (.pointer q))) ∧ w'.cell? ⟨b, 1, none⟩ = some (.pointer A) ∧ w'.frozen? ⟨b, 1, none⟩ = false)) := hid_of fun w0 hr he => by
    obtain ⟨m, t, ml, h0⟩ := hr
    have hml : ml.length ≤ big := by
      rw [h0.perm.length_eq]
      have := wout_len l k
      omega
    obtain ⟨w1, hu, hown, hturn⟩ := store_run h0.map (by unfold big at hml; omega) (mk k) n (by rw [mk_size]; exact hk)
    rw [bs_mk] at hown
    obtain ⟨a1, a2, a3⟩ := rx_map h0 hturn
    have hlw : (wout l k).length < big := Nat.lt_of_le_of_lt (wout_len l k) hn
    have hnk : MapMath.ok ml k = false := by
      rw [h0.ok]
      cases hh : MapMath.ok (wout l k) k with
      | false => rfl
      | true => obtain ⟨p, hp, e⟩ := ok_iff.1 hh; exact absurd e (wout_none p hp)
    refine ⟨m, t.addr, w1, h0.c0, hu, Lib.cell_of_heap a1 1, hid_of ?_⟩
    refine (with_call t (k, n) w1 a2 h0.nd (by rw [h0.list]; exact h0.srt) (by rw [h0.list]; exact wout_no_mem l k n) (by rw [h0.list]; exact hlw)).mono fun e w' hz => ?_
    obtain ⟨q, t', hz1, hz2⟩ := hz
    have hp : (withL ml k n).Perm (setE l k n) := by
      refine (with_perm ml k n).trans (List.Perm.trans ?_ (setE_perm l k n).symm)
      refine List.Perm.cons _ ?_
      rw [wout_no hnk]
      exact h0.perm
    have hs0 : Srt (setE l k n) := put_srt h0.srt (wout_no_mem l k n)
    have hu0 : Uq (setE l k n) := by
      refine uq_perm (setE_perm l k n).symm ?_
      unfold Uq
      rw [List.map_cons, List.nodup_cons]
      refine ⟨fun h => ?_, h0.uq⟩
      obtain ⟨p, hp, e⟩ := List.mem_map.1 h
      exact wout_none p hp e
    have hr2 := rx_tree (l' := setE l k n) h0 hturn (Below.refl _ _) hz2.out.2 hown (with_ris h0.ris k n) hp (by rw [h0.list]; rfl) hs0 hu0 (fun p hp => by
      rcases put_mem.1 hp with rfl | hp
      · exact hk
      · exact h0.len p hp) (fun p hp => by
      rcases put_mem.1 hp with rfl | hp
      · exact hm
      · exact h0.may p hp)
    unfold T.ptr at hr2
    rw [hz2.out.1] at hr2
    exact ⟨q, hz1, ⟨hr2.1, Ev.trans he hr2.2.1⟩, hr2.2.2.1, hr2.2.2.2⟩
  have HQ := hid_of eql_map
  clear h hm
  unfold ptr
  unfold eV at *
  generalize hK : mk k = K at *
  clear hK
  generalize ok l k = OK at *
  go_enter Tryz.func12, Tryz.ntmps12
  go_wp2_with fail
  refine H1.out.mono ?_
  rintro e w1 hw1
  obtain ⟨rfl, hww⟩ := hw1
  subst hww
  go_wp2_with fail
  refine H2.out.mono ?_
  rintro e w2 hw2
  obtain ⟨rfl, r2, e2⟩ := hw2
  obtain ⟨m, A, w3, c0, hu, c1, H3⟩ := HD.out w2 r2 e2
  have hq := HQ.out m
  clear r2 e2 HD H1 H2
  go_wp2_with fail
  refine H3.out.mono ?_
  rintro e w4 ⟨q4, rfl, R4, k4, z4⟩
  go_wp2_with fail
  go_ret2
  exact ⟨rfl, R4.out.1, R4.out.2⟩
end Go.Proofs.YtighoelipihifabGreatDoor.Rank1
