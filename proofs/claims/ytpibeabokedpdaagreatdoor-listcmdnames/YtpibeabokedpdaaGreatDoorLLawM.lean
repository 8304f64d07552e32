/- What the law of listcmd asks with: run, number, bulk, bulks. RPUSH and LPUSH: call.push of listcmd. -/
import Derived.Test.YtpibeabokedpdaaGreatDoorLLenM
import Derived.Test.YtpibeabokedpdaaGreatDoorRowOfM
import Derived.Test.YtpibeabokedpdaaGreatDoorDecM
import Derived.BigQuiet
import Derived.Deep.DeepCutAuto
import Derived.Deep.RegionHeld3
section
namespace Go.Proofs.YtpibeabokedpdaaGreatDoor.LLaw
open Go.RowKit Go.Maps
open Go.Proofs.YtpibeabokedpdaaGreatDoor.SpaceMath (wout withL lkp keys Ris toD)
open Go.Proofs.YtpibeabokedpdaaGreatDoor.ValueMath (Vl chk small)
open Go.Proofs.YtpibeabokedpdaaGreatDoor.Base (mk mk_list mk_size Gr hid_of SL)
open Go.Proofs.YtpibeabokedpdaaGreatDoor.Turn
open Go.Proofs.YtpibeabokedpdaaGreatDoor.Vals
open Go.Proofs.YtpibeabokedpdaaGreatDoor.SBase
open Go.Proofs.YtpibeabokedpdaaGreatDoor.SFind
open Go.Proofs.YtpibeabokedpdaaGreatDoor.QBase
open Go.Proofs.YtpibeabokedpdaaGreatDoor.LCmd
open Go.Proofs.YtpibeabokedpdaaGreatDoor.LRow (RR rep)
open Go.Proofs.YtpibeabokedpdaaGreatDoor.LBulks (rpL)
set_option linter.unusedVariables false
set_option linter.unusedSimpArgs false
theorem one_box (w : World) (o : Obj) : Below w.heap.size w (w.alloc o) ∧ (w.alloc o).heap[w.heap.size]? = some o ∧ (w.alloc o).heap.size = w.heap.size + 1 := ⟨alb _ _, heap_alloc_new w _, by simp⟩
set_option maxRecDepth 100000 in
theorem number_yes (n : Int) (w : World) :
    Calls Tryz.prog 16 #[rp 3 ⟨#[]⟩ n, .int .i64 n] w fun e w' => e = .returned (.bool true) ∧ Below w.heap.size w w' := by
  obtain ⟨W, hW⟩ : ∃ W, W = w.alloc (rO 3 ⟨#[]⟩ n (.slice none 0 0)) := ⟨_, rfl⟩
  obtain ⟨bW, x0, sW⟩ := one_box w (rO 3 ⟨#[]⟩ n (.slice none 0 0))
  rw [← hW] at bW x0 sW
  have HB := hid_of bW
  have HW := hid_of hW
  obtain ⟨⟨c0, c1, c2, c3⟩, -⟩ := box4 x0
  clear hW bW x0 sW
  go_enter Tryz.func16, Tryz.ntmps16
  go_wp2_with fail
  rw [← HW.out]
  go_wp2_with fail
  go_ret
  exact ⟨rfl, HB.out⟩
set_option maxRecDepth 100000 in
theorem bulk_yes (T : ByteArray) (w : World) :
    Calls Tryz.prog 46 #[rp 4 T 0, .string T] w fun e w' => e = .returned (.bool true) ∧ Below w.heap.size w w' := by
  obtain ⟨W, hW⟩ : ∃ W, W = w.alloc (rO 4 T 0 (.slice none 0 0)) := ⟨_, rfl⟩
  obtain ⟨bW, x0, sW⟩ := one_box w (rO 4 T 0 (.slice none 0 0))
  rw [← hW] at bW x0 sW
  have HB := hid_of bW
  have HW := hid_of hW
  have hTT : (T.toList == T.toList) = true := by simp
  obtain ⟨⟨c0, c1, c2, c3⟩, -⟩ := box4 x0
  clear hW bW x0 sW
  go_enter Tryz.func46, Tryz.ntmps46
  go_wp2_with fail
  rw [← HW.out]
  go_wp2_with fail
  go_ret
  exact ⟨rfl, HB.out⟩
theorem flat_at : ∀ (l : List Bs) (k : Nat) (h : k < l.length) (j : Nat) (v : Value), (rep (l[k]'h))[j]? = some v → (l.flatMap rep)[k * 4 + j]? = some v
  | x :: r, 0, h, j, v, hv => by
    rw [List.flatMap_cons, Nat.zero_mul, Nat.zero_add]
    have hj : j < (rep x).length := (List.getElem?_eq_some_iff.1 hv).1
    rw [List.getElem?_append_left hj]
    exact hv
  | x :: r, k + 1, h, j, v, hv => by
    have ih := flat_at r k (by simpa using h) j v hv
    rw [List.flatMap_cons, List.getElem?_append_right (by simp [rep]; omega)]
    rw [← ih]
    congr 1
    simp [rep]
    omega
theorem rr_at {B : Nat} {w : World} {v : Value} {P : List Bs} (h : RR B w v P) : ∃ a c, v = .slice a P.length c ∧ ∀ k (hk : k < P.length), ∃ g, a = some ⟨g, 0, none⟩ ∧ g < w.heap.size ∧ w.cell? ⟨g, k * 4, none⟩ = some (.int .i64 4) ∧ w.cell? ⟨g, k * 4 + 1, none⟩ = some (.string (mk (P[k]'hk))) ∧ w.cell? ⟨g, k * 4 + 2, none⟩ = some (.int .i64 0) ∧ w.cell? ⟨g, k * 4 + 3, none⟩ = some (.slice none 0 0) := by
  rcases h.2 with ⟨rfl, h0⟩ | ⟨g, cap, cur, rfl, hb, hg, q1, q2, q3, q4⟩
  · refine ⟨none, 0, by rw [h0], fun k hk => by omega⟩
  · refine ⟨_, cap, rfl, fun k hk => ⟨g, rfl, lt_of hg, ?_, ?_, ?_, ?_⟩⟩
    · have := h.cellAt (k * 4) (by omega)
      exact this.trans (flat_at P k hk 0 _ rfl)
    · have := h.cellAt (k * 4 + 1) (by omega)
      exact this.trans (flat_at P k hk 1 _ rfl)
    · have := h.cellAt (k * 4 + 2) (by omega)
      exact this.trans (flat_at P k hk 2 _ rfl)
    · have := h.cellAt (k * 4 + 3) (by omega)
      exact this.trans (flat_at P k hk 3 _ rfl)
theorem rr_ev {w V w1 w2 : World} {v : Value} {P : List Bs} (h : RR V.heap.size w1 v P) (hb : w.heap.size ≤ V.heap.size) (e : Ev (LCmd.Tmp w V) w1 w2) : RR w.heap.size w2 v P := by
  refine ⟨h.1, h.2.imp id ?_⟩
  rintro ⟨g, cap, cur, rfl, hB, hg, r⟩
  exact ⟨g, cap, cur, rfl, Nat.le_trans hb hB, (e.block g (lt_of hg) (fun t => by have := t.2; omega)).trans hg, r⟩
section
variable {F X : Nat → Prop} {b : Nat} {w : World} {S : Sp}
set_option maxHeartbeats 4000000 in
set_option maxRecDepth 100000 in
theorem run_any (h : SP F X b w S) (a : Option Addr) (n c : Nat) {S' : Sp} (rk rn : Int) (rT : ByteArray) (R : World → Option Addr → Nat → Nat → World → Prop) (R' : Option Addr → Nat → Nat → World → Prop)
    (hR : ∀ V la ln lc w1 w2, Below w.heap.size w V → R V la ln lc w1 → Ev (LCmd.Tmp w V) w1 w2 → R' la ln lc w2)
    (hE : ∀ V (X' : Nat → Prop), SP F X' b V S → Below w.heap.size w V → Calls Tryz.prog 8 #[ptr b, .int .i64 0, .slice a n c] V fun e w' => ∃ la ln lc, e = .returned (.tuple #[.agg #[.int .i64 rk, .string rT, .int .i64 rn, .slice la ln lc], .bool true]) ∧ R V la ln lc w' ∧ Dn F X' b V w' S') :
    Calls Tryz.prog 17 #[ptr b, .slice a n c] w fun e w' => ∃ la ln lc, e = .returned (.agg #[.int .i64 rk, .string rT, .int .i64 rn, .slice la ln lc]) ∧ R' la ln lc w' ∧ Dn F X b w w' S' := by
  obtain ⟨W, hW⟩ : ∃ W, W = w.alloc (rO 0 ⟨#[]⟩ 0 (.slice none 0 0)) := ⟨_, rfl⟩
  obtain ⟨bW, x0, sW⟩ := one_box w (rO 0 ⟨#[]⟩ 0 (.slice none 0 0))
  rw [← hW] at bW x0 sW
  have HH := hid_of h
  have HB := hid_of bW
  have HX0 := hid_of x0
  have HSW := hid_of sW
  have HW := hid_of hW
  have HRR := hid_of hR
  have t0 : LCmd.Tmp w W w.heap.size := ⟨Nat.le_refl _, by rw [HSW.out]; omega⟩
  have H1 := hid_of (hE W (fun k => X k ∨ LCmd.Tmp w W k) (sp_wide h bW) bW)
  clear hW bW x0 sW h hE hR
  go_enter Tryz.func17, Tryz.ntmps17
  go_wp2_with fail
  rw [← HW.out]
  go_wp2_with fail
  refine H1.out.mono ?_
  rintro e w1 ⟨la, ln, lc, rfl, r1, d1⟩
  have hl1 : w.heap.size < w1.heap.size := Nat.lt_of_lt_of_le t0.2 (dn_size d1)
  have z2 := (dn_block HH.out HB.out d1 t0).trans HX0.out
  have hz := fin4_at z2 (.int .i64 rk) (.string rT) (.int .i64 rn) (.slice la ln lc)
  have hev := ev_fin4 (w := w) (W := W) (w1 := w1) t0 (.int .i64 rk) (.string rT) (.int .i64 rn) (.slice la ln lc)
  have hdn := dn_tmp HH.out HB.out d1 hev
  have hz2 := ((alb _ (rO rk rT rn (.slice la ln lc))).block _ (lt_of hz)).trans hz
  have hdn2 := SDrop.dn_below hdn (alb _ (rO rk rT rn (.slice la ln lc)))
  have hrr := HRR.out W la ln lc w1 _ HB.out r1 (hev.trans (Ev.of_below (alb _ (rO rk rT rn (.slice la ln lc)))))
  unfold fin4 at hz2 hdn2 hrr
  obtain ⟨⟨v0, v1, v2, v3⟩, fv⟩ := box4 z2
  have fv0 := fv 0
  have fv1 := fv 1
  have fv2 := fv 2
  have fv3 := fv 3
  clear fv z2 hz hdn d1 hev
  go_wp2_with fail
  obtain ⟨⟨g0, g1, g2, g3⟩, -⟩ := box4 hz2
  exact bodyPost_ret (v := (.agg #[.int .i64 rk, .string rT, .int .i64 rn, .slice la ln lc])) (by simp [results, Tryz.results17, go_sem, g0, g1, g2, g3]) rfl ⟨la, ln, lc, rfl, hrr, hdn2⟩
theorem run_do (h : SP F X b w S) (a : Option Addr) (n c : Nat) {S' : Sp} (rk rn : Int) (rT : ByteArray) (hE : ∀ V (X' : Nat → Prop), SP F X' b V S → Below w.heap.size w V → Calls Tryz.prog 8 #[ptr b, .int .i64 0, .slice a n c] V fun e w' => e = .returned (.tuple #[rp rk rT rn, .bool true]) ∧ Dn F X' b V w' S') :
    Calls Tryz.prog 17 #[ptr b, .slice a n c] w fun e w' => e = .returned (rp rk rT rn) ∧ Dn F X b w w' S' :=
  (run_any h a n c rk rn rT (fun _ la ln lc _ => la = none ∧ ln = 0 ∧ lc = 0) (fun la ln lc _ => la = none ∧ ln = 0 ∧ lc = 0) (fun _ _ _ _ _ _ _ h _ => h)
    (fun V X' hS hV => (hE V X' hS hV).mono fun e w' ⟨h1, h2⟩ => ⟨none, 0, 0, h1, ⟨rfl, rfl, rfl⟩, h2⟩)).mono fun e w' ⟨la, ln, lc, h1, h2, h3⟩ => by
      obtain ⟨rfl, rfl, rfl⟩ := h2
      exact ⟨h1, h3⟩
end
set_option maxHeartbeats 4000000 in
set_option maxRecDepth 100000 in
theorem bulks_yes {B : Nat} {G : Nat → Prop} {w : World} {v u : Value} {P : List Bs} (hv : RR B w v P) (hu : SL G w u P) (hl : P.length ≤ 1000000) :
    Calls Tryz.prog 18 #[rpL v, u] w fun e w' => e = .returned (.bool true) ∧ Below w.heap.size w w' := by
  obtain ⟨a, c, rfl, hat⟩ := rr_at hv
  obtain ⟨a', c', rfl, hc', hr⟩ := hu
  obtain ⟨W, hW⟩ : ∃ W, W = w.alloc (rO 6 ⟨#[]⟩ 0 (.slice a P.length c)) := ⟨_, rfl⟩
  obtain ⟨bW, x0, sW⟩ := one_box w (rO 6 ⟨#[]⟩ 0 (.slice a P.length c))
  rw [← hW] at bW x0 sW
  have HB := hid_of bW
  have HX := hid_of x0
  have HW := hid_of hW
  have HA := hid_of hat
  have HR := hid_of hr
  have H1 := hid_of (@bulk_yes)
  obtain ⟨⟨c0, c1, c2, c3⟩, -⟩ := box4 x0
  clear hW bW x0 sW hat hr hv hc'
  go_enter Tryz.func18, Tryz.ntmps18
  go_wp2_with fail
  rw [← HW.out]
  go_wp2_with fail
  go_loopg [5] P.length (fun g s5 wx => ∃ i : Nat, i ≤ P.length ∧ P.length ≤ i + g ∧ s5 = .int .i64 (i : Int) ∧ Hid (Below W.heap.size W wx))
  case atStart => exact ⟨0, by omega, by omega, rfl, hid_of (Below.refl _ _)⟩
  case round =>
    obtain ⟨i, hi, hg, rfl, HBx⟩ := hrel
    by_cases hlt : i < P.length
    · obtain ⟨g', rfl⟩ : ∃ g', gk = g' + 1 := ⟨gk - 1, by omega⟩
      obtain ⟨gr, rfl, hgr, q0, q1, q2, q3⟩ := HA.out i hlt
      obtain ⟨gw, ow, rfl, _, qw⟩ := Base.Rd.get HR.out (by omega)
      have qc : w.cell? ⟨gw, ow + i, none⟩ = some (.string (mk P[i])) := qw i _ (List.getElem?_eq_getElem hlt)
      have BX := HB.out.trans (HBx.out.mono HB.out.size)
      have p0 := (BX.cell (p := ⟨gr, i * 4, none⟩) hgr).trans q0
      have p1 := (BX.cell (p := ⟨gr, i * 4 + 1, none⟩) hgr).trans q1
      have p2 := (BX.cell (p := ⟨gr, i * 4 + 2, none⟩) hgr).trans q2
      have p3 := (BX.cell (p := ⟨gr, i * 4 + 3, none⟩) hgr).trans q3
      have pc := (BX.cell (p := ⟨gw, ow + i, none⟩) (Base.cell_lt qc)).trans qc
      have pb := Lib.cell_of_heap ((HBx.out.block _ (lt_of HX.out)).trans HX.out) 3
      have pb2 : wr.cell? ⟨w.heap.size, 3, none⟩ = some (.slice (some ⟨gr, 0, none⟩) P.length c) := pb
      have w2 : IntKind.i64.wrap ((i : Int) + 1) = (i : Int) + 1 := IntWalk.i64_in _ (by omega)
      have HBX := hid_of HBx.out
      generalize mk P[i] = T at *
      clear BX q0 q1 q2 q3 qw qc pb HBx
      go_wp2_with fail
      go_region_with (first | (go_at_call 46; refine (H1.out T _).mono ?_; rintro e w3 ⟨rfl, b3⟩; have B3 := hid_of (HBX.out.trans ((FRow.bel (Below.refl _ wr).drew b3 (Nat.le_refl _)).mono HBX.out.size)); clear b3))
      all_goals
        go_wp2_with fail
        go_roundg g'
        case measure => omega
        case rel => exact ⟨i + 1, by omega, by omega, by simp, B3⟩
    · have BX := hid_of (HB.out.trans (HBx.out.mono HB.out.size))
      have gi : ¬ (i : Int) < (P.length : Int) := by omega
      go_wp2_with fail
      go_ret
      exact ⟨rfl, BX.out⟩
end Go.Proofs.YtpibeabokedpdaaGreatDoor.LLaw
end
section
namespace Go.Proofs.YtpibeabokedpdaaGreatDoor.LPush
open Go.RowKit Go.Maps
open Go.Proofs.YtpibeabokedpdaaGreatDoor.SpaceMath (wout withL lkp keys Ris toD)
open Go.Proofs.YtpibeabokedpdaaGreatDoor.ValueMath (Vl chk small)
open Go.Proofs.YtpibeabokedpdaaGreatDoor.Base (mk mk_list mk_size Gr hid_of SL)
open Go.Proofs.YtpibeabokedpdaaGreatDoor.Turn
open Go.Proofs.YtpibeabokedpdaaGreatDoor.Vals
open Go.Proofs.YtpibeabokedpdaaGreatDoor.SBase
open Go.Proofs.YtpibeabokedpdaaGreatDoor.SFind
open Go.Proofs.YtpibeabokedpdaaGreatDoor.QBase
open Go.Proofs.YtpibeabokedpdaaGreatDoor.LCmd
open Go.Proofs.YtpibeabokedpdaaGreatDoor.LPut (pL lV)
open Go.Proofs.YtpibeabokedpdaaGreatDoor.DqSBase (DQ)
set_option linter.unusedVariables false
set_option linter.unusedSimpArgs false
section
variable {F X : Nat → Prop} {b : Nat} {w : World} {S : Sp}
set_option maxHeartbeats 8000000 in
set_option maxRecDepth 100000 in
theorem push_last (h : SP F X b w S) (hr : Room S) {G : Nat → Prop} {a : Option Addr} {n c : Nat} {l : List Base.El} (hl : SL G w (.slice a n c) l) (h2 : 1 < l.length) (hkl : ∀ x ∈ l, x.length ≤ 1048576) (now : Int) {L : List Bs} (hLt : ∀ t ∈ L, t.length ≤ 1048576) (hLn : (L.length + l.length) * 16 ≤ 68719476735)
    (hA : ∀ V, Below w.heap.size w V → Calls Tryz.prog 66 #[cV b now a n c, .string (mk l[0])] V fun e w' => (∃ d, e = .returned (.tuple #[ptr d, .string ⟨#[]⟩]) ∧ DQ (fun q => V.heap.size ≤ q) d (L.map mk) w') ∧ Below V.heap.size V w') :
    Calls Tryz.prog 81 #[cV b now a n c, .int .i64 1] w fun e w' => e = .returned (rp 3 ⟨#[]⟩ ((L ++ l.drop 1).length : Int)) ∧ Dn F X b w w' (pL S l[0] (L ++ l.drop 1) (dueV S now l[0])) := by
  obtain ⟨W, hW⟩ : ∃ W, W = (w.alloc (cO b now a n c)).alloc (rO 0 ⟨#[]⟩ 0 (.slice none 0 0)) := ⟨_, rfl⟩
  obtain ⟨bW, x0, x1, sW⟩ := two_boxes w (cO b now a n c) (rO 0 ⟨#[]⟩ 0 (.slice none 0 0)) ⟨_, _, rfl⟩
  rw [← hW] at bW x0 x1 sW
  have hcn : n ≤ c := by
    obtain ⟨a0, c0, e0, hc0', _⟩ := hl
    injection e0 with e1 e2 e3
    omega
  have hsl := LCut.sl_behind hl 1 (by omega)
  have hsm : DqSBase.SL (fun k => ¬ W.heap.size ≤ k) w (.slice (Base.ca a n 1) (n - 1) (n - 1)) ((l.drop 1).map mk) := by
    obtain ⟨a0, c0, e0, hc0', hrd⟩ := hsl
    exact (LAt.sl_mk (G := fun k => G k ∧ k < w.heap.size) ⟨a0, c0, e0, hc0', hrd.lt⟩).mono fun k _ q => by have := q.2; rw [sW]; omega
  obtain ⟨rfl, hcs⟩ := sl_get hl
  obtain ⟨ga, oa, rfl, hc0⟩ := hcs 0 (by omega)
  rw [Nat.add_zero] at hc0
  have i0 : (0 : Int) < (l.length : Int) := by omega
  have hcw : W.cell? ⟨ga, oa, none⟩ = some (.string (mk l[0])) := (bW.cell (p := ⟨ga, oa, none⟩) (Base.cell_lt hc0)).trans hc0
  have q2 : W.cell? ⟨w.heap.size, 2, none⟩ = some (.slice (some ⟨ga, oa, none⟩) l.length c) := Lib.cell_of_heap x0 2
  have q0 : W.cell? ⟨w.heap.size, 0, none⟩ = some (.pointer (some ⟨b, 0, none⟩)) := Lib.cell_of_heap x0 0
  have q1 : W.cell? ⟨w.heap.size, 1, none⟩ = some (.int .i64 now) := Lib.cell_of_heap x0 1
  have hcw2 := hcw
  rw [hW] at hcw2
  have H1 := hid_of (hA W bW)
  have HB2 := hid_of fun (V : World) => LCut.behind_call (some ⟨ga, oa, none⟩) l.length c 1 1 rfl (by omega) hcn V
  have hml : ((l.drop 1).map mk).length = l.length - 1 := by rw [List.length_map, List.length_drop]
  have HLay := hid_of fun (V : World) (hV : Below w.heap.size w V) (d : Nat) (hq : DQ (fun q => W.heap.size ≤ q) d (L.map mk) V) => LLen.lay_last hq (hsm.below hV) (by rw [hml, List.length_map]; omega)
  have hLt2 : ∀ t ∈ (L ++ l.drop 1), t.length ≤ 1048576 := fun t ht => by
    rcases List.mem_append.1 ht with q | q
    · exact hLt t q
    · exact hkl t (List.mem_of_mem_drop q)
  have hLl : (L ++ l.drop 1).length = L.length + (l.length - 1) := by simp; try omega
  have HPut := hid_of fun (V : World) (hV : Below W.heap.size W V) (d : Nat) (Gq : Nat → Prop) (hq : DQ Gq d ((L ++ l.drop 1).map mk) V) => LPut.put_yes ((sp_wide h bW).below hV) hr l[0] (Nat.le_trans (hkl _ (List.getElem_mem _)) (by decide)) hq (by rw [hLl]; omega) (by rw [hLl]; omega) hLt2 now (some ⟨ga, oa, none⟩) l.length c 3 ⟨#[]⟩ ((L ++ l.drop 1).length : Int) none 0 0
  have HME := hid_of (show (L ++ l.drop 1).map mk = L.map mk ++ (l.drop 1).map mk by simp)
  have HH := hid_of h
  have HB := hid_of bW
  have HC0 := hid_of x0
  have HX1 := hid_of x1
  have HSW := hid_of sW
  have HW := hid_of hW
  have H5 := hid_of (@count_call)
  clear hW bW x0 x1 sW hA hl hcs hsl hsm hkl hLt hLn hLt2 hml hLl h
  obtain ⟨R, hR⟩ : ∃ R, R = L ++ l.drop 1 := ⟨_, rfl⟩
  rw [← hR] at HPut HME ⊢
  clear hR
  generalize pL S l[0] R (dueV S now l[0]) = S' at *
  generalize mk l[0] = K at *
  clear hc0
  go_enter Tryz.func81, Tryz.ntmps81
  go_wp2_with fail
  rw [← HW.out]
  refine H1.out.mono ?_
  rintro e w1 ⟨⟨d, rfl, hd⟩, b1⟩
  have HD := hid_of hd
  have B1 := hid_of b1
  have BW1 := hid_of (FRow.bel HB.out b1 (Nat.le_refl _))
  have r2 : w1.cell? ⟨w.heap.size, 2, none⟩ = some (.slice (some ⟨ga, oa, none⟩) l.length c) := Lib.cell_of_heap ((b1.block _ (lt_of HC0.out)).trans HC0.out) 2
  clear hd b1 H1 q0 q1 q2 hcw hcw2
  go_wp2_with fail
  refine (HB2.out w1).mono ?_
  rintro e w1' ⟨rfl, hww⟩
  have hww := hww.symm
  subst hww
  have HL2 := hid_of (HLay.out w1 BW1.out d HD.out)
  clear HLay HD r2
  go_wp2_with fail
  refine HL2.out.mono ?_
  rintro e w2 ⟨rfl, hd2, f2⟩
  have b2 : Below W.heap.size W w2 := B1.out.trans (f2.below B1.out.size (fun k q => q))
  have HD2 := hid_of hd2
  have B2 := hid_of b2
  have BD2 := hid_of (FRow.bel B2.out (Below.refl _ w2).drew (Nat.le_refl _))
  have HLen := hid_of (DqSHeld.len_call (show DQ _ d _ w2.drew from hd2.below (Below.refl _ w2).drew))
  rw [← HME.out, List.length_map] at HLen
  rw [← HME.out] at HD2
  have hc2 := (BD2.out.block _ (lt_of HC0.out)).trans HC0.out
  have u0 : w2.drew.cell? ⟨w.heap.size, 0, none⟩ = some (.pointer (some ⟨b, 0, none⟩)) := Lib.cell_of_heap hc2 0
  have u1 : w2.drew.cell? ⟨w.heap.size, 1, none⟩ = some (.int .i64 now) := Lib.cell_of_heap hc2 1
  have u2 : w2.drew.cell? ⟨w.heap.size, 2, none⟩ = some (.slice (some ⟨ga, oa, none⟩) l.length c) := Lib.cell_of_heap hc2 2
  have s0 : w2.drew.cell? ⟨w.heap.size, 0, none⟩ = some (.pointer (some ⟨b, 0, none⟩)) ∧ w2.drew.cell? ⟨w.heap.size, 1, none⟩ = some (.int .i64 now) ∧ w2.drew.cell? ⟨w.heap.size, 2, none⟩ = some (.slice (some ⟨ga, oa, none⟩) l.length c) := ⟨u0, u1, u2⟩
  have t0 : LCmd.Tmp w W w.heap.size := ⟨Nat.le_refl _, by rw [HSW.out]; omega⟩
  have t1 : LCmd.Tmp w W (w.heap.size + 1) := ⟨by omega, by rw [HSW.out]; omega⟩
  clear hd2 f2 b2 hc2 HL2 HME u0 u1 u2
  go_wp2_with fail
  go_region_held3 (fun V => V.cell? ⟨w.heap.size, 0, none⟩ = some (.pointer (some ⟨b, 0, none⟩)) ∧ V.cell? ⟨w.heap.size, 1, none⟩ = some (.int .i64 now) ∧ V.cell? ⟨w.heap.size, 2, none⟩ = some (.slice (some ⟨ga, oa, none⟩) l.length c)) (first | with_reducible exact s0 | with_reducible exact s1 | with_reducible exact s2 | with_reducible exact s3 | with_reducible exact k2) (first
    | (go_at_call 71; refine HLen.out.mono ?_; rintro e w3 ⟨rfl, m3, hm3⟩; have b3 : Below w2.drew.heap.size w2.drew w3 := (by rw [hm3]; exact DqBase.bel_drewN _ m3); have B3 := hid_of (FRow.bel BD2.out b3 (Nat.le_refl _)); have HD3 := hid_of ((HD2.out.below (Below.refl _ w2).drew).below b3); have s1 : w3.cell? ⟨w.heap.size, 0, none⟩ = some (.pointer (some ⟨b, 0, none⟩)) ∧ w3.cell? ⟨w.heap.size, 1, none⟩ = some (.int .i64 now) ∧ w3.cell? ⟨w.heap.size, 2, none⟩ = some (.slice (some ⟨ga, oa, none⟩) l.length c) := (box3 ((B3.out.block _ (lt_of HC0.out)).trans HC0.out)).1; clear b3 hm3)
    | (go_at_call 72; refine (H5.out _ w3).mono ?_; rintro e w4 ⟨rfl, b4⟩; have B4 := hid_of (FRow.bel B3.out b4 (Nat.le_refl _)); have HD4 := hid_of (HD3.out.below b4); have s2 : w4.cell? ⟨w.heap.size, 0, none⟩ = some (.pointer (some ⟨b, 0, none⟩)) ∧ w4.cell? ⟨w.heap.size, 1, none⟩ = some (.int .i64 now) ∧ w4.cell? ⟨w.heap.size, 2, none⟩ = some (.slice (some ⟨ga, oa, none⟩) l.length c) := (box3 ((B4.out.block _ (lt_of HC0.out)).trans HC0.out)).1; clear b4)
    | (go_at_call 74; refine (HPut.out w4 B4.out d _ HD4.out).mono ?_; rintro e w5 ⟨rfl, d5⟩; have D5 := hid_of (SDrop.dn_after B4.out d5); have z5 := (dn_block HH.out HB.out D5.out t1).trans HX1.out; have Z5 := hid_of z5; have c5 := (dn_block HH.out HB.out D5.out t0).trans HC0.out; have s3 : w5.cell? ⟨w.heap.size, 0, none⟩ = some (.pointer (some ⟨b, 0, none⟩)) ∧ w5.cell? ⟨w.heap.size, 1, none⟩ = some (.int .i64 now) ∧ w5.cell? ⟨w.heap.size, 2, none⟩ = some (.slice (some ⟨ga, oa, none⟩) l.length c) := (box3 c5).1; obtain ⟨⟨v0, v1, v2, v3⟩, fv⟩ := box4 z5; have fv0 := fv 0; have fv1 := fv 1; have fv2 := fv 2; have fv3 := fv 3; have k2 : (fin4 w5 (w.heap.size + 1) (.int .i64 3) (.string ⟨#[]⟩) (.int .i64 (R.length : Int)) (.slice none 0 0)).cell? ⟨w.heap.size, 0, none⟩ = some (.pointer (some ⟨b, 0, none⟩)) ∧ (fin4 w5 (w.heap.size + 1) (.int .i64 3) (.string ⟨#[]⟩) (.int .i64 (R.length : Int)) (.slice none 0 0)).cell? ⟨w.heap.size, 1, none⟩ = some (.int .i64 now) ∧ (fin4 w5 (w.heap.size + 1) (.int .i64 3) (.string ⟨#[]⟩) (.int .i64 (R.length : Int)) (.slice none 0 0)).cell? ⟨w.heap.size, 2, none⟩ = some (.slice (some ⟨ga, oa, none⟩) l.length c) := (box3 ((fin4_ne (by omega)).trans c5)).1; unfold fin4 at k2; clear fv z5 c5 d5))
  go_wp2_with fail
  have hz := fin4_at Z5.out (.int .i64 3) (.string ⟨#[]⟩) (.int .i64 (R.length : Int)) (.slice none 0 0)
  have hdn := dn_tmp HH.out HB.out D5.out (ev_fin4 t1 (.int .i64 3) (.string ⟨#[]⟩) (.int .i64 (R.length : Int)) (.slice none 0 0))
  unfold fin4 at hz hdn
  obtain ⟨⟨g0, g1, g2, g3⟩, -⟩ := box4 hz
  exact bodyPost_ret (v := rp 3 ⟨#[]⟩ (R.length : Int)) (by simp [results, Tryz.results81, go_sem, g0, g1, g2, g3]) rfl ⟨rfl, hdn⟩
set_option maxHeartbeats 8000000 in
set_option maxRecDepth 100000 in
theorem push_first (h : SP F X b w S) (hr : Room S) {G : Nat → Prop} {a : Option Addr} {n c : Nat} {l : List Base.El} (hl : SL G w (.slice a n c) l) (h2 : 1 < l.length) (hkl : ∀ x ∈ l, x.length ≤ 1048576) (now : Int) {L : List Bs} (hLt : ∀ t ∈ L, t.length ≤ 1048576) (hLn : (L.length + l.length) * 16 ≤ 68719476735)
    (hA : ∀ V, Below w.heap.size w V → Calls Tryz.prog 66 #[cV b now a n c, .string (mk l[0])] V fun e w' => (∃ d, e = .returned (.tuple #[ptr d, .string ⟨#[]⟩]) ∧ DQ (fun q => V.heap.size ≤ q) d (L.map mk) w') ∧ Below V.heap.size V w') :
    Calls Tryz.prog 81 #[cV b now a n c, .int .i64 0] w fun e w' => e = .returned (rp 3 ⟨#[]⟩ (((l.drop 1).reverse ++ L).length : Int)) ∧ Dn F X b w w' (pL S l[0] ((l.drop 1).reverse ++ L) (dueV S now l[0])) := by
  obtain ⟨W, hW⟩ : ∃ W, W = (w.alloc (cO b now a n c)).alloc (rO 0 ⟨#[]⟩ 0 (.slice none 0 0)) := ⟨_, rfl⟩
  obtain ⟨bW, x0, x1, sW⟩ := two_boxes w (cO b now a n c) (rO 0 ⟨#[]⟩ 0 (.slice none 0 0)) ⟨_, _, rfl⟩
  rw [← hW] at bW x0 x1 sW
  have hcn : n ≤ c := by
    obtain ⟨a0, c0, e0, hc0', _⟩ := hl
    injection e0 with e1 e2 e3
    omega
  have hsl := LCut.sl_behind hl 1 (by omega)
  have hsm : DqSBase.SL (fun k => ¬ W.heap.size ≤ k) w (.slice (Base.ca a n 1) (n - 1) (n - 1)) ((l.drop 1).map mk) := by
    obtain ⟨a0, c0, e0, hc0', hrd⟩ := hsl
    exact (LAt.sl_mk (G := fun k => G k ∧ k < w.heap.size) ⟨a0, c0, e0, hc0', hrd.lt⟩).mono fun k _ q => by have := q.2; rw [sW]; omega
  obtain ⟨rfl, hcs⟩ := sl_get hl
  obtain ⟨ga, oa, rfl, hc0⟩ := hcs 0 (by omega)
  rw [Nat.add_zero] at hc0
  have i0 : (0 : Int) < (l.length : Int) := by omega
  have hcw : W.cell? ⟨ga, oa, none⟩ = some (.string (mk l[0])) := (bW.cell (p := ⟨ga, oa, none⟩) (Base.cell_lt hc0)).trans hc0
  have q2 : W.cell? ⟨w.heap.size, 2, none⟩ = some (.slice (some ⟨ga, oa, none⟩) l.length c) := Lib.cell_of_heap x0 2
  have q0 : W.cell? ⟨w.heap.size, 0, none⟩ = some (.pointer (some ⟨b, 0, none⟩)) := Lib.cell_of_heap x0 0
  have q1 : W.cell? ⟨w.heap.size, 1, none⟩ = some (.int .i64 now) := Lib.cell_of_heap x0 1
  have hcw2 := hcw
  rw [hW] at hcw2
  have H1 := hid_of (hA W bW)
  have HB2 := hid_of fun (V : World) => LCut.behind_call (some ⟨ga, oa, none⟩) l.length c 1 1 rfl (by omega) hcn V
  have hml : ((l.drop 1).map mk).length = l.length - 1 := by rw [List.length_map, List.length_drop]
  have HLay := hid_of fun (V : World) (hV : Below w.heap.size w V) (d : Nat) (hq : DQ (fun q => W.heap.size ≤ q) d (L.map mk) V) => LLen.lay_first hq (hsm.below hV) (by rw [hml, List.length_map]; omega)
  have hLt2 : ∀ t ∈ ((l.drop 1).reverse ++ L), t.length ≤ 1048576 := fun t ht => by
    rcases (List.mem_append.1 ht).symm.imp id List.mem_reverse.1 with q | q
    · exact hLt t q
    · exact hkl t (List.mem_of_mem_drop q)
  have hLl : ((l.drop 1).reverse ++ L).length = L.length + (l.length - 1) := by simp; try omega
  have HPut := hid_of fun (V : World) (hV : Below W.heap.size W V) (d : Nat) (Gq : Nat → Prop) (hq : DQ Gq d (((l.drop 1).reverse ++ L).map mk) V) => LPut.put_yes ((sp_wide h bW).below hV) hr l[0] (Nat.le_trans (hkl _ (List.getElem_mem _)) (by decide)) hq (by rw [hLl]; omega) (by rw [hLl]; omega) hLt2 now (some ⟨ga, oa, none⟩) l.length c 3 ⟨#[]⟩ (((l.drop 1).reverse ++ L).length : Int) none 0 0
  have HME := hid_of (show ((l.drop 1).reverse ++ L).map mk = ((l.drop 1).map mk).reverse ++ L.map mk by simp)
  have HH := hid_of h
  have HB := hid_of bW
  have HC0 := hid_of x0
  have HX1 := hid_of x1
  have HSW := hid_of sW
  have HW := hid_of hW
  have H5 := hid_of (@count_call)
  clear hW bW x0 x1 sW hA hl hcs hsl hsm hkl hLt hLn hLt2 hml hLl h
  obtain ⟨R, hR⟩ : ∃ R, R = (l.drop 1).reverse ++ L := ⟨_, rfl⟩
  rw [← hR] at HPut HME ⊢
  clear hR
  generalize pL S l[0] R (dueV S now l[0]) = S' at *
  generalize mk l[0] = K at *
  clear hc0
  go_enter Tryz.func81, Tryz.ntmps81
  go_wp2_with fail
  rw [← HW.out]
  refine H1.out.mono ?_
  rintro e w1 ⟨⟨d, rfl, hd⟩, b1⟩
  have HD := hid_of hd
  have B1 := hid_of b1
  have BW1 := hid_of (FRow.bel HB.out b1 (Nat.le_refl _))
  have r2 : w1.cell? ⟨w.heap.size, 2, none⟩ = some (.slice (some ⟨ga, oa, none⟩) l.length c) := Lib.cell_of_heap ((b1.block _ (lt_of HC0.out)).trans HC0.out) 2
  clear hd b1 H1 q0 q1 q2 hcw hcw2
  go_wp2_with fail
  refine (HB2.out w1).mono ?_
  rintro e w1' ⟨rfl, hww⟩
  have hww := hww.symm
  subst hww
  have HL2 := hid_of (HLay.out w1 BW1.out d HD.out)
  clear HLay HD r2
  go_wp2_with fail
  refine HL2.out.mono ?_
  rintro e w2 ⟨rfl, hd2, f2⟩
  have b2 : Below W.heap.size W w2 := B1.out.trans (f2.below B1.out.size (fun k q => q))
  have HD2 := hid_of hd2
  have B2 := hid_of b2
  have BD2 := hid_of (FRow.bel B2.out (Below.refl _ w2).drew (Nat.le_refl _))
  have HLen := hid_of (DqSHeld.len_call (show DQ _ d _ w2.drew from hd2.below (Below.refl _ w2).drew))
  rw [← HME.out, List.length_map] at HLen
  rw [← HME.out] at HD2
  have hc2 := (BD2.out.block _ (lt_of HC0.out)).trans HC0.out
  have u0 : w2.drew.cell? ⟨w.heap.size, 0, none⟩ = some (.pointer (some ⟨b, 0, none⟩)) := Lib.cell_of_heap hc2 0
  have u1 : w2.drew.cell? ⟨w.heap.size, 1, none⟩ = some (.int .i64 now) := Lib.cell_of_heap hc2 1
  have u2 : w2.drew.cell? ⟨w.heap.size, 2, none⟩ = some (.slice (some ⟨ga, oa, none⟩) l.length c) := Lib.cell_of_heap hc2 2
  have s0 : w2.drew.cell? ⟨w.heap.size, 0, none⟩ = some (.pointer (some ⟨b, 0, none⟩)) ∧ w2.drew.cell? ⟨w.heap.size, 1, none⟩ = some (.int .i64 now) ∧ w2.drew.cell? ⟨w.heap.size, 2, none⟩ = some (.slice (some ⟨ga, oa, none⟩) l.length c) := ⟨u0, u1, u2⟩
  have t0 : LCmd.Tmp w W w.heap.size := ⟨Nat.le_refl _, by rw [HSW.out]; omega⟩
  have t1 : LCmd.Tmp w W (w.heap.size + 1) := ⟨by omega, by rw [HSW.out]; omega⟩
  clear hd2 f2 b2 hc2 HL2 HME u0 u1 u2
  go_wp2_with fail
  go_region_held3 (fun V => V.cell? ⟨w.heap.size, 0, none⟩ = some (.pointer (some ⟨b, 0, none⟩)) ∧ V.cell? ⟨w.heap.size, 1, none⟩ = some (.int .i64 now) ∧ V.cell? ⟨w.heap.size, 2, none⟩ = some (.slice (some ⟨ga, oa, none⟩) l.length c)) (first | with_reducible exact s0 | with_reducible exact s1 | with_reducible exact s2 | with_reducible exact s3 | with_reducible exact k2) (first
    | (go_at_call 71; refine HLen.out.mono ?_; rintro e w3 ⟨rfl, m3, hm3⟩; have b3 : Below w2.drew.heap.size w2.drew w3 := (by rw [hm3]; exact DqBase.bel_drewN _ m3); have B3 := hid_of (FRow.bel BD2.out b3 (Nat.le_refl _)); have HD3 := hid_of ((HD2.out.below (Below.refl _ w2).drew).below b3); have s1 : w3.cell? ⟨w.heap.size, 0, none⟩ = some (.pointer (some ⟨b, 0, none⟩)) ∧ w3.cell? ⟨w.heap.size, 1, none⟩ = some (.int .i64 now) ∧ w3.cell? ⟨w.heap.size, 2, none⟩ = some (.slice (some ⟨ga, oa, none⟩) l.length c) := (box3 ((B3.out.block _ (lt_of HC0.out)).trans HC0.out)).1; clear b3 hm3)
    | (go_at_call 72; refine (H5.out _ w3).mono ?_; rintro e w4 ⟨rfl, b4⟩; have B4 := hid_of (FRow.bel B3.out b4 (Nat.le_refl _)); have HD4 := hid_of (HD3.out.below b4); have s2 : w4.cell? ⟨w.heap.size, 0, none⟩ = some (.pointer (some ⟨b, 0, none⟩)) ∧ w4.cell? ⟨w.heap.size, 1, none⟩ = some (.int .i64 now) ∧ w4.cell? ⟨w.heap.size, 2, none⟩ = some (.slice (some ⟨ga, oa, none⟩) l.length c) := (box3 ((B4.out.block _ (lt_of HC0.out)).trans HC0.out)).1; clear b4)
    | (go_at_call 74; refine (HPut.out w4 B4.out d _ HD4.out).mono ?_; rintro e w5 ⟨rfl, d5⟩; have D5 := hid_of (SDrop.dn_after B4.out d5); have z5 := (dn_block HH.out HB.out D5.out t1).trans HX1.out; have Z5 := hid_of z5; have c5 := (dn_block HH.out HB.out D5.out t0).trans HC0.out; have s3 : w5.cell? ⟨w.heap.size, 0, none⟩ = some (.pointer (some ⟨b, 0, none⟩)) ∧ w5.cell? ⟨w.heap.size, 1, none⟩ = some (.int .i64 now) ∧ w5.cell? ⟨w.heap.size, 2, none⟩ = some (.slice (some ⟨ga, oa, none⟩) l.length c) := (box3 c5).1; obtain ⟨⟨v0, v1, v2, v3⟩, fv⟩ := box4 z5; have fv0 := fv 0; have fv1 := fv 1; have fv2 := fv 2; have fv3 := fv 3; have k2 : (fin4 w5 (w.heap.size + 1) (.int .i64 3) (.string ⟨#[]⟩) (.int .i64 (R.length : Int)) (.slice none 0 0)).cell? ⟨w.heap.size, 0, none⟩ = some (.pointer (some ⟨b, 0, none⟩)) ∧ (fin4 w5 (w.heap.size + 1) (.int .i64 3) (.string ⟨#[]⟩) (.int .i64 (R.length : Int)) (.slice none 0 0)).cell? ⟨w.heap.size, 1, none⟩ = some (.int .i64 now) ∧ (fin4 w5 (w.heap.size + 1) (.int .i64 3) (.string ⟨#[]⟩) (.int .i64 (R.length : Int)) (.slice none 0 0)).cell? ⟨w.heap.size, 2, none⟩ = some (.slice (some ⟨ga, oa, none⟩) l.length c) := (box3 ((fin4_ne (by omega)).trans c5)).1; unfold fin4 at k2; clear fv z5 c5 d5))
  go_wp2_with fail
  have hz := fin4_at Z5.out (.int .i64 3) (.string ⟨#[]⟩) (.int .i64 (R.length : Int)) (.slice none 0 0)
  have hdn := dn_tmp HH.out HB.out D5.out (ev_fin4 t1 (.int .i64 3) (.string ⟨#[]⟩) (.int .i64 (R.length : Int)) (.slice none 0 0))
  unfold fin4 at hz hdn
  obtain ⟨⟨g0, g1, g2, g3⟩, -⟩ := box4 hz
  exact bodyPost_ret (v := rp 3 ⟨#[]⟩ (R.length : Int)) (by simp [results, Tryz.results81, go_sem, g0, g1, g2, g3]) rfl ⟨rfl, hdn⟩
end
end Go.Proofs.YtpibeabokedpdaaGreatDoor.LPush
end
