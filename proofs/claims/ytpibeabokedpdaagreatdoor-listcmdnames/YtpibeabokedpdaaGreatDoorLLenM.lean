/- LLEN; laying elements at an end. Two words as numbers. A row of answers that are texts, and one more behind it. Texts as an array of answers: cmd.bulks. LRANGE: cmd.piece. -/
import Derived.Test.YtpibeabokedpdaaGreatDoorDqSInsertM
import Derived.Deep.RegionWith
import Derived.Deep.DeepCutAuto
import Derived.Test.YtpibeabokedpdaaGreatDoorQAddM
import Derived.Deep.DeepAppendWide
import Derived.Deep.LoopGhost
import Derived.Test.YtpibeabokedpdaaGreatDoorDqSPopM
section
namespace Go.Proofs.YtpibeabokedpdaaGreatDoor.LLen
open Go.RowKit Go.Maps
open Go.Proofs.YtpibeabokedpdaaGreatDoor.SpaceMath (wout withL lkp keys Ris toD)
open Go.Proofs.YtpibeabokedpdaaGreatDoor.ValueMath (Vl chk small)
open Go.Proofs.YtpibeabokedpdaaGreatDoor.Base (mk mk_list mk_size Gr hid_of SL)
open Go.Proofs.YtpibeabokedpdaaGreatDoor.Turn
open Go.Proofs.YtpibeabokedpdaaGreatDoor.Vals
open Go.Proofs.YtpibeabokedpdaaGreatDoor.SBase
open Go.Proofs.YtpibeabokedpdaaGreatDoor.SFind
open Go.Proofs.YtpibeabokedpdaaGreatDoor.QBase
open Go.Proofs.YtpibeabokedpdaaGreatDoor.LCmd
open Go.Proofs.YtpibeabokedpdaaGreatDoor.LAt (wrongB)
open Go.Proofs.YtpibeabokedpdaaGreatDoor.DqSBase (DQ)
set_option linter.unusedVariables false
set_option linter.unusedSimpArgs false
set_option maxRecDepth 100000 in
theorem lay_first {F : Nat → Prop} {d : Nat} {l m : List ByteArray} {v : Value} {w : World} (h : DQ F d l w) (hm : DqSBase.SL (fun k => ¬ F k) w v m) (hs : (2 * (m.length + l.length) + l.length) * 16 ≤ 281474976710656) :
    Calls Tryz.prog 126 #[ptr d, .int .i64 0, v] w fun e w' => e = .returned (.tuple #[]) ∧ DQ (DqBase.Gr F w) d (m.reverse ++ l) w' ∧ DqBase.Fr F w w' := by
  have H := hid_of (DqSFront.pushFront_call h hm hs)
  obtain ⟨a, c, rfl, _⟩ := hm
  clear h hs
  go_enter Tryz.func126, Tryz.ntmps126
  go_wp2_with fail
  refine H.out.mono ?_
  rintro e w1 ⟨rfl, q1, f1⟩
  have HH := hid_of (And.intro q1 f1)
  clear q1 f1 H
  go_wp2_with fail
  go_end0
  exact ⟨rfl, HH.out⟩
set_option maxRecDepth 100000 in
theorem lay_last {F : Nat → Prop} {d : Nat} {l m : List ByteArray} {v : Value} {w : World} (h : DQ F d l w) (hm : DqSBase.SL (fun k => ¬ F k) w v m) (hs : (2 * (l.length + m.length) + l.length) * 16 ≤ 281474976710656) :
    Calls Tryz.prog 126 #[ptr d, .int .i64 1, v] w fun e w' => e = .returned (.tuple #[]) ∧ DQ (DqBase.Gr F w) d (l ++ m) w' ∧ DqBase.Fr F w w' := by
  have H := hid_of (DqSPush.pushBack_call h hm hs)
  obtain ⟨a, c, rfl, _⟩ := hm
  clear h hs
  go_enter Tryz.func126, Tryz.ntmps126
  go_wp2_with fail
  refine H.out.mono ?_
  rintro e w1 ⟨rfl, q1, f1⟩
  have HH := hid_of (And.intro q1 f1)
  clear q1 f1 H
  go_wp2_with fail
  go_end0
  exact ⟨rfl, HH.out⟩
section
variable {F X : Nat → Prop} {b : Nat} {w : World} {S : Sp}
set_option maxHeartbeats 4000000 in
set_option maxRecDepth 100000 in
theorem length_list {G : Nat → Prop} {a : Option Addr} {n c : Nat} {l : List Base.El} (hl : SL G w (.slice a n c) l) (hl0 : 0 < l.length) (now : Int) {L : List Bs} (hA : ∀ V, Below w.heap.size w V → Calls Tryz.prog 66 #[cV b now a n c, .string (mk l[0])] V fun e w' => (∃ d, e = .returned (.tuple #[ptr d, .string ⟨#[]⟩]) ∧ DQ (fun q => V.heap.size ≤ q) d (L.map mk) w') ∧ Below V.heap.size V w') :
    Calls Tryz.prog 31 #[cV b now a n c] w fun e w' => e = .returned (rp 3 ⟨#[]⟩ (L.length : Int)) ∧ Below w.heap.size w w' := by
  obtain ⟨W, hW⟩ : ∃ W, W = (w.alloc (cO b now a n c)).alloc (rO 0 ⟨#[]⟩ 0 (.slice none 0 0)) := ⟨_, rfl⟩
  obtain ⟨bW, x0, x1, sW⟩ := two_boxes w (cO b now a n c) (rO 0 ⟨#[]⟩ 0 (.slice none 0 0)) ⟨_, _, rfl⟩
  rw [← hW] at bW x0 x1 sW
  obtain ⟨rfl, hcs⟩ := sl_get hl
  obtain ⟨ga, oa, rfl, hc0⟩ := hcs 0 hl0
  rw [Nat.add_zero] at hc0
  have i0 : (0 : Int) < (l.length : Int) := by omega
  have bD : Below w.heap.size w W.drew := FRow.bel bW (Below.refl _ W).drew (Nat.le_refl _)
  have BD := hid_of bD
  have hcw : W.drew.cell? ⟨ga, oa, none⟩ = some (.string (mk l[0])) := (bD.cell (p := ⟨ga, oa, none⟩) (Base.cell_lt hc0)).trans hc0
  have q0 : W.drew.cell? ⟨w.heap.size, 0, none⟩ = some (.pointer (some ⟨b, 0, none⟩)) := Lib.cell_of_heap x0 0
  have q1 : W.drew.cell? ⟨w.heap.size, 1, none⟩ = some (.int .i64 now) := Lib.cell_of_heap x0 1
  have q2 : W.drew.cell? ⟨w.heap.size, 2, none⟩ = some (.slice (some ⟨ga, oa, none⟩) l.length c) := Lib.cell_of_heap x0 2
  have H1 := hid_of (hA W.drew bD)
  have HX1 := hid_of x1
  have HW := hid_of hW
  have H5 := hid_of (@count_call)
  have H6 := hid_of (@refused_call)
  clear hW bW x0 x1 sW hA hl hcs bD
  generalize mk l[0] = K at *
  clear hc0 hl0
  go_enter Tryz.func31, Tryz.ntmps31
  go_wp2_with fail
  rw [← HW.out]
  go_cut [3, 4] (fun s3 s4 wx => (∃ d, s3 = ptr d ∧ s4 = .string ⟨#[]⟩ ∧ Hid (DQ (fun q => W.drew.heap.size ≤ q) d (L.map mk) wx ∧ Below w.heap.size w wx ∧ wx.heap[w.heap.size + 1]? = some (rO 0 ⟨#[]⟩ 0 (.slice none 0 0)))))
  case first =>
    go_region_with (first
      | (go_at_call 66; refine H1.out.mono ?_; rintro e w1 hw1; obtain ⟨⟨d, rfl, hd⟩, b1⟩ := hw1; have HR := hid_of (And.intro hd (And.intro (FRow.bel BD.out b1 (Nat.le_refl _)) ((b1.block _ (lt_of HX1.out)).trans HX1.out))); clear hd b1))
    all_goals
      go_wp2_with fail
      go_meet
      case rel => exact ⟨d, rfl, rfl, HR⟩
  case rest =>
    obtain ⟨d, rfl, rfl, HQ⟩ := hcut
    have HL := hid_of (DqSHeld.len_call HQ.out.1)
    rw [List.length_map] at HL
    clear hcw q0 q1 q2
    go_wp2_with fail
    refine HL.out.mono ?_
    rintro e w2 ⟨rfl, m, hm⟩
    have b2 : Below wc.heap.size wc w2 := by rw [hm]; exact DqBase.bel_drewN wc m
    have B2 := hid_of (FRow.bel HQ.out.2.1 b2 (Nat.le_refl _))
    have X2 := hid_of ((b2.block _ (lt_of HQ.out.2.2)).trans HQ.out.2.2)
    clear b2 hm HL
    go_wp2_with fail
    refine (H5.out _ w2).mono ?_
    rintro e w3 ⟨rfl, b3⟩
    have z3 := (b3.block _ (lt_of X2.out)).trans X2.out
    have B3 := FRow.bel B2.out b3 (Nat.le_refl _)
    obtain ⟨⟨v0, v1, v2, v3⟩, fv⟩ := box4 z3
    have fv0 := fv 0; have fv1 := fv 1; have fv2 := fv 2; have fv3 := fv 3
    have hz := fin4_at z3 (.int .i64 3) (.string ⟨#[]⟩) (.int .i64 (L.length : Int)) (.slice none 0 0)
    have hb := fin4_b (y0 := .int .i64 3) (y1 := .string ⟨#[]⟩) (y2 := .int .i64 (L.length : Int)) (y3 := .slice none 0 0) B3 (Nat.le_succ w.heap.size)
    unfold fin4 at hz hb
    clear fv b3 z3 B3
    go_wp2_with fail
    obtain ⟨⟨g0, g1, g2, g3⟩, -⟩ := box4 hz
    exact bodyPost_ret (v := rp 3 ⟨#[]⟩ (L.length : Int)) (by simp [results, Tryz.results31, go_sem, g0, g1, g2, g3]) rfl ⟨rfl, hb⟩
end
end Go.Proofs.YtpibeabokedpdaaGreatDoor.LLen
end
section
namespace Go.Proofs.YtpibeabokedpdaaGreatDoor.LTwo
open Go.RowKit Go.Maps
open Go.Proofs.YtpibeabokedpdaaGreatDoor.Base (mk mk_list mk_size Gr hid_of SL)
open Go.Proofs.YtpibeabokedpdaaGreatDoor.Parse (Has)
open Go.Proofs.YtpibeabokedpdaaGreatDoor.LCmd
set_option linter.unusedVariables false
set_option linter.unusedSimpArgs false
theorem num_some {T : SetMath.Bs} (hT : T.length ≤ 140737488351232) {v : Int} (h : prs T = some v) (w : World) (hh : Has w) : Calls Tryz.prog 64 #[.string (mk T)] w fun e w' => e = .returned (.tuple #[.int .i64 v, .string ⟨#[]⟩]) ∧ Below w.heap.size w w' := by
  have := number_call (mk T) (by rw [mk_size]; exact hT) w hh
  rw [show (mk T).data.toList = T from rfl, h] at this
  exact this
theorem num_none {T : SetMath.Bs} (hT : T.length ≤ 140737488351232) (h : prs T = none) (w : World) (hh : Has w) : Calls Tryz.prog 64 #[.string (mk T)] w fun e w' => e = .returned (.tuple #[.int .i64 0, .string numB]) ∧ Below w.heap.size w w' := by
  have := number_call (mk T) (by rw [mk_size]; exact hT) w hh
  rw [show (mk T).data.toList = T from rfl, h] at this
  exact this
set_option maxHeartbeats 2000000 in
set_option maxRecDepth 100000 in
theorem two_ok {G : Nat → Prop} {w : World} {a : Option Addr} {n c : Nat} {l : List Base.El} (hl : SL G w (.slice a n c) l) (h2 : 1 < l.length) (hb : ∀ x ∈ l, x.length ≤ 140737488351232) (hh : Has w) {x y : Int} (hp : prs l[0] = some x) (hq : prs l[1] = some y) :
    Calls Tryz.prog 83 #[.slice a n c] w fun e w' => e = .returned (.tuple #[.int .i64 x, .int .i64 y, .string ⟨#[]⟩]) ∧ Below w.heap.size w w' := by
  obtain ⟨rfl, hcs⟩ := sl_get hl
  obtain ⟨ga, oa, rfl, hc0⟩ := hcs 0 (by omega)
  obtain ⟨ga2, oa2, e2, hc1⟩ := hcs 1 h2
  injection e2 with e2
  injection e2 with e3 e4
  subst e3 e4
  rw [Nat.add_zero] at hc0
  have i0 : (0 : Int) < (l.length : Int) := by omega
  have i1 : (1 : Int) < (l.length : Int) := by omega
  have H1 := hid_of (num_some (hb _ (List.getElem_mem _)) hp w hh)
  have H2 := hid_of fun (V : World) (hV : Below w.heap.size w V) => num_some (hb _ (List.getElem_mem h2)) hq V (hh.later hV)
  have HC := hid_of fun (V : World) (hV : Below w.heap.size w V) => (hV.cell (p := ⟨ga, oa + 1, none⟩) (Base.cell_lt hc1)).trans hc1
  clear hcs hl hb hh hp hq
  generalize mk l[0] = K0 at *
  generalize mk l[1] = K1 at *
  clear h2
  go_enter Tryz.func83, Tryz.ntmps83
  go_wp2_with fail
  refine H1.out.mono ?_
  rintro e w1 ⟨rfl, b1⟩
  have B1 := hid_of b1
  have c1 := HC.out w1 b1
  clear b1 hc0 hc1
  go_wp2_with fail
  refine (H2.out w1 B1.out).mono ?_
  rintro e w2 ⟨rfl, b2⟩
  have B2 := hid_of (FRow.bel B1.out b2 (Nat.le_refl _))
  clear b2
  go_wp2_with fail
  go_ret3
  exact ⟨rfl, B2.out⟩
set_option maxHeartbeats 2000000 in
set_option maxRecDepth 100000 in
theorem two_bad0 {G : Nat → Prop} {w : World} {a : Option Addr} {n c : Nat} {l : List Base.El} (hl : SL G w (.slice a n c) l) (h2 : 1 < l.length) (hb : ∀ x ∈ l, x.length ≤ 140737488351232) (hh : Has w) (hp : prs l[0] = none) :
    Calls Tryz.prog 83 #[.slice a n c] w fun e w' => e = .returned (.tuple #[.int .i64 0, .int .i64 0, .string numB]) ∧ Below w.heap.size w w' := by
  obtain ⟨rfl, hcs⟩ := sl_get hl
  obtain ⟨ga, oa, rfl, hc0⟩ := hcs 0 (by omega)
  obtain ⟨ga2, oa2, e2, hc1⟩ := hcs 1 h2
  injection e2 with e2
  injection e2 with e3 e4
  subst e3 e4
  rw [Nat.add_zero] at hc0
  have i0 : (0 : Int) < (l.length : Int) := by omega
  have i1 : (1 : Int) < (l.length : Int) := by omega
  have H1 := hid_of (num_none (hb _ (List.getElem_mem _)) hp w hh)
  clear hcs hl hb hh hp
  generalize mk l[0] = K0 at *
  generalize mk l[1] = K1 at *
  clear h2
  go_enter Tryz.func83, Tryz.ntmps83
  go_wp2_with fail
  refine H1.out.mono ?_
  rintro e w1 ⟨rfl, b1⟩
  have B1 := hid_of b1
  clear b1 hc0 hc1
  go_wp2_with fail
  go_ret3
  exact ⟨rfl, B1.out⟩
set_option maxHeartbeats 2000000 in
set_option maxRecDepth 100000 in
theorem two_bad1 {G : Nat → Prop} {w : World} {a : Option Addr} {n c : Nat} {l : List Base.El} (hl : SL G w (.slice a n c) l) (h2 : 1 < l.length) (hb : ∀ x ∈ l, x.length ≤ 140737488351232) (hh : Has w) {x : Int} (hp : prs l[0] = some x) (hq : prs l[1] = none) :
    Calls Tryz.prog 83 #[.slice a n c] w fun e w' => e = .returned (.tuple #[.int .i64 0, .int .i64 0, .string numB]) ∧ Below w.heap.size w w' := by
  obtain ⟨rfl, hcs⟩ := sl_get hl
  obtain ⟨ga, oa, rfl, hc0⟩ := hcs 0 (by omega)
  obtain ⟨ga2, oa2, e2, hc1⟩ := hcs 1 h2
  injection e2 with e2
  injection e2 with e3 e4
  subst e3 e4
  rw [Nat.add_zero] at hc0
  have i0 : (0 : Int) < (l.length : Int) := by omega
  have i1 : (1 : Int) < (l.length : Int) := by omega
  have H1 := hid_of (num_some (hb _ (List.getElem_mem _)) hp w hh)
  have H2 := hid_of fun (V : World) (hV : Below w.heap.size w V) => num_none (hb _ (List.getElem_mem h2)) hq V (hh.later hV)
  have HC := hid_of fun (V : World) (hV : Below w.heap.size w V) => (hV.cell (p := ⟨ga, oa + 1, none⟩) (Base.cell_lt hc1)).trans hc1
  clear hcs hl hb hh hp hq
  generalize mk l[0] = K0 at *
  generalize mk l[1] = K1 at *
  clear h2
  go_enter Tryz.func83, Tryz.ntmps83
  go_wp2_with fail
  refine H1.out.mono ?_
  rintro e w1 ⟨rfl, b1⟩
  have B1 := hid_of b1
  have c1 := HC.out w1 b1
  clear b1 hc0 hc1
  go_wp2_with fail
  refine (H2.out w1 B1.out).mono ?_
  rintro e w2 ⟨rfl, b2⟩
  have B2 := hid_of (FRow.bel B1.out b2 (Nat.le_refl _))
  clear b2
  go_wp2_with fail
  go_ret3
  exact ⟨rfl, B2.out⟩
end Go.Proofs.YtpibeabokedpdaaGreatDoor.LTwo
end
section
namespace Go.Proofs.YtpibeabokedpdaaGreatDoor.LRow
open Go.RowKit Go.Maps
open Go.Proofs.YtpibeabokedpdaaGreatDoor.SpaceMath (wout withL lkp keys Ris toD)
open Go.Proofs.YtpibeabokedpdaaGreatDoor.ValueMath (Vl chk small)
open Go.Proofs.YtpibeabokedpdaaGreatDoor.Base (mk mk_list mk_size Gr hid_of SL)
open Go.Proofs.YtpibeabokedpdaaGreatDoor.Turn
open Go.Proofs.YtpibeabokedpdaaGreatDoor.Vals
open Go.Proofs.YtpibeabokedpdaaGreatDoor.Check0 (Wel)
open Go.Proofs.YtpibeabokedpdaaGreatDoor.SBase
open Go.Proofs.YtpibeabokedpdaaGreatDoor.SFind
open Go.Proofs.YtpibeabokedpdaaGreatDoor.SPut (vO)
open Go.Proofs.YtpibeabokedpdaaGreatDoor.QBase
open Go.Proofs.YtpibeabokedpdaaGreatDoor.LCmd
open Go.Proofs.YtpibeabokedpdaaGreatDoor.Parse (Has)
set_option linter.unusedVariables false
set_option linter.unusedSimpArgs false
open Go.Sort
set_option maxRecDepth 100000
def rep (t : Bs) : List Value := [.int .i64 4, .string (mk t), .int .i64 0, .slice none 0 0]
abbrev RR (B : Nat) (w : World) (v : Value) (l : List Bs) : Prop := w.ownsRow B 28 4 v l.length (l.flatMap rep)
theorem rr_nil (B : Nat) (w : World) : RR B w (.slice none 0 0) [] := World.ownsRow_nil _ _ _ _
theorem info_rp : (Tryz.prog.info? 28).map (fun i => (i.zero, i.size, i.bytes)) = some (some (.agg #[.int .i64 0, .string ⟨#[]⟩, .int .i64 0, .slice none 0 0]), 4, 56) := by kernel_rfl
theorem app_rep (B : Nat) (w : World) (v : Value) (xs : List Bs) (t : Bs) (q : Nat) (h : RR B w v xs) (hq : w.heap[q]? = some (rO 4 (mk t) 0 (.slice none 0 0))) (hb : B ≤ w.heap.size) (hn : xs.length + 1 ≤ 4000000000000) :
    ∃ v' w', (Builtin.append_ #[26, 26] 26 #[v, .slice (some ⟨q, 0, none⟩) 1 1]).run Tryz.prog w = .ok v' w' ∧ RR B w' v' (xs ++ [t]) ∧ w.grownBy w' v.ownBlock := by
  obtain ⟨i, hi, hz0, hz1, hz2⟩ := FRow.parts_of info_rp
  have hnews : ∀ j u, (rep t)[j]? = some u → w.cell? ((⟨q, 0, none⟩ : Addr).add j) = some u := fun j u hj => by
    obtain ⟨⟨c0, c1, c2, c3⟩, -⟩ := box4 hq
    rw [Addr.add_lit]
    match j, hj with
    | 0, hj =>
      have e : (.int .i64 4 : Value) = u := Option.some.inj (show some (.int .i64 4 : Value) = some u from hj)
      subst e
      exact c0
    | 1, hj =>
      have e : (.string (mk t) : Value) = u := Option.some.inj (show some (.string (mk t) : Value) = some u from hj)
      subst e
      exact c1
    | 2, hj =>
      have e : (.int .i64 0 : Value) = u := Option.some.inj (show some (.int .i64 0 : Value) = some u from hj)
      subst e
      exact c2
    | 3, hj =>
      have e : (.slice none 0 0 : Value) = u := Option.some.inj (show some (.slice none 0 0 : Value) = some u from hj)
      subst e
      exact c3
    | j + 4, hj => simp [rep] at hj
  have hone : ∀ u ∈ rep t, u.oneCell' = true := fun u hu => by
    simp only [rep, List.mem_cons, List.not_mem_nil, or_false] at hu
    rcases hu with rfl | rfl | rfl | rfl <;> rfl
  obtain ⟨v', w', hr, ho, hg, _⟩ := run_append_own_wide (P := Tryz.prog) w B 26 26 28 i _ 4 56 Tryz.underlying26 hi hz0 hz1 hz2 rfl (by decide) v xs.length (xs.flatMap rep) h ⟨q, 0, none⟩ 1 1 (rep t) rfl hnews hone (by unfold maxLen; omega) (by omega) hb
  refine ⟨v', w', hr, ?_, hg⟩
  show w'.ownsRow B _ 4 v' (xs ++ [t]).length ((xs ++ [t]).flatMap rep)
  rw [List.length_append, List.flatMap_append]
  simpa using ho
end Go.Proofs.YtpibeabokedpdaaGreatDoor.LRow
end
section
namespace Go.Proofs.YtpibeabokedpdaaGreatDoor.LBulks
open Go.RowKit Go.Maps
open Go.Proofs.YtpibeabokedpdaaGreatDoor.Base (mk mk_list mk_size Gr hid_of SL)
open Go.Proofs.YtpibeabokedpdaaGreatDoor.Turn
open Go.Proofs.YtpibeabokedpdaaGreatDoor.Vals
open Go.Proofs.YtpibeabokedpdaaGreatDoor.SBase
open Go.Proofs.YtpibeabokedpdaaGreatDoor.SFind
open Go.Proofs.YtpibeabokedpdaaGreatDoor.QBase
open Go.Proofs.YtpibeabokedpdaaGreatDoor.LCmd
open Go.Proofs.YtpibeabokedpdaaGreatDoor.LRow
set_option linter.unusedVariables false
set_option linter.unusedSimpArgs false
abbrev rpL (v : Value) : Value := .agg #[.int .i64 6, .string ⟨#[]⟩, .int .i64 0, v]
theorem rr_form {B : Nat} {w : World} {v : Value} {l : List Bs} (h : RR B w v l) : ∃ a n c, v = .slice a n c := by
  rcases h.2 with ⟨rfl, h0⟩ | ⟨g, cap, cur, rfl, hb, hg, _⟩
  · exact ⟨_, _, _, rfl⟩
  · exact ⟨_, _, _, rfl⟩
set_option maxHeartbeats 4000000 in
set_option maxRecDepth 100000 in
theorem bulks_call (w : World) {G : Nat → Prop} {a : Option Addr} {n c : Nat} {l : List Base.El} (hl : SL G w (.slice a n c) l) (hll : l.length < 4000000000000) :
    Calls Tryz.prog 84 #[.slice a n c] w fun e w' => ∃ v, e = .returned (rpL v) ∧ RR w.heap.size w' v l ∧ Below w.heap.size w w' := by
  obtain ⟨rfl, hcs⟩ := sl_get hl
  obtain ⟨W, hW⟩ : ∃ W, W = w.alloc (rO 0 ⟨#[]⟩ 0 (.slice none 0 0)) := ⟨_, rfl⟩
  have bW : Below w.heap.size w W := by rw [hW]; exact alb _ _
  have x0 : W.heap[w.heap.size]? = some (rO 0 ⟨#[]⟩ 0 (.slice none 0 0)) := by rw [hW]; exact heap_alloc_new w _
  have sW : W.heap.size = w.heap.size + 1 := by rw [hW]; simp
  have HB := hid_of bW
  have HX0 := hid_of x0
  have HSW := hid_of sW
  have HW := hid_of hW
  have HBk := hid_of fun (V : World) (T : ByteArray) => bulk_call T V
  have HA := hid_of fun (V : World) (a' : Option Addr) (n' c' : Nat) => array_call a' n' c' V
  have HCS : Hid (∀ i (hi : i < l.length), ∃ ga oa, a = some ⟨ga, oa, none⟩ ∧ ∀ V, Below W.heap.size W V → V.cell? ⟨ga, oa + i, none⟩ = some (.string (mk l[i]))) := hid_of fun i hi => by
    obtain ⟨ga, oa, e, hc⟩ := hcs i hi
    have hl1 := block_lt_of_cell hc
    exact ⟨ga, oa, e, fun V hV => (hV.cell (p := ⟨ga, oa + i, none⟩) (Nat.lt_of_lt_of_le hl1 bW.size)).trans ((bW.cell (p := ⟨ga, oa + i, none⟩) hl1).trans hc)⟩
  obtain ⟨N, HN⟩ : ∃ N, Hid (N = l.length) := ⟨_, hid_of rfl⟩
  have hNb : N < 4000000000000 := by rw [HN.out]; exact hll
  clear hW bW x0 sW hcs hl hll
  rw [← HN.out]
  go_enter Tryz.func84, Tryz.ntmps84
  go_wp2_with fail
  rw [← HW.out]
  go_wp2_with fail
  go_loopg [3, 8] N (fun gk s3 s8 wx => ∃ i : Nat, i + gk = N ∧ s8 = .int .i64 (i : Int) ∧ Hid (RR W.heap.size wx s3 (l.take i) ∧ Below W.heap.size W wx))
  case atStart => exact ⟨0, by omega, rfl, hid_of ⟨rr_nil _ _, Below.refl _ _⟩⟩
  case round =>
    obtain ⟨i, hi, rfl, B⟩ := hrel
    obtain ⟨a', n', c', rfl⟩ := rr_form B.out.1
    by_cases hlt : i < N
    · have his : i < l.length := by rw [← HN.out]; exact hlt
      have d1 : (i : Int) < (N : Int) := by omega
      obtain ⟨ga, oa, rfl, hcw⟩ := HCS.out i his
      have cw := hcw wr B.out.2
      have hst := hid_of (show l.take (i + 1) = l.take i ++ [l[i]] from List.take_succ_eq_append_getElem his)
      have hlen : (l.take i).length + 1 ≤ 4000000000000 := by
        rw [List.length_take]
        omega
      have HAp := hid_of fun (V : World) (v : Value) (q : Nat) (h : RR W.heap.size V v (l.take i)) (hq : V.heap[q]? = some (rO 4 (mk l[i]) 0 (.slice none 0 0))) (hb : W.heap.size ≤ V.heap.size) => app_rep W.heap.size V v _ l[i] q h hq hb hlen
      have ew : IntKind.i64.wrap ((i : Int) + 1) = (i : Int) + 1 := IntWalk.i64_in _ (by omega)
      clear hcw hlen
      generalize l.take i = ms at *
      generalize mk l[i] = KK at *
      have HST := hid_of hst.out
      clear hst
      · go_wp2_with fail
        refine (HBk.out _ _).mono ?_
        rintro e w3 ⟨rfl, b3⟩
        have B3 : Below W.heap.size W w3 := FRow.bel B.out.2 b3 (Nat.le_refl _)
        have R3 := FRow.row_below B.out.1 b3
        have ba := alb w3 (rO 4 KK 0 (.slice none 0 0))
        obtain ⟨v', w4, hr, ho, hg⟩ := HAp.out (w3.alloc (rO 4 KK 0 (.slice none 0 0))) _ w3.heap.size (FRow.row_below R3 ba) (heap_alloc_new w3 _) (FRow.bel B3 ba (Nat.le_refl _)).size
        have B4 := hid_of ((FRow.bel B3 ba (Nat.le_refl _)).grown hg (FRow.bel B3 ba (Nat.le_refl _)).size (fun k hk => ((FRow.row_below R3 ba).lt k hk).1))
        obtain ⟨a4, n4, c4, rfl⟩ := rr_form ho
        have HO := hid_of ho
        clear ho hg ba R3 B3 b3 HAp
        go_wp2_with (at_builtin; refine Base.wpl_eq rfl _ _ 26 26 rfl (.slice a' n' c') (.slice (some ⟨w3.heap.size, 0, none⟩) 1 1) (.slice a4 n4 c4) _ w4 rfl rfl hr ?_)
        go_roundg (gk - 1)
        case rel => exact ⟨i + 1, by omega, by rw [show ((i + 1 : Nat) : Int) = (i : Int) + 1 from by omega], hid_of ⟨by rw [HST.out]; exact HO.out, B4.out⟩⟩
        case measure => omega
    · have d1 : ¬ (i : Int) < (N : Int) := by omega
      have hta : Hid (l.take i = l) := hid_of (by rw [List.take_of_length_le (by have := HN.out; omega)])
      go_wp2_with fail
      refine (HA.out _ _ _ _).mono ?_
      rintro e w2 ⟨rfl, b2⟩
      have x2 := (b2.block _ (Nat.lt_of_lt_of_le (lt_of HX0.out) B.out.2.size)).trans ((B.out.2.block _ (lt_of HX0.out)).trans HX0.out)
      have hz := fin4_at x2 (.int .i64 6) (.string ⟨#[]⟩) (.int .i64 0) (.slice a' n' c')
      have hbf := fin4_b (y0 := .int .i64 6) (y1 := .string ⟨#[]⟩) (y2 := .int .i64 0) (y3 := .slice a' n' c') (FRow.bel HB.out (FRow.bel B.out.2 b2 (Nat.le_refl _)) (Nat.le_refl _)) (Nat.le_refl w.heap.size)
      have R2 := FRow.row_below B.out.1 b2
      have hrow : RR w.heap.size (fin4 w2 w.heap.size (.int .i64 6) (.string ⟨#[]⟩) (.int .i64 0) (.slice a' n' c')) (.slice a' n' c') (l.take i) := FRow.row_mono (FRow.row_later R2 fun g cs t fz hg hgg ht => by
        have hlt2 := (R2.lt g hg).1
        have : g ≠ w.heap.size := by have := HSW.out; omega
        unfold fin4
        rw [set_ne this, set_ne this, set_ne this, set_ne this]) (by have := HSW.out; omega)
      rw [hta.out] at hrow
      unfold fin4 at hz hbf hrow
      obtain ⟨⟨v0, v1, v2, v3⟩, fv⟩ := box4 x2
      have fv0 := fv 0
      have fv1 := fv 1
      have fv2 := fv 2
      have fv3 := fv 3
      clear fv x2 R2
      go_wp2_with fail
      obtain ⟨⟨g0, g1, g2, g3⟩, -⟩ := box4 hz
      exact bodyPost_ret (v := rpL (.slice a' n' c')) (by simp [results, Tryz.results84, go_sem, g0, g1, g2, g3]) rfl ⟨_, rfl, hrow, hbf⟩
end Go.Proofs.YtpibeabokedpdaaGreatDoor.LBulks
end
section
namespace Go.Proofs.YtpibeabokedpdaaGreatDoor.LPiece
open Go.RowKit Go.Maps
open Go.Proofs.YtpibeabokedpdaaGreatDoor.Base (mk mk_list mk_size Gr hid_of SL)
open Go.Proofs.YtpibeabokedpdaaGreatDoor.Turn
open Go.Proofs.YtpibeabokedpdaaGreatDoor.Vals
open Go.Proofs.YtpibeabokedpdaaGreatDoor.SBase
open Go.Proofs.YtpibeabokedpdaaGreatDoor.SFind
open Go.Proofs.YtpibeabokedpdaaGreatDoor.QBase
open Go.Proofs.YtpibeabokedpdaaGreatDoor.LCmd
open Go.Proofs.YtpibeabokedpdaaGreatDoor.Parse (Has)
open Go.Proofs.YtpibeabokedpdaaGreatDoor.LBulks (rpL)
open Go.Proofs.YtpibeabokedpdaaGreatDoor.LRow (RR)
open Go.Proofs.YtpibeabokedpdaaGreatDoor.DqSBase (DQ)
set_option linter.unusedVariables false
set_option linter.unusedSimpArgs false
section
variable {F X : Nat → Prop} {b : Nat} {w : World} {S : Sp}
set_option maxHeartbeats 4000000 in
set_option maxRecDepth 100000 in
theorem piece_list {G : Nat → Prop} {a : Option Addr} {n c : Nat} {l : List Base.El} (hl : SL G w (.slice a n c) l) (h3 : 2 < l.length) (hbl : ∀ t ∈ l, t.length ≤ 140737488351232) (now : Int) (hh : Has w) {x y : Int} (hp : LCmd.prs l[1] = some x) (hq : LCmd.prs l[2] = some y) (hx : -9223372036854775808 ≤ x ∧ x ≤ 9223372036854775807) (hy : -9223372036854775808 ≤ y ∧ y ≤ 9223372036854775807) {L P : List Bs} (hL : L.length * 16 ≤ 68719476735) (hP : DqSPiece.pieceS (L.map mk) x y = P.map mk) (hPl : P.length < 4000000000000) (hA : ∀ V, Below w.heap.size w V → Calls Tryz.prog 66 #[cV b now a n c, .string (mk l[0])] V fun e w' => (∃ d, e = .returned (.tuple #[ptr d, .string ⟨#[]⟩]) ∧ DQ (fun q => V.heap.size ≤ q) d (L.map mk) w') ∧ Below V.heap.size V w') :
    Calls Tryz.prog 37 #[cV b now a n c] w fun e w' => ∃ v, e = .returned (rpL v) ∧ RR w.heap.size w' v P ∧ Below w.heap.size w w' := by
  obtain ⟨W, hW⟩ : ∃ W, W = (w.alloc (cO b now a n c)).alloc (rO 0 ⟨#[]⟩ 0 (.slice none 0 0)) := ⟨_, rfl⟩
  obtain ⟨bW, x0, x1, sW⟩ := two_boxes w (cO b now a n c) (rO 0 ⟨#[]⟩ 0 (.slice none 0 0)) ⟨_, _, rfl⟩
  rw [← hW] at bW x0 x1 sW
  have hcn : n ≤ c := by
    obtain ⟨a0, c0, e0, hc0', _⟩ := hl
    injection e0 with e1 e2 e3
    omega
  have hsl := LCut.sl_behind hl 1 (by omega)
  have HTw := hid_of (LTwo.two_ok (hsl.below bW) (by rw [List.length_drop]; omega) (fun t ht => hbl t (List.mem_of_mem_drop ht)) (hh.later bW) (x := x) (y := y) (by simpa using hp) (by simpa using hq))
  obtain ⟨rfl, hcs⟩ := sl_get hl
  obtain ⟨ga, oa, rfl, hc0⟩ := hcs 0 (by omega)
  rw [Nat.add_zero] at hc0
  have i0 : (0 : Int) < (l.length : Int) := by omega
  have HCW := hid_of fun (V : World) (hV : Below w.heap.size w V) => (hV.cell (p := ⟨ga, oa, none⟩) (Base.cell_lt hc0)).trans hc0
  have HAA := hid_of hA
  have HBh := hid_of fun (V : World) => LCut.behind_call (some ⟨ga, oa, none⟩) l.length c 1 1 rfl (by omega) hcn V
  have HSl := hid_of fun (V : World) (d : Nat) (Gq : Nat → Prop) (hd : DQ Gq d (L.map mk) V) => DqSPiece.slice_call hd x y hx.1 hy.1 hx.2 hy.2 (by rw [List.length_map]; omega)
  have HBu := hid_of fun (V : World) (B : Nat) (a' : Option Addr) (n' c' : Nat) (hn : DqSBase.NR B V (.slice a' n' c') (P.map mk)) => LBulks.bulks_call V (LPut.sl_km hn) hPl
  rw [hP] at HSl
  have HC0 := hid_of x0
  have HX1 := hid_of x1
  have HSW := hid_of sW
  have HB := hid_of bW
  have HW := hid_of hW
  have q2 : W.cell? ⟨w.heap.size, 2, none⟩ = some (.slice (some ⟨ga, oa, none⟩) l.length c) := Lib.cell_of_heap x0 2
  clear hW bW x0 x1 sW hA hl hcs hsl hp hq hx hy hL hP hPl hbl hh hcn
  generalize mk l[0] = K at *
  clear hc0
  go_enter Tryz.func37, Tryz.ntmps37
  go_wp2_with fail
  rw [← HW.out]
  refine (HBh.out W).mono ?_
  rintro e W' ⟨rfl, hww⟩
  have hww := hww.symm
  subst hww
  go_wp2_with fail
  refine HTw.out.mono ?_
  rintro e w1 ⟨rfl, b1⟩
  have B1 := hid_of (FRow.bel HB.out b1 (Nat.le_refl _))
  have C1 := hid_of ((b1.block _ (lt_of HC0.out)).trans HC0.out)
  have X1 := hid_of ((b1.block _ (lt_of HX1.out)).trans HX1.out)
  clear b1 q2 HTw
  have BD := hid_of (FRow.bel B1.out (Below.refl _ w1).drew (Nat.le_refl _))
  have hcw : w1.drew.cell? ⟨ga, oa, none⟩ = some (.string K) := HCW.out _ BD.out
  have q0 : w1.drew.cell? ⟨w.heap.size, 0, none⟩ = some (.pointer (some ⟨b, 0, none⟩)) := Lib.cell_of_heap C1.out 0
  have q1 : w1.drew.cell? ⟨w.heap.size, 1, none⟩ = some (.int .i64 now) := Lib.cell_of_heap C1.out 1
  have q2 : w1.drew.cell? ⟨w.heap.size, 2, none⟩ = some (.slice (some ⟨ga, oa, none⟩) l.length c) := Lib.cell_of_heap C1.out 2
  have H1 := hid_of (HAA.out w1.drew BD.out)
  clear HAA
  go_wp2_with fail
  go_cut [6, 5] (fun s6 s5 wx => (∃ d, s6 = ptr d ∧ s5 = .string ⟨#[]⟩ ∧ Hid (DQ (fun q => w1.drew.heap.size ≤ q) d (L.map mk) wx ∧ Below w.heap.size w wx ∧ wx.heap[w.heap.size + 1]? = some (rO 0 ⟨#[]⟩ 0 (.slice none 0 0)))))
  case first =>
    go_region_with (first
      | (go_at_call 66; refine H1.out.mono ?_; rintro e w2 hw2; obtain ⟨⟨d, rfl, hd⟩, b2⟩ := hw2; have HR := hid_of (And.intro hd (And.intro (FRow.bel BD.out b2 (Nat.le_refl _)) ((b2.block _ (lt_of X1.out)).trans X1.out))); clear hd b2))
    all_goals
      go_wp2_with fail
      go_meet
      case rel => exact ⟨d, rfl, rfl, HR⟩
  case rest =>
    obtain ⟨d, rfl, rfl, HQ⟩ := hcut
    have HL := hid_of (HSl.out _ _ _ HQ.out.1)
    clear hcw q0 q1 q2 HSl
    go_wp2_with fail
    refine HL.out.mono ?_
    rintro e w3 ⟨v3, rfl, hn3, b3⟩
    obtain ⟨a3, c3, hv, _⟩ := DqSFree.NR.shape hn3
    rw [List.length_map] at hv
    subst hv
    have HB3 := hid_of (HBu.out _ _ _ _ _ hn3)
    have B3 := hid_of (FRow.bel HQ.out.2.1 b3 (Nat.le_refl _))
    have X3 := hid_of ((b3.block _ (lt_of HQ.out.2.2)).trans HQ.out.2.2)
    clear hn3 b3 HL HBu
    go_wp2_with fail
    refine HB3.out.mono ?_
    rintro e w4 ⟨v4, rfl, hr4, b4⟩
    obtain ⟨a4, n4, c4, rfl⟩ := LBulks.rr_form hr4
    have z4 := (b4.block _ (lt_of X3.out)).trans X3.out
    have B4 := FRow.bel B3.out b4 (Nat.le_refl _)
    obtain ⟨⟨v0, v1, v2, v3⟩, fv⟩ := box4 z4
    have fv0 := fv 0; have fv1 := fv 1; have fv2 := fv 2; have fv3 := fv 3
    have hz := fin4_at z4 (.int .i64 6) (.string ⟨#[]⟩) (.int .i64 0) (.slice a4 n4 c4)
    have hb := fin4_b (y0 := .int .i64 6) (y1 := .string ⟨#[]⟩) (y2 := .int .i64 0) (y3 := .slice a4 n4 c4) B4 (Nat.le_succ w.heap.size)
    have h3s := B3.out.size
    have hl3 := lt_of X3.out
    have hrow : RR w.heap.size (fin4 w4 (w.heap.size + 1) (.int .i64 6) (.string ⟨#[]⟩) (.int .i64 0) (.slice a4 n4 c4)) (.slice a4 n4 c4) P := FRow.row_mono (FRow.row_later hr4 fun g cs t fz hg hgg ht => by
      have hlt2 := (hr4.lt g hg).1
      have : g ≠ w.heap.size + 1 := by omega
      unfold fin4
      rw [set_ne this, set_ne this, set_ne this, set_ne this]) h3s
    unfold fin4 at hz hb hrow
    clear fv b4 z4 B4 hr4
    go_wp2_with fail
    obtain ⟨⟨g0, g1, g2, g3⟩, -⟩ := box4 hz
    exact bodyPost_ret (v := rpL (.slice a4 n4 c4)) (by simp [results, Tryz.results37, go_sem, g0, g1, g2, g3]) rfl ⟨_, rfl, hrow, hb⟩
end
end Go.Proofs.YtpibeabokedpdaaGreatDoor.LPiece
end
