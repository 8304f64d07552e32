/- The document's own thing: what stands at a place. -/
import Derived.Test.YtfkilbhhpipjbaaGreatDoorRefBulk
import Derived.Test.YtfkilbhhpipjbaaGreatDoorRefSplit
import Derived.Test.YtfkilbhhpipjbaaGreatDoorWhole
namespace Go.Proofs.YtfkilbhhpipjbaaGreatDoor.RefThing
open Go.RowKit
open Go.Lib (decDigits trimSuffix)
open Go.Proofs.YtfkilbhhpipjbaaGreatDoor.TextMath
open Go.Proofs.YtfkilbhhpipjbaaGreatDoor.ReqMath
open Go.Proofs.YtfkilbhhpipjbaaGreatDoor.Base
open Go.Proofs.YtfkilbhhpipjbaaGreatDoor.Small
open Go.Proofs.YtfkilbhhpipjbaaGreatDoor.Append
open Go.Proofs.YtfkilbhhpipjbaaGreatDoor.Bulk2
open Go.Proofs.YtfkilbhhpipjbaaGreatDoor.BulkAny
open Go.Proofs.YtfkilbhhpipjbaaGreatDoor.Quoted
open Go.Proofs.YtfkilbhhpipjbaaGreatDoor.SplitC
open Go.Proofs.YtfkilbhhpipjbaaGreatDoor.RefPart
open Go.Proofs.YtfkilbhhpipjbaaGreatDoor.RefSplitM
open Go.Proofs.YtfkilbhhpipjbaaGreatDoor.RefSplit
open Go.Proofs.YtfkilbhhpipjbaaGreatDoor.RefLine
open Go.Proofs.YtfkilbhhpipjbaaGreatDoor.RefCount
open Go.Proofs.YtfkilbhhpipjbaaGreatDoor.RefBulk
open Go.Proofs.YtfkilbhhpipjbaaGreatDoor.Whole
set_option linter.unusedVariables false

theorem trim_pre (l y : List UInt8) : trimSuffix l y <+: l := by
  unfold trimSuffix
  split
  · exact List.take_prefix _ _
  · exact List.prefix_refl _
theorem line_pre {most : Nat} {l x : List UInt8} {n : Nat} (h : lineS most l = .got x n) : x <+: l := by
  unfold lineS at h
  cases hn : nl l with
  | none => rw [hn] at h; dsimp only at h; split at h <;> cases h
  | some i =>
    rw [hn] at h
    dsimp only at h
    split at h
    · cases h
    · injection h with h1 h2
      rw [← h1]
      exact (trim_pre _ _).trans (List.take_prefix _ _)
theorem head_not {most : Nat} {c : UInt8} {t x : List UInt8} {n : Nat} (hc : c ≠ 42) (h : lineS most (c :: t) = .got x n) : ¬ x.headD 0 = 42 := by
  have hp := line_pre h
  cases x with
  | nil => decide
  | cons d r =>
    obtain ⟨r2, hr⟩ := hp
    injection hr with h1 h2
    show ¬ d = 42
    rw [h1]
    exact hc
def thE (a : Nat) (w : World) (e : Ending) (w' : World) : TR → Prop
  | .more => e = .returned (thg (.slice none 0 0) 0 0 ⟨#[]⟩) ∧ Below w.heap.size w w'
  | .fault x => e = .returned (thg (.slice none 0 0) 0 2 (mk x)) ∧ Below w.heap.size w w'
  | .done n ws => ∃ v, e = .returned (thg v ((a + n : Nat) : Int) 1 ⟨#[]⟩) ∧ WS w' v ws ∧ (∀ g, v.ownBlock = some g → w.heap.size ≤ g) ∧ Below w.heap.size w w'
theorem add_add (x : TR) (m c : Nat) : (x.add m).add c = x.add (c + m) := by
  cases x <;> simp [TR.add, Nat.add_assoc]
theorem add_zero (x : TR) : x.add 0 = x := by cases x <;> simp [TR.add]
abbrev o23 (L : Lim) : Obj := .cells #[.int .i64 L.bulk, .int .i64 L.args, .int .i64 L.line] 23
abbrev o79 : Obj := .cells #[.slice none 0 0, .int .i64 0, .int .i64 0, .string ⟨#[]⟩] 79
structure Bx (L : Lim) (w W : World) : Prop where
  l : W.heap[w.heap.size]? = some (o23 L)
  b : W.heap[w.heap.size + 1]? = some o79
  bl : Below w.heap.size w W
  sz : w.heap.size + 1 < W.heap.size
theorem Bx.start (L : Lim) (w : World) : Bx L w ((w.alloc (o23 L)).alloc o79) := by
  have hs : (w.alloc (o23 L)).heap.size = w.heap.size + 1 := by simp
  refine ⟨?_, ?_, ((Below.refl _ w).alloc (Nat.le_refl _) _).alloc (by simp) _, by simp⟩
  · rw [Below.heap_alloc _ _ w.heap.size (by simp)]
    exact heap_alloc_new w _
  · have := heap_alloc_new (w.alloc (o23 L)) o79
    rw [hs] at this
    exact this
theorem Bx.on {L : Lim} {w W W' : World} (h : Bx L w W) (hb : Below (w.heap.size + 2) W W') : Bx L w W' := by
  have hz := h.sz
  exact ⟨(hb.block _ (by omega)).trans h.l, (hb.block _ (by omega)).trans h.b, h.bl.trans (hb.mono (by omega)), Nat.lt_of_lt_of_le hz hb.size⟩
theorem Bx.below {L : Lim} {w W W' : World} (h : Bx L w W) (hb : Below W.heap.size W W') : Bx L w W' := h.on (hb.mono (by have := h.sz; omega))
structure Ar (L : Lim) (w W : World) (ws : List (List UInt8)) (v : Value) : Prop where
  ws : WS W v ws
  ow : ∀ g, v.ownBlock = some g → w.heap.size + 2 ≤ g
  bx : Bx L w W
theorem Ar.below {L : Lim} {w W W' : World} {ws : List (List UInt8)} {v : Value} (h : Ar L w W ws v) (hb : Below W.heap.size W W') : Ar L w W' ws v := ⟨owns_below h.ws hb, h.ow, h.bx.below hb⟩
theorem ar_snoc {L : Lim} {w W W' : World} {ws : List (List UInt8)} {x : List UInt8} {v v' : Value} {o : Obj} (h : Ar L w W ws v) (hg : Apd 9 v ws.length 1 (strC ws ++ [.string (Base.mk x)]) v' (W.alloc o) W') : Ar L w W' (ws ++ [x]) v' := by
  obtain ⟨q1, q2, q3, -⟩ := hg
  have hz := h.bx.sz
  have hb : Below (w.heap.size + 2) W (W.alloc o) := (Below.refl _ W).alloc (by omega) o
  refine ⟨?_, fun g hg => (q3 g hg).elim (h.ow g) (fun e => by have := hb.size; omega), h.bx.on (hb.grown q2 (by have := hb.size; omega) h.ow)⟩
  have e : strC (ws ++ [x]) = strC ws ++ [.string (Base.mk x)] := by unfold strC; rw [List.map_append]; rfl
  unfold WS
  rw [e, List.length_append]
  exact q1
theorem ws_shape {w : World} {v : Value} {ws : List (List UInt8)} (h : WS w v ws) : ∃ a c, v = .slice a ws.length c := by
  rcases h.2 with ⟨rfl, h0⟩ | ⟨g, cap, cur, rfl, _⟩
  · exact ⟨none, 0, by rw [h0]⟩
  · exact ⟨_, _, rfl⟩
/- the words stand where a box of another kind is written -/
theorem ws_box {w : World} {b : Nat} {c : Array Value} {v v0 v1 v2 v3 : Value} {ws : List (List UInt8)} (h : WS w v ws) (hb : w.heap[b]? = some (.cells c 79 (0, 0))) : WS ((((w.setCell ⟨b, 0, none⟩ v0).setCell ⟨b, 1, none⟩ v1).setCell ⟨b, 2, none⟩ v2).setCell ⟨b, 3, none⟩ v3) v ws := by
  refine ws_keep h fun g cs fz hg => ?_
  have hne : g ≠ b := by
    rintro rfl
    rw [hg] at hb
    injection hb with hb
    injection hb with _ hb
    cases hb
  rw [Below.heap_setCell _ _ _ _ hne, Below.heap_setCell _ _ _ _ hne, Below.heap_setCell _ _ _ _ hne, Below.heap_setCell _ _ _ _ hne]
structure Ai (L : Lim) (l : List UInt8) (K P j Pn : Nat) (ws : List (List UInt8)) : Prop where
  eq : arrS L K [] (l.drop P) = (arrS L (K - j) ws (l.drop Pn)).add (Pn - P)
  le : P ≤ Pn
  len : ws.length = j
theorem Ai.more {L : Lim} {l : List UInt8} {K P j Pn : Nat} {ws : List (List UInt8)} (h : Ai L l K P j Pn ws) (hj : j < K) (hb : bulkS L (l.drop Pn) = .more) : arrS L K [] (l.drop P) = .more := by
  rw [h.eq, show K - j = (K - j - 1) + 1 by omega]
  unfold arrS
  rw [hb]
  rfl
theorem Ai.fault {L : Lim} {l x : List UInt8} {K P j Pn : Nat} {ws : List (List UInt8)} (h : Ai L l K P j Pn ws) (hj : j < K) (hb : bulkS L (l.drop Pn) = .fault x) : arrS L K [] (l.drop P) = .fault x := by
  rw [h.eq, show K - j = (K - j - 1) + 1 by omega]
  unfold arrS
  rw [hb]
  rfl
theorem Ai.step {L : Lim} {l t : List UInt8} {K P j Pn m : Nat} {ws : List (List UInt8)} (h : Ai L l K P j Pn ws) (hj : j < K) (hb : bulkS L (l.drop Pn) = .done m t) : Ai L l K P (j + 1) (Pn + m) (ws ++ [t]) := by
  have hle := h.le
  refine ⟨?_, by omega, by rw [List.length_append, h.len]; rfl⟩
  rw [h.eq, show K - j = (K - (j + 1)) + 1 by omega]
  conv => lhs; unfold arrS
  rw [hb]
  dsimp only
  rw [add_add, List.drop_drop]
  congr 1
  omega
theorem Ai.done {L : Lim} {l : List UInt8} {K P Pn : Nat} {ws : List (List UInt8)} (h : Ai L l K P K Pn ws) : arrS L K [] (l.drop P) = .done (Pn - P) ws := by
  rw [h.eq, Nat.sub_self]
  rfl
theorem bulk_le {L : Lim} {l t : List UInt8} {m : Nat} (h : bulkS L l = .done m t) : m ≤ l.length := (bulk_done h []).2.1
set_option maxHeartbeats 8000000 in
set_option maxRecDepth 100000 in
theorem rthing_call (L : Lim) (hL : Lok L) (s : ByteArray) (a : Nat) (ha : a < s.size) (hz : s.size ≤ 67108864) (w : World) (h8 : 8 ≤ w.heap.size) :
    Calls Tryz.prog 43 #[limV L, .string s, .int .i64 (a : Int)] w fun e w' => thE a w e w' (thingS L ((bs s).drop a)) := by
  have hsl : (bs s).length = s.size := len_bs s
  have HWr := hid_of rwrong_call
  obtain ⟨W0, hW0⟩ : ∃ W0, W0 = (w.alloc (o23 L)).alloc o79 := ⟨_, rfl⟩
  have HB0 : Hid (Bx L w W0) := by rw [hW0]; exact Bx.start L w
  have HLn := hid_of (rline_call s a L.line (by omega) hz (by have := hL.line; omega) W0)
  have HW0 := hid_of hW0
  clear hW0
  unfold limV
  cases hl : lineS L.line ((bs s).drop a) with
  | more =>
    rw [hl] at HLn
    have HQ : Hid (thingS L ((bs s).drop a) = .more) := by show _ = _; unfold thingS; rw [hl]
    unfold lineE at HLn
    clear hl
    go_enter Tryz.func43, Tryz.ntmps43
    go_wp2_with fail
    rw [← HW0.out]
    refine HLn.out.mono ?_
    rintro e w1 ⟨rfl, hw1⟩
    subst hw1
    have k0 : w1.cell? ⟨w.heap.size + 1, 0, none⟩ = some (.slice none 0 0) := Lib.cell_of_heap HB0.out.b 0
    have k1 : w1.cell? ⟨w.heap.size + 1, 1, none⟩ = some (.int .i64 0) := Lib.cell_of_heap HB0.out.b 1
    have k2 : w1.cell? ⟨w.heap.size + 1, 2, none⟩ = some (.int .i64 0) := Lib.cell_of_heap HB0.out.b 2
    have k3 : w1.cell? ⟨w.heap.size + 1, 3, none⟩ = some (.string ⟨#[]⟩) := Lib.cell_of_heap HB0.out.b 3
    have z0 := Lib.frozen_of_heap HB0.out.b 0
    have z1 := Lib.frozen_of_heap HB0.out.b 1
    have z2 := Lib.frozen_of_heap HB0.out.b 2
    have z3 := Lib.frozen_of_heap HB0.out.b 3
    go_wp2_with fail
    have hbx := box_set (v0 := .slice none 0 0) (v1 := .int .i64 0) (v2 := .int .i64 0) (v3 := .string ⟨#[]⟩) HB0.out.b
    have f0 := Lib.cell_of_heap hbx 0
    have f1 := Lib.cell_of_heap hbx 1
    have f2 := Lib.cell_of_heap hbx 2
    have f3 := Lib.cell_of_heap hbx 3
    refine ⟨rfl, thg (.slice none 0 0) (0) (0) (⟨#[]⟩), ?_, by rw [HQ.out]; exact ⟨rfl, box_below HB0.out.bl (Nat.le_succ _)⟩⟩
    simp [results, Tryz.results43, go_sem, f0, f1, f2, f3]
  | long =>
    rw [hl] at HLn
    have HQ : Hid (thingS L ((bs s).drop a) = .fault wLine) := by show _ = _; unfold thingS; rw [hl]
    unfold lineE at HLn
    clear hl
    go_enter Tryz.func43, Tryz.ntmps43
    go_wp2_with fail
    rw [← HW0.out]
    refine HLn.out.mono ?_
    rintro e w1 ⟨rfl, hw1⟩
    subst hw1
    go_wp2_with fail
    refine (HWr.out _ _).mono ?_
    rintro e wz ⟨rfl, bz⟩
    have BZ := hid_of (HB0.out.below bz)
    clear bz
    have k0 : wz.cell? ⟨w.heap.size + 1, 0, none⟩ = some (.slice none 0 0) := Lib.cell_of_heap BZ.out.b 0
    have k1 : wz.cell? ⟨w.heap.size + 1, 1, none⟩ = some (.int .i64 0) := Lib.cell_of_heap BZ.out.b 1
    have k2 : wz.cell? ⟨w.heap.size + 1, 2, none⟩ = some (.int .i64 0) := Lib.cell_of_heap BZ.out.b 2
    have k3 : wz.cell? ⟨w.heap.size + 1, 3, none⟩ = some (.string ⟨#[]⟩) := Lib.cell_of_heap BZ.out.b 3
    have z0 := Lib.frozen_of_heap BZ.out.b 0
    have z1 := Lib.frozen_of_heap BZ.out.b 1
    have z2 := Lib.frozen_of_heap BZ.out.b 2
    have z3 := Lib.frozen_of_heap BZ.out.b 3
    go_wp2_with fail
    have hbx := box_set (v0 := .slice none 0 0) (v1 := .int .i64 0) (v2 := .int .i64 2) (v3 := .string ⟨#[108, 105, 110, 101]⟩) BZ.out.b
    have f0 := Lib.cell_of_heap hbx 0
    have f1 := Lib.cell_of_heap hbx 1
    have f2 := Lib.cell_of_heap hbx 2
    have f3 := Lib.cell_of_heap hbx 3
    refine ⟨rfl, thg (.slice none 0 0) (0) (2) (⟨#[108, 105, 110, 101]⟩), ?_, by rw [HQ.out]; exact ⟨rfl, box_below BZ.out.bl (Nat.le_succ _)⟩⟩
    simp [results, Tryz.results43, go_sem, f0, f1, f2, f3]
  | got x n =>
    rw [hl] at HLn
    have hnl := line_len hl
    have hdl : ((bs s).drop a).length = s.size - a := by rw [List.length_drop, hsl]
    have e1 : thingS L ((bs s).drop a) = firstS L n x (((bs s).drop a).drop n) := by unfold thingS; rw [hl]
    obtain ⟨P, hP⟩ : ∃ P : Nat, P = a + n := ⟨_, rfl⟩
    have hdp : ((bs s).drop a).drop n = (bs s).drop P := by rw [List.drop_drop, hP]
    rw [hdp] at e1
    unfold lineE at HLn
    dsimp only at HLn
    rw [← hP] at HLn
    have hPs : P ≤ s.size := by omega
    have hxn : x.length ≤ s.size := by omega
    obtain ⟨c, hc⟩ : ∃ c, (bs s)[a]? = some c := ⟨_, get_bs s a (by omega)⟩
    have hix := index_at s a c hc (a : Int) rfl
    have hdr : (bs s).drop a = c :: (bs s).drop (a + 1) := by
      obtain ⟨h2, h3⟩ := List.getElem?_eq_some_iff.1 hc
      rw [List.drop_eq_getElem_cons h2, h3]
    rw [hdr] at hl
    by_cases h42 : c = 42
    · subst h42
      obtain ⟨d, hd⟩ : ∃ d, x = 42 :: d := line_head (by decide) (by decide) hl
      subst hd
      have hxl : d.length + 1 ≤ s.size := by have := hxn; simp at this; omega
      have hsl1 : ∀ W, (Instr.slice 9 (.string (mk (42 :: d))) (some (.int .i64 1)) none none).run Tryz.prog W = .ok (.string (mk d)) W := by
        obtain ⟨t, ht, _, hr⟩ := Word.str_from (mk (42 :: d)) 1 1 rfl (by rw [mk_size]; simp)
        rw [bs_mk] at ht
        have : t = mk d := of_bs ht
        subst this
        exact hr
      have HCt := hid_of (fun W => rcount_call (mk d) L.args (by rw [mk_size]; omega) (by have := hL.args; omega) W)
      rw [bs_mk] at HCt
      have hP2 := hP
      cases hk : countS L.args d with
      | none =>
        rw [hk] at HCt
        have HQ : Hid (thingS L ((bs s).drop a) = .fault wCount) := by
          show _ = _
          rw [e1]
          unfold firstS
          rw [if_pos (show (42 :: d).headD 0 = 42 from rfl), List.tail_cons, hk]
        unfold countE at HCt
        clear hdr hc hl e1 hnl hdl hxl hk hP hdp hP2
        go_enter Tryz.func43, Tryz.ntmps43
        go_wp2_with fail
        rw [← HW0.out]
        refine HLn.out.mono ?_
        rintro e w1 ⟨rfl, hw1⟩
        subst hw1
        have l1 : w1.cell? ⟨w.heap.size, 1, none⟩ = some (.int .i64 L.args) := Lib.cell_of_heap HB0.out.l 1
        go_wp2_with fail
        go_region_with (go_at_call 57; refine (HCt.out _).mono ?_; rintro e wy ⟨rfl, rfl⟩)
        obtain ⟨V, hV⟩ : ∃ V, V = w1.drew := ⟨_, rfl⟩
        have BV : Hid (Bx L w V) := by rw [hV]; exact HB0.out.below ⟨rfl, rfl, rfl, Nat.le_refl _, fun _ _ => rfl⟩
        rw [← hV]
        clear hV l1
        go_wp2_with fail
        refine (HWr.out _ _).mono ?_
        rintro e wz ⟨rfl, bz⟩
        have BZ := hid_of (BV.out.below bz)
        clear bz
        have k0 : wz.cell? ⟨w.heap.size + 1, 0, none⟩ = some (.slice none 0 0) := Lib.cell_of_heap BZ.out.b 0
        have k1 : wz.cell? ⟨w.heap.size + 1, 1, none⟩ = some (.int .i64 0) := Lib.cell_of_heap BZ.out.b 1
        have k2 : wz.cell? ⟨w.heap.size + 1, 2, none⟩ = some (.int .i64 0) := Lib.cell_of_heap BZ.out.b 2
        have k3 : wz.cell? ⟨w.heap.size + 1, 3, none⟩ = some (.string ⟨#[]⟩) := Lib.cell_of_heap BZ.out.b 3
        have z0 := Lib.frozen_of_heap BZ.out.b 0
        have z1 := Lib.frozen_of_heap BZ.out.b 1
        have z2 := Lib.frozen_of_heap BZ.out.b 2
        have z3 := Lib.frozen_of_heap BZ.out.b 3
        go_wp2_with fail
        have hbx := box_set (v0 := .slice none 0 0) (v1 := .int .i64 0) (v2 := .int .i64 2) (v3 := .string ⟨#[99, 111, 117, 110, 116]⟩) BZ.out.b
        have f0 := Lib.cell_of_heap hbx 0
        have f1 := Lib.cell_of_heap hbx 1
        have f2 := Lib.cell_of_heap hbx 2
        have f3 := Lib.cell_of_heap hbx 3
        refine ⟨rfl, thg (.slice none 0 0) (0) (2) (⟨#[99, 111, 117, 110, 116]⟩), ?_, by rw [HQ.out]; exact ⟨rfl, box_below BZ.out.bl (Nat.le_succ _)⟩⟩
        simp [results, Tryz.results43, go_sem, f0, f1, f2, f3]
      | some K =>
        rw [hk] at HCt
        have hKa : K ≤ L.args := (canon_of hk).2.2
        have hKb : K ≤ 65536 := by have := hL.args; omega
        have HQ : Hid (thingS L ((bs s).drop a) = (arrS L K [] ((bs s).drop P)).add n) := by
          show _ = _
          rw [e1]
          unfold firstS
          rw [if_pos (show (42 :: d).headD 0 = 42 from rfl), List.tail_cons, hk]
        unfold countE at HCt
        have HP := hid_of hP2
        clear hdr hc hl e1 hnl hdl hxl hk hP hdp hP2
        go_enter Tryz.func43, Tryz.ntmps43
        go_wp2_with fail
        rw [← HW0.out]
        refine HLn.out.mono ?_
        rintro e w1 ⟨rfl, hw1⟩
        subst hw1
        have l1 : w1.cell? ⟨w.heap.size, 1, none⟩ = some (.int .i64 L.args) := Lib.cell_of_heap HB0.out.l 1
        go_wp2_with fail
        go_region_with (go_at_call 57; refine (HCt.out _).mono ?_; rintro e wy ⟨rfl, rfl⟩)
        obtain ⟨V, hV⟩ : ∃ V, V = w1.drew := ⟨_, rfl⟩
        have BV : Hid (Bx L w V) := by rw [hV]; exact HB0.out.below ⟨rfl, rfl, rfl, Nat.le_refl _, fun _ _ => rfl⟩
        rw [← hV]
        clear hV l1
        have A0 : Hid (Ar L w V [] (.slice none 0 0)) := ⟨World.ownsRow_nil _ _ _ _, fun g e => by simp [Value.ownBlock] at e, BV.out⟩
        have I0 : Hid (Ai L (bs s) K P 0 P []) := ⟨by rw [Nat.sub_self, add_zero, Nat.sub_zero], Nat.le_refl _, rfl⟩
        go_wp2_with fail
        go_loopg [8, 12, 13] K (fun g s8 s12 s13 wx => ∃ (j Pn : Nat) (ws : List (List UInt8)), j ≤ K ∧ K ≤ j + g ∧ Pn ≤ s.size ∧ s8 = .int .i64 Pn ∧ s13 = .int .i64 j ∧ Hid (Ar L w wx ws s12) ∧ Hid (Ai L (bs s) K P j Pn ws))
        case atStart => exact ⟨0, P, [], by omega, by omega, hPs, rfl, rfl, A0, I0⟩
        case round =>
          obtain ⟨j, Pn, ws, hj, hg, hPn, rfl, rfl, A, I⟩ := hrel
          by_cases hlt : j < K
          · obtain ⟨g', rfl⟩ : ∃ g', gk = g' + 1 := ⟨gk - 1, by omega⟩
            have gi : ((j : Int)) < (K : Int) := by omega
            have m0 : wr.cell? ⟨w.heap.size, 0, none⟩ = some (.int .i64 L.bulk) := Lib.cell_of_heap A.out.bx.l 0
            have m1 : wr.cell? ⟨w.heap.size, 1, none⟩ = some (.int .i64 L.args) := Lib.cell_of_heap A.out.bx.l 1
            have m2 : wr.cell? ⟨w.heap.size, 2, none⟩ = some (.int .i64 L.line) := Lib.cell_of_heap A.out.bx.l 2
            have BK := hid_of (rbulk_call L hL s Pn hPn hz wr)
            unfold limV at BK
            cases hb : bulkS L ((bs s).drop Pn) with
            | more =>
              rw [hb] at BK
              unfold bulkE at BK
              have HQ2 : Hid (thingS L ((bs s).drop a) = .more) := by show _ = _; rw [HQ.out, I.out.more hlt hb]; rfl
              clear hb
              go_wp2_with fail
              refine BK.out.mono ?_
              rintro e w3 ⟨rfl, b3⟩
              have B3 := hid_of (A.out.bx.below b3)
              have hzz : w.heap.size + 1 < w3.heap.size := B3.out.sz
              clear b3
              have k0 : w3.cell? ⟨w.heap.size + 1, 0, none⟩ = some (.slice none 0 0) := Lib.cell_of_heap B3.out.b 0
              have k1 : w3.cell? ⟨w.heap.size + 1, 1, none⟩ = some (.int .i64 0) := Lib.cell_of_heap B3.out.b 1
              have k2 : w3.cell? ⟨w.heap.size + 1, 2, none⟩ = some (.int .i64 0) := Lib.cell_of_heap B3.out.b 2
              have k3 : w3.cell? ⟨w.heap.size + 1, 3, none⟩ = some (.string ⟨#[]⟩) := Lib.cell_of_heap B3.out.b 3
              have z0 := Lib.frozen_of_heap B3.out.b 0
              have z1 := Lib.frozen_of_heap B3.out.b 1
              have z2 := Lib.frozen_of_heap B3.out.b 2
              have z3 := Lib.frozen_of_heap B3.out.b 3
              go_wp2_with fail
              have hbx := box_set (v0 := .slice none 0 0) (v1 := .int .i64 0) (v2 := .int .i64 0) (v3 := .string ⟨#[]⟩) B3.out.b
              have f0 := Lib.cell_of_heap hbx 0
              have f1 := Lib.cell_of_heap hbx 1
              have f2 := Lib.cell_of_heap hbx 2
              have f3 := Lib.cell_of_heap hbx 3
              refine ⟨rfl, thg (.slice none 0 0) (0) (0) (⟨#[]⟩), ?_, by rw [HQ2.out]; exact ⟨rfl, (box_below B3.out.bl (Nat.le_succ _)).alloc (by simp; omega) _⟩⟩
              simp [results, Tryz.results43, go_sem, f0, f1, f2, f3, hzz]
            | fault f =>
              rw [hb] at BK
              unfold bulkE at BK
              have HQ2 : Hid (thingS L ((bs s).drop a) = .fault f) := by show _ = _; rw [HQ.out, I.out.fault hlt hb]; rfl
              dsimp only at BK
              obtain ⟨Fx, hFx⟩ : ∃ Fx, Fx = mk f := ⟨_, rfl⟩
              rw [← hFx] at BK
              have HF := hid_of hFx
              clear hb hFx
              go_wp2_with fail
              refine BK.out.mono ?_
              rintro e w3 ⟨rfl, b3⟩
              have B3 := hid_of (A.out.bx.below b3)
              have hzz : w.heap.size + 1 < w3.heap.size := B3.out.sz
              clear b3
              have k0 : w3.cell? ⟨w.heap.size + 1, 0, none⟩ = some (.slice none 0 0) := Lib.cell_of_heap B3.out.b 0
              have k1 : w3.cell? ⟨w.heap.size + 1, 1, none⟩ = some (.int .i64 0) := Lib.cell_of_heap B3.out.b 1
              have k2 : w3.cell? ⟨w.heap.size + 1, 2, none⟩ = some (.int .i64 0) := Lib.cell_of_heap B3.out.b 2
              have k3 : w3.cell? ⟨w.heap.size + 1, 3, none⟩ = some (.string ⟨#[]⟩) := Lib.cell_of_heap B3.out.b 3
              have z0 := Lib.frozen_of_heap B3.out.b 0
              have z1 := Lib.frozen_of_heap B3.out.b 1
              have z2 := Lib.frozen_of_heap B3.out.b 2
              have z3 := Lib.frozen_of_heap B3.out.b 3
              go_wp2_with fail
              have hbx := box_set (v0 := .slice none 0 0) (v1 := .int .i64 0) (v2 := .int .i64 2) (v3 := .string Fx) B3.out.b
              have f0 := Lib.cell_of_heap hbx 0
              have f1 := Lib.cell_of_heap hbx 1
              have f2 := Lib.cell_of_heap hbx 2
              have f3 := Lib.cell_of_heap hbx 3
              refine ⟨rfl, thg (.slice none 0 0) (0) (2) (Fx), ?_, by rw [HQ2.out]; exact ⟨by rw [HF.out], (box_below B3.out.bl (Nat.le_succ _)).alloc (by simp; omega) _⟩⟩
              simp [results, Tryz.results43, go_sem, f0, f1, f2, f3, hzz]
            | done m t =>
              rw [hb] at BK
              unfold bulkE at BK
              have hmle := bulk_le hb
              rw [List.length_drop, hsl] at hmle
              have I2 := hid_of (I.out.step hlt hb)
              obtain ⟨Q, hQ⟩ : ∃ Q, Q = Pn + m := ⟨_, rfl⟩
              dsimp only at BK
              rw [← hQ] at BK I2
              have hQs : Q ≤ s.size := by omega
              obtain ⟨T, hT⟩ : ∃ T, T = mk t := ⟨_, rfl⟩
              rw [← hT] at BK
              have HT := hid_of hT
              have hwl : ws.length ≤ 65536 := by have := I.out.len; omega
              clear hb hmle hQ hT
              go_wp2_with fail
              refine BK.out.mono ?_
              rintro e w3 ⟨rfl, b3⟩
              obtain ⟨V3, hV3⟩ : ∃ V3, V3 = w3.alloc (.cells #[.slice none 0 0, .int .i64 (Q : Int), .int .i64 1, .string ⟨#[]⟩] 79) := ⟨_, rfl⟩
              have A3 : Hid (Ar L w V3 ws u12) := by rw [hV3]; exact (A.out.below b3).below ((Below.refl _ w3).alloc (Nat.le_refl _) _)
              have p1 : V3.cell? ⟨w3.heap.size, 1, none⟩ = some (.int .i64 (Q : Int)) := by rw [hV3]; exact Lib.cell_of_heap (heap_alloc_new w3 _) 1
              have p2 : V3.cell? ⟨w3.heap.size, 2, none⟩ = some (.int .i64 1) := by rw [hV3]; exact Lib.cell_of_heap (heap_alloc_new w3 _) 2
              have hpz : w3.heap.size < V3.heap.size := by rw [hV3]; simp
              have HV3 := hid_of hV3
              have HO9 : Hid ((V3.alloc (.cells #[.string T] 9)).ownsRow 8 9 1 u12 ws.length (strC ws)) := (show V3.ownsRow 8 9 1 u12 ws.length (strC ws) from A3.out.ws).alloc _
              have HZ : Hid (8 ≤ (V3.alloc (.cells #[.string T] 9)).heap.size) := by show _ ≤ _; have := A3.out.bx.sz; simp; omega
              have hvz : V3.heap.size = w3.heap.size + 1 := by rw [hV3]; simp
              have HU : Hid ((V3.alloc (.cells #[.string T] 9)).cell? ⟨w3.heap.size + 1, 0, none⟩ = some (.string T)) := by rw [← hvz]; exact World.cell?_alloc_new V3 #[.string T] 9 0
              have HXL : Hid (ws.length + 1 ≤ 1000000000) := by show _ ≤ _; omega
              have HPX : Hid (∀ v' w2, Apd 9 u12 ws.length 1 (strC ws ++ [.string T]) v' (V3.alloc (.cells #[.string T] 9)) w2 → w2.cell? ⟨w3.heap.size, 1, none⟩ = some (.int .i64 (Q : Int))) := by
                intro v' w2 hap
                have hk : V3.heap[w3.heap.size]? = some (.cells #[.slice none 0 0, .int .i64 (Q : Int), .int .i64 1, .string ⟨#[]⟩] 79 (0, 0)) := by rw [HV3.out]; exact heap_alloc_new w3 _
                have hne : u12.ownBlock ≠ some w3.heap.size := fun e => by
                  obtain ⟨cc, hcc⟩ := owns_kind A3.out.ws _ e
                  rw [hk] at hcc
                  injection hcc with hcc
                  injection hcc with _ hcc
                  cases hcc
                exact Lib.cell_of_heap ((hap.2.1.block _ (by simp; omega) (fun e => hne e.symm)).trans ((Below.heap_alloc _ _ _ hpz).trans hk)) 1
              clear b3 hV3 hpz hvz
              go_wp2_with (at_builtin; rw [← HV3.out]; refine wpl_one el33 rfl _ _ rfl u12 ws.length (strC ws) (V3.alloc (.cells #[.string T] 9)) ⟨w3.heap.size + 1, 0, none⟩ 1 (.string T) HO9.out HZ.out rfl rfl HU.out rfl HXL.out ?_)
              intro v' w2 hap
              have p12 := HPX.out v' w2 hap
              have HAP : Hid (Ar L w w2 (ws ++ [t]) v') := ar_snoc A3.out (by rw [← HT.out]; exact hap)
              clear hap
              go_wp2_with fail
              go_roundg g'
              case measure => omega
              case rel => exact ⟨j + 1, Q, ws ++ [t], by omega, by omega, hQs, rfl, by simp, HAP, I2⟩
          · obtain rfl : j = K := by omega
            have gi : ¬ ((j : Int)) < (j : Int) := by omega
            have hle := I.out.le
            have HQ2 : Hid (thingS L ((bs s).drop a) = .done (n + (Pn - P)) ws) := by show _ = _; rw [HQ.out, I.out.done]; rfl
            have HM : Hid (a + (n + (Pn - P)) = Pn) := by show _ = _; have := HP.out; omega
            obtain ⟨a1, cp1, hv⟩ := ws_shape A.out.ws
            subst hv
            clear hle
            have k0 : wr.cell? ⟨w.heap.size + 1, 0, none⟩ = some (.slice none 0 0) := Lib.cell_of_heap A.out.bx.b 0
            have k1 : wr.cell? ⟨w.heap.size + 1, 1, none⟩ = some (.int .i64 0) := Lib.cell_of_heap A.out.bx.b 1
            have k2 : wr.cell? ⟨w.heap.size + 1, 2, none⟩ = some (.int .i64 0) := Lib.cell_of_heap A.out.bx.b 2
            have k3 : wr.cell? ⟨w.heap.size + 1, 3, none⟩ = some (.string ⟨#[]⟩) := Lib.cell_of_heap A.out.bx.b 3
            have z0 := Lib.frozen_of_heap A.out.bx.b 0
            have z1 := Lib.frozen_of_heap A.out.bx.b 1
            have z2 := Lib.frozen_of_heap A.out.bx.b 2
            have z3 := Lib.frozen_of_heap A.out.bx.b 3
            go_wp2_with fail
            have hbx := box_set (v0 := .slice a1 ws.length cp1) (v1 := .int .i64 (Pn : Int)) (v2 := .int .i64 1) (v3 := .string ⟨#[]⟩) A.out.bx.b
            have f0 := Lib.cell_of_heap hbx 0
            have f1 := Lib.cell_of_heap hbx 1
            have f2 := Lib.cell_of_heap hbx 2
            have f3 := Lib.cell_of_heap hbx 3
            refine ⟨rfl, thg (.slice a1 ws.length cp1) ((Pn : Int)) (1) (⟨#[]⟩), ?_, by rw [HQ2.out]; exact ⟨_, by rw [HM.out], ws_box A.out.ws A.out.bx.b, fun g e => by have := A.out.ow g e; omega, box_below A.out.bx.bl (Nat.le_succ _)⟩⟩
            simp [results, Tryz.results43, go_sem, f0, f1, f2, f3]
    · have hnot := head_not h42 hl
      have e2 : firstS L n x ((bs s).drop P) = match typedS L x with
          | .error w => .fault w
          | .ok ws => .done n ws := by
        unfold firstS
        rw [if_neg hnot]
        rfl
      have g42 : ((c.toNat : Int) == 42) = false := by
        rw [beq_eq_false_iff_ne]
        intro h
        exact h42 (UInt8.toNat_inj.1 (by simpa using (by omega : c.toNat = 42)))
      have HSp := hid_of (rsplit_call (mk x) (by rw [mk_size]; omega) W0 (by have := HB0.out.sz; omega))
      rw [bs_mk] at HSp
      have HP := hid_of hP
      cases hsp : splitS x with
      | none =>
        rw [hsp] at HSp
        have HQ : Hid (thingS L ((bs s).drop a) = .fault wQuotes) := by
          show _ = _
          rw [e1, e2]
          unfold typedS
          rw [hsp]
        clear hdr hc hl e1 e2 hnl hdl hP hdp hsp hnot h42
        go_enter Tryz.func43, Tryz.ntmps43
        go_wp2_with fail
        rw [← HW0.out]
        refine HLn.out.mono ?_
        rintro e w1 ⟨rfl, hw1⟩
        subst hw1
        go_wp2_with fail
        refine HSp.out.mono ?_
        rintro e w2 ⟨rfl, b2⟩
        have B2 := hid_of (HB0.out.below b2)
        clear b2
        go_wp2_with fail
        refine (HWr.out _ _).mono ?_
        rintro e wz ⟨rfl, bz⟩
        have BZ := hid_of (B2.out.below bz)
        clear bz
        have k0 : wz.cell? ⟨w.heap.size + 1, 0, none⟩ = some (.slice none 0 0) := Lib.cell_of_heap BZ.out.b 0
        have k1 : wz.cell? ⟨w.heap.size + 1, 1, none⟩ = some (.int .i64 0) := Lib.cell_of_heap BZ.out.b 1
        have k2 : wz.cell? ⟨w.heap.size + 1, 2, none⟩ = some (.int .i64 0) := Lib.cell_of_heap BZ.out.b 2
        have k3 : wz.cell? ⟨w.heap.size + 1, 3, none⟩ = some (.string ⟨#[]⟩) := Lib.cell_of_heap BZ.out.b 3
        have z0 := Lib.frozen_of_heap BZ.out.b 0
        have z1 := Lib.frozen_of_heap BZ.out.b 1
        have z2 := Lib.frozen_of_heap BZ.out.b 2
        have z3 := Lib.frozen_of_heap BZ.out.b 3
        go_wp2_with fail
        have hbx := box_set (v0 := .slice none 0 0) (v1 := .int .i64 0) (v2 := .int .i64 2) (v3 := .string ⟨#[113, 117, 111, 116, 101, 115]⟩) BZ.out.b
        have f0 := Lib.cell_of_heap hbx 0
        have f1 := Lib.cell_of_heap hbx 1
        have f2 := Lib.cell_of_heap hbx 2
        have f3 := Lib.cell_of_heap hbx 3
        refine ⟨rfl, thg (.slice none 0 0) (0) (2) (⟨#[113, 117, 111, 116, 101, 115]⟩), ?_, by rw [HQ.out]; exact ⟨rfl, box_below BZ.out.bl (Nat.le_succ _)⟩⟩
        simp [results, Tryz.results43, go_sem, f0, f1, f2, f3]
      | some ws =>
        rw [hsp] at HSp
        have HE2 : Hid (thingS L ((bs s).drop a) = if L.args < ws.length ∨ ws.any (fun t => decide (L.bulk < t.length)) = true then .fault wWords else .done n ws) := by
          show _ = _
          rw [e1, e2]
          unfold typedS
          rw [hsp]
          dsimp only
          by_cases hq : L.args < ws.length ∨ ws.any (fun t => decide (L.bulk < t.length)) = true
          · rw [if_pos hq, if_pos hq]
          · rw [if_neg hq, if_neg hq]
        clear hdr hc hl e1 e2 hnl hdl hP hdp hsp hnot h42
        go_enter Tryz.func43, Tryz.ntmps43
        go_wp2_with fail
        rw [← HW0.out]
        refine HLn.out.mono ?_
        rintro e w1 ⟨rfl, hw1⟩
        subst hw1
        go_wp2_with fail
        refine HSp.out.mono ?_
        rintro e w2 ⟨v, rfl, hws, how, b2⟩
        obtain ⟨a1, cp1, hv⟩ := ws_shape hws
        subst hv
        have A2 : Hid (Ar L w w2 ws (.slice a1 ws.length cp1)) := ⟨hws, fun g e => by have := how g e; have := HB0.out.sz; omega, HB0.out.below b2⟩
        have l1 : w2.cell? ⟨w.heap.size, 1, none⟩ = some (.int .i64 L.args) := Lib.cell_of_heap A2.out.bx.l 1
        clear hws how b2
        by_cases hga : L.args < ws.length
        · have g1 : (L.args : Int) < (ws.length : Int) := by omega
          have HQ : Hid (thingS L ((bs s).drop a) = .fault wWords) := HE2.out.trans (if_pos (Or.inl hga))
          go_wp2_with fail
          refine (HWr.out _ _).mono ?_
          rintro e wz ⟨rfl, bz⟩
          have BZ := hid_of (A2.out.bx.below bz)
          clear bz
          have k0 : wz.cell? ⟨w.heap.size + 1, 0, none⟩ = some (.slice none 0 0) := Lib.cell_of_heap BZ.out.b 0
          have k1 : wz.cell? ⟨w.heap.size + 1, 1, none⟩ = some (.int .i64 0) := Lib.cell_of_heap BZ.out.b 1
          have k2 : wz.cell? ⟨w.heap.size + 1, 2, none⟩ = some (.int .i64 0) := Lib.cell_of_heap BZ.out.b 2
          have k3 : wz.cell? ⟨w.heap.size + 1, 3, none⟩ = some (.string ⟨#[]⟩) := Lib.cell_of_heap BZ.out.b 3
          have z0 := Lib.frozen_of_heap BZ.out.b 0
          have z1 := Lib.frozen_of_heap BZ.out.b 1
          have z2 := Lib.frozen_of_heap BZ.out.b 2
          have z3 := Lib.frozen_of_heap BZ.out.b 3
          go_wp2_with fail
          have hbx := box_set (v0 := .slice none 0 0) (v1 := .int .i64 0) (v2 := .int .i64 2) (v3 := .string ⟨#[119, 111, 114, 100, 115]⟩) BZ.out.b
          have f0 := Lib.cell_of_heap hbx 0
          have f1 := Lib.cell_of_heap hbx 1
          have f2 := Lib.cell_of_heap hbx 2
          have f3 := Lib.cell_of_heap hbx 3
          refine ⟨rfl, thg (.slice none 0 0) (0) (2) (⟨#[119, 111, 114, 100, 115]⟩), ?_, by rw [HQ.out]; exact ⟨rfl, box_below BZ.out.bl (Nat.le_succ _)⟩⟩
          simp [results, Tryz.results43, go_sem, f0, f1, f2, f3]
        · have g1 : ¬ (L.args : Int) < (ws.length : Int) := by omega
          have hwl : ws.length ≤ 65536 := by have := hL.args; omega
          go_wp2_with fail
          clear l1
          go_loopg [18] ws.length (fun g s18 wx => ∃ j : Nat, j ≤ ws.length ∧ ws.length ≤ j + g ∧ s18 = .int .i64 j ∧ Hid (Ar L w wx ws (.slice a1 ws.length cp1)) ∧ Hid (∀ i t, i < j → ws[i]? = some t → t.length ≤ L.bulk))
          case atStart => exact ⟨0, by omega, by omega, rfl, A2, fun i t hi => by omega⟩
          case round =>
            obtain ⟨j, hj, hg, rfl, A, I⟩ := hrel
            by_cases hlt : j < ws.length
            · obtain ⟨g', rfl⟩ : ∃ g', gk = g' + 1 := ⟨gk - 1, by omega⟩
              have gi : ((j : Int)) < (ws.length : Int) := by omega
              have gi0 : (0 : Int) ≤ (j : Int) := by omega
              obtain ⟨t, ht⟩ : ∃ t, ws[j]? = some t := ⟨_, List.getElem?_eq_getElem hlt⟩
              have hcl : ∃ g, a1 = some ⟨g, 0, none⟩ ∧ wr.cell? ⟨g, j, none⟩ = some (.string (mk t)) := by
                have hr := A.out.ws
                rcases hr.2 with ⟨e, h0⟩ | ⟨g, cap, cur, e, _⟩
                · omega
                · cases e
                  refine ⟨g, rfl, ?_⟩
                  have := hr.cells (g := g) rfl j (.string (mk t)) (by unfold strC; rw [List.getElem?_map, ht]; rfl)
                  rw [add_off, Nat.zero_add] at this
                  exact this
              obtain ⟨g, rfl, hcell⟩ := hcl
              have m0 : wr.cell? ⟨w.heap.size, 0, none⟩ = some (.int .i64 L.bulk) := Lib.cell_of_heap A.out.bx.l 0
              obtain ⟨T, hT⟩ : ∃ T, T = mk t := ⟨_, rfl⟩
              rw [← hT] at hcell
              have hTs : T.size = t.length := by rw [hT, mk_size]
              have HT := hid_of ht
              clear ht hT
              by_cases hbk : L.bulk < t.length
              · have q1 : decide ((L.bulk : Int) < (T.size : Int)) = true := decide_eq_true (by omega)
                have q2 : decide (L.bulk < T.size) = true := decide_eq_true (by omega)
                have HQ : Hid (thingS L ((bs s).drop a) = .fault wWords) := HE2.out.trans (if_pos (Or.inr (List.any_eq_true.2 ⟨t, List.mem_of_getElem? HT.out, decide_eq_true hbk⟩)))
                clear hTs hbk
                go_wp2_with fail
                go_quiet (fail)
                obtain ⟨V, hV⟩ : ∃ V, V = wr.drewN nq := ⟨_, rfl⟩
                have BV : Hid (Bx L w V) := by rw [hV]; exact A.out.bx.below ⟨rfl, rfl, rfl, Nat.le_refl _, fun _ _ => rfl⟩
                rw [← hV]
                clear hV
                go_wp2_with fail
                refine (HWr.out _ _).mono ?_
                rintro e wz ⟨rfl, bz⟩
                have BZ := hid_of (BV.out.below bz)
                clear bz
                have k0 : wz.cell? ⟨w.heap.size + 1, 0, none⟩ = some (.slice none 0 0) := Lib.cell_of_heap BZ.out.b 0
                have k1 : wz.cell? ⟨w.heap.size + 1, 1, none⟩ = some (.int .i64 0) := Lib.cell_of_heap BZ.out.b 1
                have k2 : wz.cell? ⟨w.heap.size + 1, 2, none⟩ = some (.int .i64 0) := Lib.cell_of_heap BZ.out.b 2
                have k3 : wz.cell? ⟨w.heap.size + 1, 3, none⟩ = some (.string ⟨#[]⟩) := Lib.cell_of_heap BZ.out.b 3
                have z0 := Lib.frozen_of_heap BZ.out.b 0
                have z1 := Lib.frozen_of_heap BZ.out.b 1
                have z2 := Lib.frozen_of_heap BZ.out.b 2
                have z3 := Lib.frozen_of_heap BZ.out.b 3
                go_wp2_with fail
                have hbx := box_set (v0 := .slice none 0 0) (v1 := .int .i64 0) (v2 := .int .i64 2) (v3 := .string ⟨#[119, 111, 114, 100, 115]⟩) BZ.out.b
                have f0 := Lib.cell_of_heap hbx 0
                have f1 := Lib.cell_of_heap hbx 1
                have f2 := Lib.cell_of_heap hbx 2
                have f3 := Lib.cell_of_heap hbx 3
                refine ⟨rfl, thg (.slice none 0 0) (0) (2) (⟨#[119, 111, 114, 100, 115]⟩), ?_, by rw [HQ.out]; exact ⟨rfl, box_below BZ.out.bl (Nat.le_succ _)⟩⟩
                simp [results, Tryz.results43, go_sem, f0, f1, f2, f3]
              · have q1 : decide ((L.bulk : Int) < (T.size : Int)) = false := decide_eq_false (by omega)
                have q2 : decide (L.bulk < T.size) = false := decide_eq_false (by omega)
                have I2 : Hid (∀ i t, i < j + 1 → ws[i]? = some t → t.length ≤ L.bulk) := fun i t2 hi h2 => by
                  by_cases e : i = j
                  · rw [e, HT.out] at h2; injection h2 with h2; rw [← h2]; omega
                  · exact I.out i t2 (by omega) h2
                clear hTs hbk
                go_wp2_with fail
                go_quiet (fail)
                go_wp2_with fail
                go_roundg g'
                case measure => omega
                case rel => exact ⟨j + 1, by omega, by omega, by simp, A.out.below ⟨rfl, rfl, rfl, Nat.le_refl _, fun _ _ => rfl⟩, I2⟩
            · obtain rfl : j = ws.length := by omega
              have gi : ¬ ((ws.length : Int)) < (ws.length : Int) := by omega
              have HQ2 : Hid (thingS L ((bs s).drop a) = .done n ws) := HE2.out.trans (if_neg (by
                rintro (h | h)
                · exact hga h
                · obtain ⟨t, ht, hb⟩ := List.any_eq_true.1 h
                  obtain ⟨i, hi⟩ := List.getElem?_of_mem ht
                  have := I.out i t (List.getElem?_eq_some_iff.1 hi).1 hi
                  have := of_decide_eq_true hb
                  omega))
              have k0 : wr.cell? ⟨w.heap.size + 1, 0, none⟩ = some (.slice none 0 0) := Lib.cell_of_heap A.out.bx.b 0
              have k1 : wr.cell? ⟨w.heap.size + 1, 1, none⟩ = some (.int .i64 0) := Lib.cell_of_heap A.out.bx.b 1
              have k2 : wr.cell? ⟨w.heap.size + 1, 2, none⟩ = some (.int .i64 0) := Lib.cell_of_heap A.out.bx.b 2
              have k3 : wr.cell? ⟨w.heap.size + 1, 3, none⟩ = some (.string ⟨#[]⟩) := Lib.cell_of_heap A.out.bx.b 3
              have z0 := Lib.frozen_of_heap A.out.bx.b 0
              have z1 := Lib.frozen_of_heap A.out.bx.b 1
              have z2 := Lib.frozen_of_heap A.out.bx.b 2
              have z3 := Lib.frozen_of_heap A.out.bx.b 3
              go_wp2_with fail
              have hbx := box_set (v0 := .slice a1 ws.length cp1) (v1 := .int .i64 (P : Int)) (v2 := .int .i64 1) (v3 := .string ⟨#[]⟩) A.out.bx.b
              have f0 := Lib.cell_of_heap hbx 0
              have f1 := Lib.cell_of_heap hbx 1
              have f2 := Lib.cell_of_heap hbx 2
              have f3 := Lib.cell_of_heap hbx 3
              refine ⟨rfl, thg (.slice a1 ws.length cp1) ((P : Int)) (1) (⟨#[]⟩), ?_, by rw [HQ2.out]; exact ⟨_, by rw [← HP.out], ws_box A.out.ws A.out.bx.b, fun g e => by have := A.out.ow g e; omega, box_below A.out.bx.bl (Nat.le_succ _)⟩⟩
              simp [results, Tryz.results43, go_sem, f0, f1, f2, f3]
end Go.Proofs.YtfkilbhhpipjbaaGreatDoor.RefThing
