/- The names of listcmd's commands: sorted out of the map; a request of none of them; no space. The law on listcmd's names. From what lists of texts read as to their cells, and how much they hold. From what the rows list of the library's two errors to what the contracts ask. -/
import Derived.Test.YtpibeabokedpdaaGreatDoorRowOfM
import Derived.Test.YtpibeabokedpdaaGreatDoorIterM
import Derived.Test.YtpibeabokedpdaaGreatDoorShelfM
import Derived.Test.YtpibeabokedpdaaGreatDoorTRChkM
import Derived.Shelf.SlIter.Sorted
import Derived.Shelf.SlIter.Keys
import Derived.RangeFuncBound
import Derived.Sort.KeysCollected
import Derived.Test.YtpibeabokedpdaaGreatDoorQAddM
import Derived.Test.YtpibeabokedpdaaGreatDoorLEndsM
import Derived.Test.YtpibeabokedpdaaGreatDoorDecM
import Derived.Test.YtpibeabokedpdaaGreatDoorBaseM
import Derived.Test.YtpibeabokedpdaaGreatDoorRows
import Derived.Test.YtpibeabokedpdaaGreatDoorTextMathM
import Derived.SliceStrings
import Derived.Deep.Slices
section
namespace Go.Proofs.YtpibeabokedpdaaGreatDoor.NmL
open Go.RowKit Go.Maps Go.Sort Go.Shelf
open Go.Proofs.YtpibeabokedpdaaGreatDoor.SpaceMath
open Go.Proofs.YtpibeabokedpdaaGreatDoor.Base (mk mk_list mk_size hid_of SL NR El)
open Go.Proofs.YtpibeabokedpdaaGreatDoor.Turn
open Go.Proofs.YtpibeabokedpdaaGreatDoor.Vals
open Go.Proofs.YtpibeabokedpdaaGreatDoor.SBase
open Go.Proofs.YtpibeabokedpdaaGreatDoor.SFind (alb)
open Go.Proofs.YtpibeabokedpdaaGreatDoor.Swap (law9 key9)
open Go.Proofs.YtpibeabokedpdaaGreatDoor.LCmd
open Go.Proofs.YtpibeabokedpdaaGreatDoor.LMap (fnV cmdL)
open Go.Proofs.YtpibeabokedpdaaGreatDoor.LRun (look_cmd own_low cmds_call)
open Go.Proofs.YtpibeabokedpdaaGreatDoor.Low (low)
open Go.Proofs.YtpibeabokedpdaaGreatDoor.RowOf (checkS)
open Go.Proofs.YtpibeabokedpdaaGreatDoor.NmMine (mineB)
set_option linter.unusedVariables false
set_option linter.unusedSimpArgs false
def nms : List El := [[108, 105, 110, 100, 101, 120], [108, 105, 110, 115, 101, 114, 116], [108, 108, 101, 110], [108, 109, 111, 118, 101], [108, 112, 111, 112], [108, 112, 111, 115], [108, 112, 117, 115, 104], [108, 112, 117, 115, 104, 120], [108, 114, 97, 110, 103, 101], [108, 114, 101, 109], [108, 115, 101, 116], [108, 116, 114, 105, 109], [114, 112, 111, 112], [114, 112, 111, 112, 108, 112, 117, 115, 104], [114, 112, 117, 115, 104], [114, 112, 117, 115, 104, 120]]
theorem nms_keys : strKeys (toD cmdL) = nms := by kernel_rfl
theorem nms_keys2 : keys cmdL = nms := by kernel_rfl
theorem nms_sort : nms.mergeSort leB = nms := List.mergeSort_of_pairwise (by decide +kernel)
theorem nms_len : nms.length = 16 := rfl
theorem sorts (m : Nat) : AnyZ.SortsIn Tryz.prog Tryz.sorted12_ren Fence.wide m :=
  ⟨fun blk off cap ss W hH hblk hsz => callsIn_wide.2 (Tryz.slices_Sort_string blk off cap ss W hH hblk hsz), fun p cap W => callsIn_wide.2 (Tryz.slices_Sort_string_none p cap W)⟩
set_option maxHeartbeats 1000000 in
theorem sorted_call (b : Nat) (w : World) (hown : w.ownsMap Tryz.prog 9 RH b cmdL.length (toD cmdL)) :
    CallsIn Fence.wide 5 Tryz.prog 12 #[.func (.func 28) #[] #[.pointer (some ⟨w.heap.size, 0, none⟩)]] (w.alloc (.cells #[.map (some b)] 51)) fun e w' => ∃ v, e = .returned v ∧ NR w.heap.size w' v nms ∧ Below w.heap.size w w' := by
  have hbl := hown.lt
  have hsz : Maps.size (toD cmdL) = 16 := by rw [size_D]; rfl
  have hseq : SeqGives Fence.wide 2 Tryz.prog 28 #[.pointer (some ⟨w.heap.size, 0, none⟩)] encStr (fun ss => ss.Perm (strKeys (toD cmdL))) (Maps.size (toD cmdL)) (w.alloc (.cells #[.map (some b)] 51)) :=
    AnyZ.keys_gives (ρ := Tryz.keys13_ren) { Tryz.keys13 with } Fence.wide _ trivial rfl (by omega) w.heap.size b cmdL.length (toD cmdL) _ (by simp) (by simp) (by
      obtain ⟨es, clock, hb, Ft, hs, hD⟩ := hown
      exact ⟨es, clock, (Below.heap_alloc _ _ b hbl).trans hb, Ft, hs, hD⟩)
  refine (AnyZ.sorted_in Tryz.sorted12 Fence.wide 5 trivial trivial trivial trivial rfl (by omega) (sorts _) (enters_of Tryz.func27 (by kernel_rfl) rfl) 28 #[.pointer (some ⟨w.heap.size, 0, none⟩)] trivial (enters_of Tryz.func28 (by kernel_rfl) rfl) _ _ (by rw [hsz]; unfold maxLen; omega) (by rw [hsz]; omega) _ hseq).mono ?_
  rintro e w' ⟨v, ss, rfl, hS, hrow, hnil, hb⟩
  rw [nms_keys] at hS
  have e1 : ss.mergeSort (fun x y => decide (x ≤ y)) = nms := (mergeSort_of_perm hS).trans nms_sort
  have e2 : ss.length = nms.length := hS.length_eq
  rw [e1, e2] at hrow
  exact ⟨v, rfl, (NR.of_owns hrow).mono (by simp), ((Below.refl _ w).alloc (Nat.le_refl _) _).trans (hb.mono (by simp))⟩
set_option maxHeartbeats 1000000 in
set_option maxRecDepth 100000 in
theorem names_call (w : World) : Calls Tryz.prog 4 #[] w fun e w' => ∃ v, e = .returned v ∧ NR w.heap.size w' v nms ∧ Below w.heap.size w w' := by
  refine (callsIn_wide (n := 6)).1 ?_
  have cC : ∀ W, CallsIn Fence.wide 5 Tryz.prog 14 #[] W fun e w' => ∃ m, e = .returned (.map (some m)) ∧ w'.ownsMap Tryz.prog 9 RH m cmdL.length (toD cmdL) ∧ Below W.heap.size W w' := fun W => callsIn_wide.2 (cmds_call W)
  have cK : ∀ mb W, CallsIn Fence.wide 5 Tryz.prog 13 #[.map mb] W fun e w' => e = .returned (.func (.func 28) #[] #[.pointer (some ⟨W.heap.size, 0, none⟩)]) ∧ w' = W.alloc (.cells #[.map mb] 51) := fun mb W => AnyZ.keys_in Tryz.keys13 Fence.wide 5 trivial rfl mb W
  have cS := sorted_call
  have hfC : Fence.wide.fn 14 := trivial
  have hfK : Fence.wide.fn 13 := trivial
  have hfS : Fence.wide.fn 12 := trivial
  refine callsIn_of_wp Tryz.func4 rfl trivial ?_ rfl
  simp only [Tryz.ntmps4, List.size_toArray, List.length_cons, List.length_nil, Nat.reduceAdd, Nat.reduceSub, Array.replicate_succ, Array.replicate_zero, List.push_toArray, List.append_toArray, List.nil_append, List.cons_append]
  gi_wp2_with (first
    | (gi_at_call 14; refine (cC _).mono ?_; rintro e w1 ⟨m, rfl, hm, b1⟩; have HS := cS m w1 hm)
    | (gi_at_call 13; refine (cK _ _).mono ?_; rintro e w2 ⟨rfl, rfl⟩)
    | (gi_at_call 12; refine HS.mono ?_; rintro e w3 ⟨v, rfl, hrow, hb⟩))
  go_ret
  exact ⟨v, rfl, hrow.mono b1.size, b1.trans (hb.mono b1.size)⟩
set_option maxRecDepth 100000 in
theorem rnames_call (w : World) : Calls Tryz.prog 5 #[] w fun e w' => ∃ q, e = .returned (.slice (some ⟨q, 0, none⟩) 16 16) ∧ w'.heap[q]? = some (.cells (nms.map Base.V).toArray 9 (0, 0)) ∧ w.heap.size ≤ q ∧ Below w.heap.size w w' := by
  go_enter Tryz.func5, Tryz.ntmps5
  go_wp2_with fail
  go_ret
  exact ⟨w.heap.size, rfl, heap_alloc_new w _, Nat.le_refl _, alb _ _⟩
theorem sl_names {W : World} {q : Nat} (h : W.heap[q]? = some (.cells (nms.map Base.V).toArray 9 (0, 0))) : SL (fun _ => True) W (.slice (some ⟨q, 0, none⟩) 16 16) nms := by
  refine ⟨_, _, rfl, Nat.le_refl _, .inr ⟨q, 0, rfl, trivial, fun j x hx => ?_⟩⟩
  rw [Nat.zero_add, Lib.cell_of_heap h]
  simp [hx]
/-- a row of so many names: where it lies -/
theorem row_at {B : Nat} {W : World} {v : Value} (h : NR B W v nms) : ∃ g c cur, v = .slice (some ⟨g, 0, none⟩) 16 c ∧ B ≤ g ∧ W.heap[g]? = some (.cells cur 9 (0, 0)) ∧ 16 ≤ cur.size := by
  rcases h with ⟨-, h0⟩ | ⟨g, c, cur, rfl, hB, hg, hc, hle, -⟩
  · cases h0
  · exact ⟨g, c, cur, rfl, hB, hg, by rw [hc]; exact hle⟩
set_option maxRecDepth 100000 in
theorem run_nil (now : Int) (v : Value) (w : World) : Calls Tryz.prog 8 #[.pointer none, .int .i64 now, v] w fun e w' => e = .returned (.tuple #[rp 0 ⟨#[]⟩ 0, .bool false]) ∧ Below w.heap.size w w' := by
  obtain ⟨W, hW⟩ : ∃ W, W = w.alloc (rO 0 ⟨#[]⟩ 0 (.slice none 0 0)) := ⟨_, rfl⟩
  have HB := hid_of (show Below w.heap.size w W by rw [hW]; exact alb _ _)
  have hx : W.heap[w.heap.size]? = some (rO 0 ⟨#[]⟩ 0 (.slice none 0 0)) := by rw [hW]; exact heap_alloc_new w _
  obtain ⟨⟨v0, v1, v2, v3⟩, fv⟩ := box4 hx
  have fv0 := fv 0; have fv1 := fv 1; have fv2 := fv 2; have fv3 := fv 3
  have HX := hid_of hx
  have HW := hid_of hW
  clear hW hx fv
  go_enter Tryz.func8, Tryz.ntmps8
  go_wp2_with fail
  rw [← HW.out]
  go_wp2_with fail
  exact bodyPost_ret (v := .tuple #[rp 0 ⟨#[]⟩ 0, .bool false]) (by simp [results, Tryz.results8, go_sem, Act.put, v0, v1, v2, v3]) rfl ⟨rfl, HB.out⟩
theorem lkp_no {nm : El} (h : nm ∉ nms) : lkp cmdL nm = none := lkp_none fun p hp e => h (by rw [← nms_keys2]; exact List.mem_map.2 ⟨p, hp, e⟩)
theorem keyN (k : El) (h : k.length < 9223372036854775808) : keyOf Tryz.prog 9 (.string (mk k)) = some (RowB.lS k) := WideMaps.keyOf_string_mk (P := Tryz.prog) (s := mk k) Tryz.underlying9 (by rw [Base.mk_size]; unfold maxLen; omega)
theorem look_none {W : World} {m : Nat} (own : W.ownsMap Tryz.prog 9 RH m cmdL.length (toD cmdL)) (nm : El) (hk : nm.length < 9223372036854775808) (hn : lkp cmdL nm = none) :
    (Instr.lookup 51 (.map (some m)) (.string (mk nm)) true).run Tryz.prog W = .ok (.tuple #[.nilFunc, .bool false]) W := by
  obtain ⟨v, ps, hrun, hv⟩ := own.look_ok law9 Tryz.underlying51 (LRun.zeroC W) (zd := .held .nilFunc) (zp := []) rfl (keyN nm hk)
  have hv' : RH v = some (.held ((lkp cmdL nm).getD .nilFunc), ps) := by rw [hv]; exact congrArg (fun d => some (d, ps)) (at_D cmdL nm _)
  have e := RH_inv hv'
  have eh : Maps.has (toD cmdL) (RowB.lS nm) = (lkp cmdL nm).isSome := has_D cmdL nm
  rw [eh, e, hn] at hrun
  exact hrun
section
variable {F X : Nat → Prop} {b : Nat} {w : World} {S : Sp}
set_option maxHeartbeats 8000000 in
set_option maxRecDepth 100000 in
theorem run_check (h : SP F X b w S) (now : Int) {G : Nat → Prop} {a : Option Addr} {n c : Nat} {l : List El} (hl : SL G w (.slice a n c) l) (hll : l.length < 9223372036854775808) (hbl : ∀ x ∈ l, x.length < 9223372036854775808) (hch : checkS l ≠ []) :
    Calls Tryz.prog 8 #[ptr b, .int .i64 now, .slice a n c] w fun e w' => e = .returned (.tuple #[rp 0 ⟨#[]⟩ 0, .bool false]) ∧ Below w.heap.size w w' := by
  obtain ⟨W, hW⟩ : ∃ W, W = w.alloc (rO 0 ⟨#[]⟩ 0 (.slice none 0 0)) := ⟨_, rfl⟩
  have bW : Below w.heap.size w W := by rw [hW]; exact alb _ _
  have HX := hid_of (show W.heap[w.heap.size]? = some (rO 0 ⟨#[]⟩ 0 (.slice none 0 0)) by rw [hW]; exact heap_alloc_new w _)
  have HCk := hid_of (Chk.check_call (hl.below bW) hll hbl)
  have hne2 : ((mk (checkS l)).toList != (⟨#[]⟩ : ByteArray).toList) = true := by
    rw [mk_list]
    simpa using hch
  have hne3 : (mk (checkS l)).toList.isEmpty = false := by
    rw [mk_list]
    simpa using hch
  have HB := hid_of bW
  have HW := hid_of hW
  clear hW bW h hch hll hbl hl
  generalize mk (checkS l) = C at *
  go_enter Tryz.func8, Tryz.ntmps8
  go_wp2_with fail
  rw [← HW.out]
  refine HCk.out.mono ?_
  rintro e w1 ⟨rfl, b1⟩
  have B1 := hid_of (FRow.bel HB.out b1 (Nat.le_refl _))
  have X1 := hid_of ((b1.block _ (lt_of HX.out)).trans HX.out)
  obtain ⟨⟨v0, v1, v2, v3⟩, fv⟩ := box4 X1.out
  have fv0 := fv 0; have fv1 := fv 1; have fv2 := fv 2; have fv3 := fv 3
  clear b1 HCk HX HB fv
  go_wp2_with fail
  have hz := fin4_at X1.out (.int .i64 0) (.string ⟨#[]⟩) (.int .i64 0) (.slice none 0 0)
  have hbz := fin4_b (y0 := .int .i64 0) (y1 := .string ⟨#[]⟩) (y2 := .int .i64 0) (y3 := .slice none 0 0) B1.out (Nat.le_refl _)
  unfold fin4 at hz hbz
  obtain ⟨⟨g0, g1, g2, g3⟩, -⟩ := box4 hz
  exact bodyPost_ret (v := .tuple #[rp 0 ⟨#[]⟩ 0, .bool false]) (by simp [results, Tryz.results8, go_sem, Act.put, g0, g1, g2, g3]) rfl ⟨rfl, hbz⟩
set_option maxHeartbeats 8000000 in
set_option maxRecDepth 100000 in
theorem run_none (h : SP F X b w S) (now : Int) {G : Nat → Prop} {a : Option Addr} {n c : Nat} {l : List El} (hl : SL G w (.slice a n c) l) (hl0 : 0 < l.length) (hll : l.length < 9223372036854775808) (hbl : ∀ x ∈ l, x.length < 9223372036854775808) (hch : checkS l = []) (hf : lkp cmdL (l[0].map low) = none) :
    Calls Tryz.prog 8 #[ptr b, .int .i64 now, .slice a n c] w fun e w' => e = .returned (.tuple #[rp 0 ⟨#[]⟩ 0, .bool false]) ∧ Below w.heap.size w w' := by
  obtain ⟨W, hW⟩ : ∃ W, W = w.alloc (rO 0 ⟨#[]⟩ 0 (.slice none 0 0)) := ⟨_, rfl⟩
  have bW : Below w.heap.size w W := by rw [hW]; exact alb _ _
  have HX := hid_of (show W.heap[w.heap.size]? = some (rO 0 ⟨#[]⟩ 0 (.slice none 0 0)) by rw [hW]; exact heap_alloc_new w _)
  have HCk := hid_of (Chk.check_call (hl.below bW) hll hbl)
  rw [hch, show mk ([] : List UInt8) = (⟨#[]⟩ : ByteArray) from rfl] at HCk
  have HC := hid_of fun V => cmds_call V
  have HL := hid_of fun V => Low.lower_call l[0] V (hbl _ (List.getElem_mem hl0))
  have HLk := hid_of fun (V : World) (m : Nat) (own : V.ownsMap Tryz.prog 9 RH m cmdL.length (toD cmdL)) => look_none own (l[0].map low) (by rw [List.length_map]; exact hbl _ (List.getElem_mem hl0)) hf
  obtain ⟨a0, c0, e0, hcc, hrd⟩ := hl
  injection e0 with e1 e2 e3
  subst e1 e2 e3
  obtain ⟨ga, oa, rfl, _, hcs⟩ := Base.Rd.get hrd hl0
  have hc0 : w.cell? ⟨ga, oa, none⟩ = some (.string (mk l[0])) := hcs 0 _ (List.getElem?_eq_getElem hl0)
  have hga : ga < w.heap.size := Base.cell_lt hc0
  have i0 : (0 : Int) < (l.length : Int) := by omega
  have HB := hid_of bW
  have HW := hid_of hW
  clear hW bW h hch hll hbl hf hcs hrd hcc
  generalize mk (l[0].map low) = NM at *
  generalize mk l[0] = N0 at *
  generalize l.length = LN at *
  go_enter Tryz.func8, Tryz.ntmps8
  go_wp2_with fail
  rw [← HW.out]
  refine HCk.out.mono ?_
  rintro e w1 ⟨rfl, b1⟩
  have B1 := hid_of (FRow.bel HB.out b1 (Nat.le_refl _))
  have X1 := hid_of ((b1.block _ (lt_of HX.out)).trans HX.out)
  have hc1 := (B1.out.cell (p := ⟨ga, oa, none⟩) hga).trans hc0
  clear b1 HCk HX HB
  go_wp2_with fail
  have hg1 : ga < w1.heap.size := Base.cell_lt hc1
  have t0 : LCmd.Tmp w w1 w.heap.size := ⟨Nat.le_refl _, lt_of X1.out⟩
  go_cut [8, 9] (fun s8 s9 wx => s9 = .bool false ∧ Hid (Below w1.heap.size w1 wx))
  case first =>
    go_region_with (first
      | (go_at_call 14; refine (HC.out _).mono ?_; rintro e w3 ⟨m, rfl, hm, b3⟩; have B3 : Below w1.heap.size w1 w3 := FRow.bel (Below.refl _ w1).drew b3 (Nat.le_refl _); have HM := hid_of hm; have HB3 := hid_of B3; have hc3 := (B3.cell (p := ⟨ga, oa, none⟩) (Base.cell_lt hc1)).trans hc1; have hg3 : ga < w3.heap.size := Base.cell_lt hc3; clear hm)
      | (go_at_call 20; refine (HL.out _).mono ?_; rintro e w4 ⟨rfl, b4⟩; have B4 := hid_of (FRow.bel HB3.out b4 (Nat.le_refl _)); have k4 := HLk.out w4 _ (own_low HM.out b4)))
    all_goals
      go_wp2_with fail
      go_meet
      case rel => exact ⟨rfl, B4⟩
  case rest =>
    obtain ⟨rfl, HQ⟩ := hcut
    have HBw := hid_of (FRow.bel B1.out HQ.out (Nat.le_refl _))
    have XR := hid_of ((HQ.out.block _ t0.2).trans X1.out)
    obtain ⟨⟨v0, v1, v2, v3⟩, fv⟩ := box4 XR.out
    have fv0 := fv 0; have fv1 := fv 1; have fv2 := fv 2; have fv3 := fv 3
    clear HC HL HLk HQ X1 hc1 hga hg1 fv
    go_wp2_with fail
    have hz := fin4_at XR.out (.int .i64 0) (.string ⟨#[]⟩) (.int .i64 0) (.slice none 0 0)
    have hbz := fin4_b (y0 := .int .i64 0) (y1 := .string ⟨#[]⟩) (y2 := .int .i64 0) (y3 := .slice none 0 0) HBw.out (Nat.le_refl _)
    unfold fin4 at hz hbz
    obtain ⟨⟨g0, g1, g2, g3⟩, -⟩ := box4 hz
    exact bodyPost_ret (v := .tuple #[rp 0 ⟨#[]⟩ 0, .bool false]) (by simp [results, Tryz.results8, go_sem, Act.put, g0, g1, g2, g3]) rfl ⟨rfl, hbz⟩
theorem run_no (h : SP F X b w S) (now : Int) {G : Nat → Prop} {a : Option Addr} {n c : Nat} {l : List El} (hl : SL G w (.slice a n c) l) (hll : l.length < 9223372036854775808) (hbl : ∀ x ∈ l, x.length < 9223372036854775808) (hm : mineB nms l = false) :
    Calls Tryz.prog 8 #[ptr b, .int .i64 now, .slice a n c] w fun e w' => e = .returned (.tuple #[rp 0 ⟨#[]⟩ 0, .bool false]) ∧ Below w.heap.size w w' := by
  by_cases hch : checkS l = []
  · have h0 : 0 < l.length := by
      rcases l with _ | ⟨x, r⟩
      · exact absurd hch NmMine.check_nil
      · simp
    refine run_none h now hl h0 hll hbl hch (lkp_no ?_)
    unfold mineB at hm
    rw [if_pos hch] at hm
    cases l with
    | nil => simp at h0
    | cons x r => simpa using hm
  · exact run_check h now hl hll hbl hch
end
end Go.Proofs.YtpibeabokedpdaaGreatDoor.NmL
end
section
namespace Go.Proofs.YtpibeabokedpdaaGreatDoor.LNames
open Go.RowKit Go.Maps
open Go.Proofs.YtpibeabokedpdaaGreatDoor.TextMath
open Go.Proofs.YtpibeabokedpdaaGreatDoor.SpaceMath
open Go.Proofs.YtpibeabokedpdaaGreatDoor.Base (mk mk_list mk_size hid_of SL NR El)
open Go.Proofs.YtpibeabokedpdaaGreatDoor.Turn
open Go.Proofs.YtpibeabokedpdaaGreatDoor.Vals
open Go.Proofs.YtpibeabokedpdaaGreatDoor.SBase
open Go.Proofs.YtpibeabokedpdaaGreatDoor.SFind (alb)
open Go.Proofs.YtpibeabokedpdaaGreatDoor.QBase
open Go.Proofs.YtpibeabokedpdaaGreatDoor.LCmd
open Go.Proofs.YtpibeabokedpdaaGreatDoor.NmMine (mineB)
open Go.Proofs.YtpibeabokedpdaaGreatDoor.NmL
open Go.Proofs.YtpibeabokedpdaaGreatDoor.QBegun (stO)
open Go.Proofs.YtpibeabokedpdaaGreatDoor.Parse (Has)
set_option linter.unusedVariables false
set_option linter.unusedSimpArgs false
theorem SL.low {G : Nat → Prop} {w W : World} {v : Value} {l : List El} (h : SL G w v l) (b : Below w.heap.size w W) : SL G W v l := h.below b
theorem cell_eq {w W : World} {b : Nat} (h : W.heap[b]? = w.heap[b]?) (i : Nat) : W.cell? ⟨b, i, none⟩ = w.cell? ⟨b, i, none⟩ := by
  unfold World.cell?
  rw [h]
set_option maxRecDepth 100000 in
theorem counter_at {b : Nat} {w : World} {x : Int} (c2 : w.cell? ⟨b, 2, none⟩ = some (.int .u64 x)) : Calls Tryz.prog 11 #[ptr b] w fun r w' => r = .returned (.int .u64 x) ∧ w' = w := by
  go_enter Tryz.func11, Tryz.ntmps11
  go_wp2_with fail
  go_ret
  exact ⟨rfl, rfl⟩
theorem spot_at {B : Nat} {W : World} {g c : Nat} (h : NR B W (.slice (some ⟨g, 0, none⟩) 16 c) nms) (k : Nat) (hk : k < 16) : B ≤ g ∧ (∃ v, W.cell? ⟨g, k, none⟩ = some v) ∧ W.frozen? ⟨g, k, none⟩ = false := by
  obtain ⟨g', c', cur, e, hB, hg, hc⟩ := row_at h
  injection e with e1
  injection e1 with e1
  injection e1 with e1
  subst e1
  refine ⟨hB, ⟨cur[k]'(by omega), ?_⟩, Lib.frozen_of_heap hg k⟩
  rw [Lib.cell_of_heap hg]
  exact Array.getElem?_eq_getElem _
set_option maxRecDepth 100000 in
set_option maxHeartbeats 16000000 in
theorem law_call (w : World) (hh : Has w) {G : Nat → Prop} {a : Option Addr} {n c : Nat} {l : List El} (hl : SL G w (.slice a n c) l) (hll : l.length < 9223372036854775808) (hbl : ∀ x ∈ l, x.length < 9223372036854775808) (t : Int) (ht : InI t) :
    Calls Tryz.prog 3 #[.slice a n c, .int .i64 t] w fun e w' => e = .returned (.bool true) ∧ Below w.heap.size w w' := by
  have HHas := hid_of hh
  have HL := hid_of hl
  have HT := hid_of ht
  have HNm := hid_of fun (V : World) => names_call V
  have HRn := hid_of fun (V : World) => rnames_call V
  have HAw := hid_of fun (V : World) (h : Has V) => LAwake.awake_call V h
  have HR0 := hid_of fun (V : World) => run_nil 0 (.slice a n c) V
  have HMi := hid_of fun (V : World) (hV : Below w.heap.size w V) (q : Nat) (hq : V.heap[q]? = some (.cells (nms.map Base.V).toArray 9 (0, 0))) => NmMine.mine_call (sl_names hq) (hl.below hV) (by decide) hll hbl
  have HSa := hid_of fun (V : World) (B : Nat) (v : Value) (q : Nat) (hv : NR B V v nms) (hq : V.heap[q]? = some (.cells (nms.map Base.V).toArray 9 (0, 0))) => Small.same_true hv.sl (sl_names hq) rfl (by decide)
  have HBe := hid_of fun (V : World) (g : Nat) (hg : V.heap[g]? = some (stO ⟨#[97]⟩ ⟨#[49]⟩ 0)) => QBegun.begun_call [97] (by decide) [49] (by decide) 0 (by decide) hg
  have HRno := hid_of fun (V : World) (F X : Nat → Prop) (b : Nat) (S : Sp) (hV : Below w.heap.size w V) (h : SP F X b V S) (hm : mineB nms l = false) => run_no h 0 (hl.below hV) hll hbl hm
  clear hh hl hll hbl ht
  go_enter Tryz.func3, Tryz.ntmps3
  go_wp2_with fail
  refine (HNm.out w).mono ?_
  rintro e w1 ⟨v1, rfl, r1, b1⟩
  have R1 := hid_of r1
  have B1 := hid_of b1
  obtain ⟨g1, c1, cur1, rfl, hg1, hq1, -⟩ := row_at r1
  have HG1 := hid_of (lt_of hq1)
  clear hq1
  clear r1 b1
  go_wp2_with fail
  refine (HNm.out w1).mono ?_
  rintro e w2 ⟨v2, rfl, r2, b2⟩
  have R2 := hid_of r2
  have R1b := hid_of (R1.out.below b2)
  have B12 := hid_of b2.size
  have B2 := hid_of (B1.out.trans (b2.mono B1.out.size))
  obtain ⟨g2, c2, cur2, rfl, hg2, -, -⟩ := row_at r2
  clear r2 b2 R1
  go_wp2_with fail
  refine (HRn.out w2).mono ?_
  rintro e w3 ⟨q, rfl, hq, hqs, b3⟩
  have HQ := hid_of hq
  have R1 := hid_of (R1b.out.below b3)
  have R2b := hid_of (R2.out.below b3)
  have B3 := hid_of (B2.out.trans (b3.mono B2.out.size))
  clear b3 hq R2 R1b
  go_wp2_with fail
  refine (HSa.out w3 _ _ q R1.out HQ.out).mono ?_
  rintro e w4 ⟨rfl, m4, hm4⟩
  have b4 : Below w3.heap.size w3 w4 := by rw [hm4]; exact ⟨rfl, rfl, rfl, Nat.le_refl _, fun _ _ => rfl⟩
  have B4 := hid_of (B3.out.trans (b4.mono B3.out.size))
  have R1d := hid_of (R1.out.below b4)
  have R2d := hid_of (R2b.out.below b4)
  have HQd := hid_of ((b4.block _ (lt_of HQ.out)).trans HQ.out)
  clear R1 R2b HQ hm4 b4
  go_wp2_with fail
  refine (HAw.out w4 (HHas.out.later B4.out)).mono ?_
  rintro e w5 ⟨rfl, b5⟩
  have B5 := hid_of (B4.out.trans (b5.mono B4.out.size))
  have R1e := hid_of (R1d.out.below b5)
  have R2e := hid_of (R2d.out.below b5)
  have HQe := hid_of ((b5.block _ (lt_of HQd.out)).trans HQd.out)
  clear R1d R2d HQd b5
  have hgle : w.heap.size ≤ g1 := hg1
  by_cases h0 : t < 0
  · obtain ⟨k, hk, hkv⟩ : ∃ k : Nat, k < 16 ∧ k = 0 := ⟨0, by decide, rfl⟩
    obtain ⟨-, ⟨y, hy⟩, hf⟩ := spot_at R1e.out k hk
    have hy0 := hy
    have hf0 := hf
    rw [hkv] at hy0 hf0
    go_wp2_with fail
    obtain ⟨W5, hW5⟩ : ∃ W, W = w5.setCell ⟨g1, 0, none⟩ (.string ⟨#[115, 112, 111, 105, 108, 116]⟩) := ⟨_, rfl⟩
    have HW5 := hid_of hW5
    have B6 := hid_of (show Below w.heap.size w W5 by rw [hW5]; exact bset B5.out hgle _)
    have lt1 : g1 < w1.heap.size := HG1.out
    have R2f := hid_of (R2e.out.keep (w' := W5) fun k _ hB => by rw [hW5]; exact set_ne (by omega) _)
    have HQf := hid_of (show W5.heap[q]? = some (.cells (nms.map Base.V).toArray 9 (0, 0)) by rw [hW5, set_ne (by have := B12.out; omega)]; exact HQe.out)
    clear hW5 R2e HQe hy0 hf0
    rw [← HW5.out]
    refine (HR0.out W5).mono ?_
    rintro e w6 ⟨rfl, b6⟩
    have R2g := hid_of (R2f.out.below b6)
    have HQg := hid_of ((b6.block _ (lt_of HQf.out)).trans HQf.out)
    have B7 := hid_of (B6.out.trans (b6.mono B6.out.size))
    clear b6 R2f HQf HW5
    obtain ⟨W7, hW7⟩ : ∃ W, W = w6.alloc (rO 0 ⟨#[]⟩ 0 (.slice none 0 0)) := ⟨_, rfl⟩
    have HW7 := hid_of hW7
    have b7 : Below w6.heap.size w6 W7 := by rw [hW7]; exact alb _ _
    have X7 := hid_of (show W7.heap[w6.heap.size]? = some (rO 0 ⟨#[]⟩ 0 (.slice none 0 0)) by rw [hW7]; exact heap_alloc_new w6 _)
    have R2h := hid_of (R2g.out.below b7)
    have HQh := hid_of ((b7.block _ (lt_of HQg.out)).trans HQg.out)
    have B8 := hid_of (B7.out.trans (b7.mono B7.out.size))
    obtain ⟨⟨p0, p1, p2, p3⟩, -⟩ := box4 X7.out
    clear b7 hW7 R2g HQg p1 p2 p3
    go_wp2_with fail
    rw [← HW7.out]
    refine (HSa.out W7 _ _ q R2h.out HQh.out).mono ?_
    rintro e w8 ⟨rfl, m8, hm8⟩
    have b8 : Below W7.heap.size W7 w8 := by rw [hm8]; exact ⟨rfl, rfl, rfl, Nat.le_refl _, fun _ _ => rfl⟩
    have B9 := hid_of (B8.out.trans (b8.mono B8.out.size))
    have HQi := hid_of ((b8.block _ (lt_of HQh.out)).trans HQh.out)
    have X8 := hid_of ((b8.block _ (lt_of X7.out)).trans X7.out)
    clear b8 hm8 R2h HQh X7 HW7 p0
    go_wp2_with fail
    refine (HNm.out w8).mono ?_
    rintro e w9 ⟨v9, rfl, r9, b9⟩
    have R9 := hid_of r9
    obtain ⟨g9, c9, cur9, rfl, -, -, -⟩ := row_at r9
    have B10 := hid_of (B9.out.trans (b9.mono B9.out.size))
    have HQj := hid_of ((b9.block _ (lt_of HQi.out)).trans HQi.out)
    have X9 := hid_of ((b9.block _ (lt_of X8.out)).trans X8.out)
    clear b9 r9 HQi X8
    go_wp2_with fail
    refine (HSa.out w9 _ _ q R9.out HQj.out).mono ?_
    rintro e w10 ⟨rfl, m10, hm10⟩
    have b10 : Below w9.heap.size w9 w10 := by rw [hm10]; exact ⟨rfl, rfl, rfl, Nat.le_refl _, fun _ _ => rfl⟩
    have B11 := hid_of (B10.out.trans (b10.mono B10.out.size))
    have HQk := hid_of ((b10.block _ (lt_of HQj.out)).trans HQj.out)
    have X10 := hid_of ((b10.block _ (lt_of X9.out)).trans X9.out)
    clear b10 hm10 R9 HQj X9
    go_wp2_with fail
    refine (HMi.out w10 B11.out q HQk.out).mono ?_
    rintro e w11 ⟨⟨sm, rfl⟩, b11⟩
    have B13 := hid_of (B11.out.trans (b11.mono B11.out.size))
    have X11 := hid_of ((b11.block _ (lt_of X10.out)).trans X10.out)
    clear b11 HQk X10
    by_cases hm : mineB nms l = true
    · rw [hm]
      go_wp2_with fail
      exact bodyPost_ret (v := .bool true) (by simp [results, Tryz.results3, go_sem]) rfl ⟨rfl, B13.out⟩
    · have hm2 : mineB nms l = false := by simpa using hm
      rw [hm2]
      go_wp2_with fail
      obtain ⟨V1, hV1⟩ : ∃ V, V = w11.alloc (stO ⟨#[97]⟩ ⟨#[49]⟩ 0) := ⟨_, rfl⟩
      have bV1 : Below w11.heap.size w11 V1 := by rw [hV1]; exact alb _ _
      have HQ1 := hid_of (HBe.out V1 w11.heap.size (by rw [hV1]; exact heap_alloc_new w11 _))
      have B14 := hid_of (B13.out.trans (bV1.mono B13.out.size))
      have X12 := hid_of ((bV1.block _ (lt_of X11.out)).trans X11.out)
      have HW1 := hid_of hV1
      clear hV1 bV1 HBe X11
      rw [← HW1.out]
      refine HQ1.out.mono ?_
      rintro e w12 ⟨bx, F, X, rfl, hsp, b12, hF⟩
      have HSP := hid_of hsp
      have B15 := hid_of (B14.out.trans (b12.mono B14.out.size))
      have X13 := hid_of ((b12.block _ (lt_of X12.out)).trans X12.out)
      have HXlt := hid_of (lt_of X12.out)
      have HF := hid_of hF
      clear hsp b12 hF HQ1 HW1 X12
      have HR := hid_of (HRno.out w12 F X V1.heap.size _ B15.out HSP.out hm2)
      clear HRno
      go_wp2_with fail
      refine HR.out.mono ?_
      rintro e w13 ⟨rfl, b13⟩
      have hcn := (SPut.sp_cells (HSP.out.below b13)).2.1
      have B16 := hid_of (B15.out.trans (b13.mono B15.out.size))
      have X14 := hid_of ((b13.block _ (lt_of X13.out)).trans X13.out)
      obtain ⟨⟨p0, p1, p2, p3⟩, fp⟩ := box4 X14.out
      have fp0 := fp 0; have fp1 := fp 1; have fp2 := fp 2; have fp3 := fp 3
      have hcn2 : (fin4 w13 w6.heap.size (.int .i64 0) (.string ⟨#[]⟩) (.int .i64 0) (.slice none 0 0)).cell? ⟨V1.heap.size, 2, none⟩ = some (.int .u64 1) := by
        refine Eq.trans ?_ hcn
        have := HXlt.out
        exact cell_eq (fin4_ne (by omega)) 2
      have hz := fin4_at X14.out (.int .i64 0) (.string ⟨#[]⟩) (.int .i64 0) (.slice none 0 0)
      have hbz := fin4_b (y0 := .int .i64 0) (y1 := .string ⟨#[]⟩) (y2 := .int .i64 0) (y3 := .slice none 0 0) B16.out (show w.heap.size ≤ w6.heap.size from B7.out.size)
      have HCt := hid_of (counter_at hcn2)
      obtain ⟨⟨g0, g10, g20, g30⟩, -⟩ := box4 hz
      have HBZ := hid_of hbz
      unfold fin4 at g0 g10 g20 g30
      clear b13 HR HSP X13 fp hcn hcn2 hz hbz
      go_wp2_with fail
      refine HCt.out.mono ?_
      rintro e w14 ⟨rfl, hw14⟩
      have hw14 := hw14.symm
      subst hw14
      go_wp2_with fail
      exact bodyPost_ret (v := .bool true) (by simp [results, Tryz.results3, go_sem]) rfl ⟨rfl, HBZ.out⟩
  · have hk : (t % 16).toNat < 16 := by omega
    obtain ⟨-, ⟨y, hy0⟩, hf0⟩ := spot_at R1e.out _ hk
    have hk1 : 0 ≤ t % 16 := by omega
    have hk2 : t % 16 < 16 := by omega
    go_wp2_with fail
    obtain ⟨W5, hW5⟩ : ∃ W, W = w5.setCell ⟨g1, (t % 16).toNat, none⟩ (.string ⟨#[115, 112, 111, 105, 108, 116]⟩) := ⟨_, rfl⟩
    have HW5 := hid_of hW5
    have B6 := hid_of (show Below w.heap.size w W5 by rw [hW5]; exact bset B5.out hgle _)
    have lt1 : g1 < w1.heap.size := HG1.out
    have R2f := hid_of (R2e.out.keep (w' := W5) fun k _ hB => by rw [hW5]; exact set_ne (by omega) _)
    have HQf := hid_of (show W5.heap[q]? = some (.cells (nms.map Base.V).toArray 9 (0, 0)) by rw [hW5, set_ne (by have := B12.out; omega)]; exact HQe.out)
    clear hW5 R2e HQe hy0 hf0
    rw [← HW5.out]
    refine (HR0.out W5).mono ?_
    rintro e w6 ⟨rfl, b6⟩
    have R2g := hid_of (R2f.out.below b6)
    have HQg := hid_of ((b6.block _ (lt_of HQf.out)).trans HQf.out)
    have B7 := hid_of (B6.out.trans (b6.mono B6.out.size))
    clear b6 R2f HQf HW5
    obtain ⟨W7, hW7⟩ : ∃ W, W = w6.alloc (rO 0 ⟨#[]⟩ 0 (.slice none 0 0)) := ⟨_, rfl⟩
    have HW7 := hid_of hW7
    have b7 : Below w6.heap.size w6 W7 := by rw [hW7]; exact alb _ _
    have X7 := hid_of (show W7.heap[w6.heap.size]? = some (rO 0 ⟨#[]⟩ 0 (.slice none 0 0)) by rw [hW7]; exact heap_alloc_new w6 _)
    have R2h := hid_of (R2g.out.below b7)
    have HQh := hid_of ((b7.block _ (lt_of HQg.out)).trans HQg.out)
    have B8 := hid_of (B7.out.trans (b7.mono B7.out.size))
    obtain ⟨⟨p0, p1, p2, p3⟩, -⟩ := box4 X7.out
    clear b7 hW7 R2g HQg p1 p2 p3
    go_wp2_with fail
    rw [← HW7.out]
    refine (HSa.out W7 _ _ q R2h.out HQh.out).mono ?_
    rintro e w8 ⟨rfl, m8, hm8⟩
    have b8 : Below W7.heap.size W7 w8 := by rw [hm8]; exact ⟨rfl, rfl, rfl, Nat.le_refl _, fun _ _ => rfl⟩
    have B9 := hid_of (B8.out.trans (b8.mono B8.out.size))
    have HQi := hid_of ((b8.block _ (lt_of HQh.out)).trans HQh.out)
    have X8 := hid_of ((b8.block _ (lt_of X7.out)).trans X7.out)
    clear b8 hm8 R2h HQh X7 HW7 p0
    go_wp2_with fail
    refine (HNm.out w8).mono ?_
    rintro e w9 ⟨v9, rfl, r9, b9⟩
    have R9 := hid_of r9
    obtain ⟨g9, c9, cur9, rfl, -, -, -⟩ := row_at r9
    have B10 := hid_of (B9.out.trans (b9.mono B9.out.size))
    have HQj := hid_of ((b9.block _ (lt_of HQi.out)).trans HQi.out)
    have X9 := hid_of ((b9.block _ (lt_of X8.out)).trans X8.out)
    clear b9 r9 HQi X8
    go_wp2_with fail
    refine (HSa.out w9 _ _ q R9.out HQj.out).mono ?_
    rintro e w10 ⟨rfl, m10, hm10⟩
    have b10 : Below w9.heap.size w9 w10 := by rw [hm10]; exact ⟨rfl, rfl, rfl, Nat.le_refl _, fun _ _ => rfl⟩
    have B11 := hid_of (B10.out.trans (b10.mono B10.out.size))
    have HQk := hid_of ((b10.block _ (lt_of HQj.out)).trans HQj.out)
    have X10 := hid_of ((b10.block _ (lt_of X9.out)).trans X9.out)
    clear b10 hm10 R9 HQj X9
    go_wp2_with fail
    refine (HMi.out w10 B11.out q HQk.out).mono ?_
    rintro e w11 ⟨⟨sm, rfl⟩, b11⟩
    have B13 := hid_of (B11.out.trans (b11.mono B11.out.size))
    have X11 := hid_of ((b11.block _ (lt_of X10.out)).trans X10.out)
    clear b11 HQk X10
    by_cases hm : mineB nms l = true
    · rw [hm]
      go_wp2_with fail
      exact bodyPost_ret (v := .bool true) (by simp [results, Tryz.results3, go_sem]) rfl ⟨rfl, B13.out⟩
    · have hm2 : mineB nms l = false := by simpa using hm
      rw [hm2]
      go_wp2_with fail
      obtain ⟨V1, hV1⟩ : ∃ V, V = w11.alloc (stO ⟨#[97]⟩ ⟨#[49]⟩ 0) := ⟨_, rfl⟩
      have bV1 : Below w11.heap.size w11 V1 := by rw [hV1]; exact alb _ _
      have HQ1 := hid_of (HBe.out V1 w11.heap.size (by rw [hV1]; exact heap_alloc_new w11 _))
      have B14 := hid_of (B13.out.trans (bV1.mono B13.out.size))
      have X12 := hid_of ((bV1.block _ (lt_of X11.out)).trans X11.out)
      have HW1 := hid_of hV1
      clear hV1 bV1 HBe X11
      rw [← HW1.out]
      refine HQ1.out.mono ?_
      rintro e w12 ⟨bx, F, X, rfl, hsp, b12, hF⟩
      have HSP := hid_of hsp
      have B15 := hid_of (B14.out.trans (b12.mono B14.out.size))
      have X13 := hid_of ((b12.block _ (lt_of X12.out)).trans X12.out)
      have HXlt := hid_of (lt_of X12.out)
      have HF := hid_of hF
      clear hsp b12 hF HQ1 HW1 X12
      have HR := hid_of (HRno.out w12 F X V1.heap.size _ B15.out HSP.out hm2)
      clear HRno
      go_wp2_with fail
      refine HR.out.mono ?_
      rintro e w13 ⟨rfl, b13⟩
      have hcn := (SPut.sp_cells (HSP.out.below b13)).2.1
      have B16 := hid_of (B15.out.trans (b13.mono B15.out.size))
      have X14 := hid_of ((b13.block _ (lt_of X13.out)).trans X13.out)
      obtain ⟨⟨p0, p1, p2, p3⟩, fp⟩ := box4 X14.out
      have fp0 := fp 0; have fp1 := fp 1; have fp2 := fp 2; have fp3 := fp 3
      have hcn2 : (fin4 w13 w6.heap.size (.int .i64 0) (.string ⟨#[]⟩) (.int .i64 0) (.slice none 0 0)).cell? ⟨V1.heap.size, 2, none⟩ = some (.int .u64 1) := by
        refine Eq.trans ?_ hcn
        have := HXlt.out
        exact cell_eq (fin4_ne (by omega)) 2
      have hz := fin4_at X14.out (.int .i64 0) (.string ⟨#[]⟩) (.int .i64 0) (.slice none 0 0)
      have hbz := fin4_b (y0 := .int .i64 0) (y1 := .string ⟨#[]⟩) (y2 := .int .i64 0) (y3 := .slice none 0 0) B16.out (show w.heap.size ≤ w6.heap.size from B7.out.size)
      have HCt := hid_of (counter_at hcn2)
      obtain ⟨⟨g0, g10, g20, g30⟩, -⟩ := box4 hz
      have HBZ := hid_of hbz
      unfold fin4 at g0 g10 g20 g30
      clear b13 HR HSP X13 fp hcn hcn2 hz hbz
      go_wp2_with fail
      refine HCt.out.mono ?_
      rintro e w14 ⟨rfl, hw14⟩
      have hw14 := hw14.symm
      subst hw14
      go_wp2_with fail
      exact bodyPost_ret (v := .bool true) (by simp [results, Tryz.results3, go_sem]) rfl ⟨rfl, HBZ.out⟩
end Go.Proofs.YtpibeabokedpdaaGreatDoor.LNames
end
section
namespace Go.Proofs.YtpibeabokedpdaaGreatDoor.NmOpen
open Go.ChangeShapes Go.WideShapes Go.RowKit
open Go.Proofs.YtpibeabokedpdaaGreatDoor.SetMath
open Go.Proofs.YtpibeabokedpdaaGreatDoor.Base
set_option linter.unusedVariables false
set_option linter.unusedSimpArgs false
theorem cells9 : Tryz.prog.cellsOf 9 = 1 := by kernel_rfl
theorem bytes9 : Tryz.prog.bytesOf 9 = 16 := by kernel_rfl
theorem spot_none {w : World} {a : Addr} {v : Value} (h : w.cell? a = some v) : a.spot = none := by
  unfold World.cell? at h
  rcases hh : w.heap[a.block]? with _ | o
  · rw [hh] at h; cases h
  · rw [hh] at h
    cases o with
    | cells c ty fz =>
      cases hs : a.spot with
      | none => rfl
      | some s => simp [hs] at h
    | _ => cases h
theorem add_of {a : Addr} (h : a.spot = none) (k : Nat) : a.add k = ⟨a.block, a.off + k, none⟩ := by
  obtain ⟨b, o, s⟩ := a
  obtain rfl : s = none := h
  exact Addr.add_lit b o k
theorem bulk_one {H : Type} (d : DataW H) : 1 ≤ Rows.uptoBulk d := by
  cases d with
  | lit l => cases l <;> simp only [Rows.uptoBulk] <;> omega
  | _ => simp only [Rows.uptoBulk] <;> omega
theorem bulk_len {H : Type} : ∀ l : List (DataW H), l.length ≤ Rows.uptoBulkAll l
  | [] => Nat.zero_le _
  | d :: l => by
    have := bulk_len l
    have := bulk_one d
    rw [List.length_cons, Rows.uptoBulkAll]
    omega
theorem wf_i64 {n : Int} (h : (Lit.int .i64 n).wf = true) : TextMath.InI n := by
  simp [Lit.wf, IntKind.min, IntKind.max, IntKind.signed, IntKind.bits] at h
  unfold TextMath.InI
  omega
section
variable {H : Type} {enc : TypeId × Value → H} {w : World} {fuel : Nat} {c : Value} {x : DataW H × List MemPlace}
theorem open_strs (h : DataW.trod enc Tryz.prog w 0 (fun _ => true) true fuel 22 [c] = some x) :
    ∃ l : List Bs, SL (fun k => k < w.heap.size) w c l ∧ l.length + 1 ≤ Rows.uptoBulk x.1 ∧ ((∀ n ∈ x.1.weights Tryz.prog 22, n ≤ reachBytes) → l.length * 16 ≤ 140737488351232) ∧ ∀ y ∈ l, y.length < 9223372036854775808 := by
  rcases open_strings Tryz.underlying22 Tryz.underlying9 cells9 h with ⟨e, rfl⟩ | ⟨a, len, cap, ss, e, -, hlc, hm, hz, rfl, hat, hwf⟩
  · cases e
    exact ⟨[], SL.nil _ _, bulk_one _, fun _ => by simp, by simp⟩
  · cases e
    have hl : len ≤ ss.length := by rw [hz]; simp; exact hlc
    have hlen : ((ss.take len).map bs).length = len := by rw [List.length_map, List.length_take]; omega
    refine ⟨(ss.take len).map bs, ⟨some a, cap, by rw [hlen], by rw [hlen]; exact hlc, Rd.mono (G := fun k => True ∧ k < w.heap.size) (Rd.lt ?_) fun k _ e => e.2⟩, ?_, fun hx => ?_, fun y hy => ?_⟩
    · by_cases h0 : len = 0
      · left; rw [h0]; rfl
      · right
        have hsp := spot_none (hat 0 (by omega))
        have hs : a.spot = none := by simpa [Addr.add] using hsp
        refine ⟨a.block, a.off, by obtain ⟨b, o, s⟩ := a; obtain rfl : s = none := hs; rfl, trivial, fun j y hj => ?_⟩
        have hj1 : j < ((ss.take len).map bs).length := (List.getElem?_eq_some_iff.1 hj).1
        have hj2 : j < ss.length := by omega
        have h1 := hat j hj2
        rw [add_of hs] at h1
        rw [List.getElem?_map, List.getElem?_take, if_pos (by omega), List.getElem?_eq_getElem hj2] at hj
        simp only [List.getD_eq_getElem?_getD, List.getElem?_eq_getElem hj2, Option.getD_some] at h1
        cases hj
        rw [h1, V, mk_bs]
    · simp only [Rows.uptoBulk]
      have h1 := bulk_len (strs (H := H) (ss.take len))
      have h2 : (strs (H := H) (ss.take len)).length = (ss.take len).length := by simp [strs]
      rw [List.length_map]
      omega
    · have h1 := hx (ss.length * 16) (by
        simp only [DataW.weights, Tryz.underlying22, bytes9]
        refine List.mem_cons.2 (.inl ?_)
        simp [strs]
        omega)
      have hr : reachBytes = 140737488351232 := rfl
      rw [hlen]
      omega
    · obtain ⟨s, hs, rfl⟩ := List.mem_map.1 hy
      have := hwf s (List.mem_of_mem_take hs)
      rw [len_bs]
      unfold maxLen at this
      omega
end
end Go.Proofs.YtpibeabokedpdaaGreatDoor.NmOpen
end
section
namespace Go.Proofs.YtpibeabokedpdaaGreatDoor.LaidErr
open Go.RowKit
open Go.Proofs.YtpibeabokedpdaaGreatDoor.Laid

theorem star : "*" ++ "errors.errorString" = "*errors.errorString" := by decide
theorem row129 (u : TypeId) (h : Tryz.prog.typeName? 3 u = some "*errors.errorString") : u = 269 :=
  typeName_ptr_named (nm := "errors.errorString") (by rw [star]; kernel_rfl) (by kernel_rfl) (by decide) u (by rw [star]; exact h)
theorem rng_of {W : World} {r : List (String × DataW Unit)} (h : laidMet Tryz.prog (("strconv.ErrRange", Rows.laid_strconv_ErrRange) :: r) W) : ∃ tp p, W.var? Tryz.prog "strconv.ErrRange" = some #[.iface tp p] := by
  obtain ⟨a1, s1, hv1, -, -, -⟩ := laid_sentinel h gRng tRng Tryz.underlying217 row129 Tryz.underlying269 Tryz.underlying271 rfl rfl Tryz.underlying9 cells131 cells9
  exact ⟨_, _, hv1⟩
theorem syn_of {W : World} {r : List (String × DataW Unit)} (h : laidMet Tryz.prog (("strconv.ErrSyntax", Rows.laid_strconv_ErrSyntax) :: r) W) : ∃ tp p, W.var? Tryz.prog "strconv.ErrSyntax" = some #[.iface tp p] := by
  obtain ⟨a1, s1, hv1, -, -, -⟩ := laid_sentinel h gSyn tSyn Tryz.underlying217 row129 Tryz.underlying269 Tryz.underlying271 rfl rfl Tryz.underlying9 cells131 cells9
  exact ⟨_, _, hv1⟩
end Go.Proofs.YtpibeabokedpdaaGreatDoor.LaidErr
end
