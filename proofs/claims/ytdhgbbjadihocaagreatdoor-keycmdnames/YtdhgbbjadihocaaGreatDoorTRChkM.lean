/- Check of the document. Mine of the document: is a request one of so many commands? The names of keycmd's commands: sorted out of the map; a request of none of them; no space. The law on keycmd's names. From what lists of texts read as to their cells, and how much they hold. -/
import Derived.Test.YtdhgbbjadihocaaGreatDoorRowOfM
import Derived.Laws.BytesArg
import Derived.Test.YtdhgbbjadihocaaGreatDoorFRowM
import Derived.Test.YtdhgbbjadihocaaGreatDoorIterM
import Derived.Test.YtdhgbbjadihocaaGreatDoorShelfM
import Derived.Shelf.SlIter.Sorted
import Derived.Shelf.SlIter.Keys
import Derived.RangeFuncBound
import Derived.Sort.KeysCollected
import Derived.Test.YtdhgbbjadihocaaGreatDoorKSureM
import Derived.Test.YtdhgbbjadihocaaGreatDoorBaseM
import Derived.Test.YtdhgbbjadihocaaGreatDoorRows
import Derived.Test.YtdhgbbjadihocaaGreatDoorQBaseM
import Derived.SliceStrings
import Derived.Deep.Slices
section
namespace Go.Proofs.YtdhgbbjadihocaaGreatDoor.TRChk
open Go.RowKit
open Go.Proofs.YtdhgbbjadihocaaGreatDoor.Tab
open Go.Proofs.YtdhgbbjadihocaaGreatDoor.Base
open Go.Proofs.YtdhgbbjadihocaaGreatDoor.Low
open Go.Proofs.YtdhgbbjadihocaaGreatDoor.FindP
open Go.Proofs.YtdhgbbjadihocaaGreatDoor.FindC
open Go.Proofs.YtdhgbbjadihocaaGreatDoor.RFind
open Go.Proofs.YtdhgbbjadihocaaGreatDoor.RowOf
open Go.Proofs.YtdhgbbjadihocaaGreatDoor.RowsL (valS cellsS)
attribute [local go_sem] Oper.semAt_some
set_option linter.unusedVariables false
set_option linter.unusedSimpArgs false
theorem info5 : (Tryz.prog.info? 5).map (fun i => (i.zero, i.size, i.bytes)) = some (some (.int .u8 0), 1, 1) := by kernel_rfl
theorem parts5 : ∃ i, Tryz.prog.info? 5 = some i ∧ i.zero = some (.int .u8 0) ∧ i.size = 1 ∧ i.bytes = 1 := by
  have h := info5
  cases e : Tryz.prog.info? 5 with
  | none => rw [e] at h; cases h
  | some i =>
    rw [e] at h
    simp at h
    exact ⟨i, rfl, h.1, h.2.1, h.2.2⟩
abbrev bv (c : UInt8) : Value := .int .u8 (c.toNat : Int)
theorem conv_own {w : World} {B n : Nat} {v : Value} {l : List UInt8} (h : w.ownsRow B 5 1 v n (l.map bv)) (hn : n = l.length) : (convert 61 9 v).run Tryz.prog w = .ok (.string (mk l)) w := by
  subst hn
  rcases h.2 with ⟨rfl, h0⟩ | ⟨g, c, cur, rfl, hb, hr, h1, h2, h3, h4⟩
  · have : l = [] := List.length_eq_zero_iff.1 h0
    subst this
    exact run_convert_bytes_nil w 61 5 Tryz.underlying61 Tryz.underlying5 _ _ 9 Tryz.underlying9
  · refine run_convert_bytes_back w 61 9 5 ⟨g, 0, none⟩ c l Tryz.underlying61 Tryz.underlying5 Tryz.underlying9 (fun j hj => ?_)
    rw [add_off, Nat.zero_add, Lib.cell_of_heap hr]
    have h5 : (cur.toList.take l.length)[j]? = (l.map bv)[j]? := by simpa using congrArg (·[j]?) h4
    rw [List.getElem?_take_of_lt hj, List.getElem?_map, List.getElem?_eq_getElem hj, Array.getElem?_toList] at h5
    exact h5
theorem index_at (l : List UInt8) (i : Nat) (h : i < l.length) (w : World) : (Instr.index 9 (.string (mk l)) (.int .i64 (i : Int))).run Tryz.prog w = .ok (.int .u8 (l[i].toNat : Int)) w := by
  have hi : i < (mk l).size := by rw [mk_size]; exact h
  rw [run_index_string w 9 (mk l) .i64 (i : Int) Tryz.underlying9, dif_pos ⟨by omega, by omega⟩]
  rfl
theorem one_new (w : World) (v : Value) : ∀ (j : Nat) (u : Value), [v][j]? = some u → (w.alloc (.cells #[v] 5)).cell? ((⟨w.heap.size, 0, none⟩ : Addr).add j) = some u := fun j u hj => by
  match j, hj with
  | 0, hj =>
    have : (⟨w.heap.size, 0, none⟩ : Addr).add 0 = ⟨w.heap.size, 0, none⟩ := by simp [Addr.add]
    rw [this, Lib.cell_of_heap (heap_alloc_new w _)]
    exact hj
theorem own_shape {w : World} {B e sz n : Nat} {v : Value} {xs : List Value} (h : w.ownsRow B e sz v n xs) : ∃ a c, v = .slice a n c := by
  rcases h.2 with ⟨rfl, e⟩ | ⟨g, cap, cur, e, _⟩
  · exact ⟨none, 0, by rw [e]⟩
  · exact ⟨_, cap, e⟩
theorem take_show (n : Tab.Bs) (i : Nat) (h : i < n.length) (h2 : i < 32) : (showN n).take (i + 1) = (showN n).take i ++ [vis n[i]] := by
  have hl : i < (showN n).length := by unfold showN; rw [List.length_map, List.length_take]; omega
  rw [List.take_succ_eq_append_getElem hl]
  congr 1
  simp [showN]
theorem own_step {w V w1 : World} {n : Tab.Bs} {i : Nat} {v v' : Value} {o : Obj} {c : UInt8} {B : Nat} (hB : B ≤ w.heap.size) (HB : Below w.heap.size w V) (ho : V.ownsRow w.heap.size 5 1 v i (((showN n).take i).map bv)) (hg : (V.alloc o).grownBy w1 v.ownBlock)
    (ho' : w1.ownsRow w.heap.size 5 1 v' (i + 1) (((showN n).take i).map bv ++ [.int .u8 (c.toNat : Int)])) (hc : (showN n).take (i + 1) = (showN n).take i ++ [c]) :
    w1.ownsRow w.heap.size 5 1 v' (i + 1) (((showN n).take (i + 1)).map bv) ∧ Below w.heap.size w w1 := by
  refine ⟨by rw [hc, List.map_append]; exact ho', ?_⟩
  have e1 : Below w.heap.size w (V.alloc o) := HB.alloc HB.size o
  exact e1.grown hg e1.size (fun j hj => (ho.lt j hj).1)
end Go.Proofs.YtdhgbbjadihocaaGreatDoor.TRChk
end
section
namespace Go.Proofs.YtdhgbbjadihocaaGreatDoor.NmMine
open Go.RowKit Go.Maps
open Go.Proofs.YtdhgbbjadihocaaGreatDoor.Base (mk mk_list mk_size hid_of SL Rd El V str_eq ret_b)
open Go.Proofs.YtdhgbbjadihocaaGreatDoor.Low (low)
open Go.Proofs.YtdhgbbjadihocaaGreatDoor.RowOf (checkS)
set_option linter.unusedVariables false
set_option linter.unusedSimpArgs false
def mineB (ns l : List El) : Bool := if checkS l = [] then ns.contains ((l.headD []).map low) else false
theorem check_nil : checkS [] ≠ [] := by decide +kernel
end Go.Proofs.YtdhgbbjadihocaaGreatDoor.NmMine
end
section
namespace Go.Proofs.YtdhgbbjadihocaaGreatDoor.NmK
open Go.RowKit Go.Maps Go.Sort Go.Shelf
open Go.Proofs.YtdhgbbjadihocaaGreatDoor.SpaceMath
open Go.Proofs.YtdhgbbjadihocaaGreatDoor.Base (mk mk_list mk_size hid_of SL NR El)
open Go.Proofs.YtdhgbbjadihocaaGreatDoor.Turn
open Go.Proofs.YtdhgbbjadihocaaGreatDoor.Vals
open Go.Proofs.YtdhgbbjadihocaaGreatDoor.SBase
open Go.Proofs.YtdhgbbjadihocaaGreatDoor.SFind (alb)
open Go.Proofs.YtdhgbbjadihocaaGreatDoor.Swap (law9 key9)
open Go.Proofs.YtdhgbbjadihocaaGreatDoor.KCmd
open Go.Proofs.YtdhgbbjadihocaaGreatDoor.KMap (fnV cmdL)
open Go.Proofs.YtdhgbbjadihocaaGreatDoor.KRun (look_cmd own_low cmds_call)
open Go.Proofs.YtdhgbbjadihocaaGreatDoor.Low (low)
open Go.Proofs.YtdhgbbjadihocaaGreatDoor.RowOf (checkS)
open Go.Proofs.YtdhgbbjadihocaaGreatDoor.NmMine (mineB)
set_option linter.unusedVariables false
set_option linter.unusedSimpArgs false
def nms : List El := [[99, 111, 112, 121], [100, 98, 115, 105, 122, 101], [100, 101, 108], [100, 117, 109, 112], [101, 99, 104, 111], [101, 120, 105, 115, 116, 115], [101, 120, 112, 105, 114, 101], [101, 120, 112, 105, 114, 101, 97, 116], [101, 120, 112, 105, 114, 101, 116, 105, 109, 101], [102, 108, 117, 115, 104, 97, 108, 108], [102, 108, 117, 115, 104, 100, 98], [107, 101, 121, 115], [112, 101, 114, 115, 105, 115, 116], [112, 101, 120, 112, 105, 114, 101], [112, 101, 120, 112, 105, 114, 101, 97, 116], [112, 101, 120, 112, 105, 114, 101, 116, 105, 109, 101], [112, 105, 110, 103], [112, 116, 116, 108], [114, 101, 110, 97, 109, 101], [114, 101, 110, 97, 109, 101, 110, 120], [114, 101, 115, 116, 111, 114, 101], [115, 99, 97, 110], [116, 116, 108], [116, 121, 112, 101], [117, 110, 108, 105, 110, 107]]
theorem nms_keys : strKeys (toD cmdL) = nms := by kernel_rfl
theorem nms_keys2 : keys cmdL = nms := by kernel_rfl
theorem nms_sort : nms.mergeSort leB = nms := List.mergeSort_of_pairwise (by decide +kernel)
theorem nms_len : nms.length = 25 := rfl
theorem sorts (m : Nat) : AnyZ.SortsIn Tryz.prog Tryz.sorted12_ren Fence.wide m :=
  ⟨fun blk off cap ss W hH hblk hsz => callsIn_wide.2 (Tryz.slices_Sort_string blk off cap ss W hH hblk hsz), fun p cap W => callsIn_wide.2 (Tryz.slices_Sort_string_none p cap W)⟩
set_option maxHeartbeats 1000000 in
theorem sorted_call (b : Nat) (w : World) (hown : w.ownsMap Tryz.prog 9 RH b cmdL.length (toD cmdL)) :
    CallsIn Fence.wide 5 Tryz.prog 12 #[.func (.func 46) #[] #[.pointer (some ⟨w.heap.size, 0, none⟩)]] (w.alloc (.cells #[.map (some b)] 37)) fun e w' => ∃ v, e = .returned v ∧ NR w.heap.size w' v nms ∧ Below w.heap.size w w' := by
  have hbl := hown.lt
  have hsz : Maps.size (toD cmdL) = 25 := by rw [size_D]; rfl
  have hseq : SeqGives Fence.wide 2 Tryz.prog 46 #[.pointer (some ⟨w.heap.size, 0, none⟩)] encStr (fun ss => ss.Perm (strKeys (toD cmdL))) (Maps.size (toD cmdL)) (w.alloc (.cells #[.map (some b)] 37)) :=
    AnyZ.keys_gives (ρ := Tryz.keys13_ren) { Tryz.keys13 with } Fence.wide _ trivial rfl (by omega) w.heap.size b cmdL.length (toD cmdL) _ (by simp) (by simp) (by
      obtain ⟨es, clock, hb, Ft, hs, hD⟩ := hown
      exact ⟨es, clock, (Below.heap_alloc _ _ b hbl).trans hb, Ft, hs, hD⟩)
  refine (AnyZ.sorted_in Tryz.sorted12 Fence.wide 5 trivial trivial trivial trivial rfl (by omega) (sorts _) (enters_of Tryz.func45 (by kernel_rfl) rfl) 46 #[.pointer (some ⟨w.heap.size, 0, none⟩)] trivial (enters_of Tryz.func46 (by kernel_rfl) rfl) _ _ (by rw [hsz]; unfold maxLen; omega) (by rw [hsz]; omega) _ hseq).mono ?_
  rintro e w' ⟨v, ss, rfl, hS, hrow, hnil, hb⟩
  rw [nms_keys] at hS
  have e1 : ss.mergeSort (fun x y => decide (x ≤ y)) = nms := (mergeSort_of_perm hS).trans nms_sort
  have e2 : ss.length = nms.length := hS.length_eq
  rw [e1, e2] at hrow
  exact ⟨v, rfl, (NR.of_owns hrow).mono (by simp), ((Below.refl _ w).alloc (Nat.le_refl _) _).trans (hb.mono (by simp))⟩
set_option maxHeartbeats 1000000 in
set_option maxRecDepth 100000 in
theorem names_call (w : World) : Calls Tryz.prog 5 #[] w fun e w' => ∃ v, e = .returned v ∧ NR w.heap.size w' v nms ∧ Below w.heap.size w w' := by
  refine (callsIn_wide (n := 6)).1 ?_
  have cC : ∀ W, CallsIn Fence.wide 5 Tryz.prog 10 #[] W fun e w' => ∃ m, e = .returned (.map (some m)) ∧ w'.ownsMap Tryz.prog 9 RH m cmdL.length (toD cmdL) ∧ Below W.heap.size W w' := fun W => callsIn_wide.2 (cmds_call W)
  have cK : ∀ mb W, CallsIn Fence.wide 5 Tryz.prog 13 #[.map mb] W fun e w' => e = .returned (.func (.func 46) #[] #[.pointer (some ⟨W.heap.size, 0, none⟩)]) ∧ w' = W.alloc (.cells #[.map mb] 37) := fun mb W => AnyZ.keys_in Tryz.keys13 Fence.wide 5 trivial rfl mb W
  have cS := sorted_call
  have hfC : Fence.wide.fn 10 := trivial
  have hfK : Fence.wide.fn 13 := trivial
  have hfS : Fence.wide.fn 12 := trivial
  refine callsIn_of_wp Tryz.func5 rfl trivial ?_ rfl
  simp only [Tryz.ntmps5, List.size_toArray, List.length_cons, List.length_nil, Nat.reduceAdd, Nat.reduceSub, Array.replicate_succ, Array.replicate_zero, List.push_toArray, List.append_toArray, List.nil_append, List.cons_append]
  gi_wp2_with (first
    | (gi_at_call 10; refine (cC _).mono ?_; rintro e w1 ⟨m, rfl, hm, b1⟩; have HS := cS m w1 hm)
    | (gi_at_call 13; refine (cK _ _).mono ?_; rintro e w2 ⟨rfl, rfl⟩)
    | (gi_at_call 12; refine HS.mono ?_; rintro e w3 ⟨v, rfl, hrow, hb⟩))
  go_ret
  exact ⟨v, rfl, hrow.mono b1.size, b1.trans (hb.mono b1.size)⟩
set_option maxRecDepth 100000 in
theorem rnames_call (w : World) : Calls Tryz.prog 7 #[] w fun e w' => ∃ q, e = .returned (.slice (some ⟨q, 0, none⟩) 25 25) ∧ w'.heap[q]? = some (.cells (nms.map Base.V).toArray 9 (0, 0)) ∧ w.heap.size ≤ q ∧ Below w.heap.size w w' := by
  go_enter Tryz.func7, Tryz.ntmps7
  go_wp2_with fail
  go_ret
  exact ⟨w.heap.size, rfl, heap_alloc_new w _, Nat.le_refl _, alb _ _⟩
theorem sl_names {W : World} {q : Nat} (h : W.heap[q]? = some (.cells (nms.map Base.V).toArray 9 (0, 0))) : SL (fun _ => True) W (.slice (some ⟨q, 0, none⟩) 25 25) nms := by
  refine ⟨_, _, rfl, Nat.le_refl _, .inr ⟨q, 0, rfl, trivial, fun j x hx => ?_⟩⟩
  rw [Nat.zero_add, Lib.cell_of_heap h]
  simp [hx]
/-- a row of so many names: where it lies -/
theorem row_at {B : Nat} {W : World} {v : Value} (h : NR B W v nms) : ∃ g c cur, v = .slice (some ⟨g, 0, none⟩) 25 c ∧ B ≤ g ∧ W.heap[g]? = some (.cells cur 9 (0, 0)) ∧ 25 ≤ cur.size := by
  rcases h with ⟨-, h0⟩ | ⟨g, c, cur, rfl, hB, hg, hc, hle, -⟩
  · cases h0
  · exact ⟨g, c, cur, rfl, hB, hg, by rw [hc]; exact hle⟩
set_option maxRecDepth 100000 in
theorem run_nil (now : Int) (v : Value) (w : World) : Calls Tryz.prog 4 #[.pointer none, .int .i64 now, v] w fun e w' => e = .returned (.tuple #[rp 0 ⟨#[]⟩ 0, .bool false]) ∧ Below w.heap.size w w' := by
  obtain ⟨W, hW⟩ : ∃ W, W = w.alloc (rO 0 ⟨#[]⟩ 0 (.slice none 0 0)) := ⟨_, rfl⟩
  have HB := hid_of (show Below w.heap.size w W by rw [hW]; exact alb _ _)
  have hx : W.heap[w.heap.size]? = some (rO 0 ⟨#[]⟩ 0 (.slice none 0 0)) := by rw [hW]; exact heap_alloc_new w _
  obtain ⟨⟨v0, v1, v2, v3⟩, fv⟩ := box4 hx
  have fv0 := fv 0; have fv1 := fv 1; have fv2 := fv 2; have fv3 := fv 3
  have HX := hid_of hx
  have HW := hid_of hW
  clear hW hx fv
  go_enter Tryz.func4, Tryz.ntmps4
  go_wp2_with fail
  rw [← HW.out]
  go_wp2_with fail
  exact bodyPost_ret (v := .tuple #[rp 0 ⟨#[]⟩ 0, .bool false]) (by simp [results, Tryz.results4, go_sem, Act.put, v0, v1, v2, v3]) rfl ⟨rfl, HB.out⟩
theorem lkp_no {nm : El} (h : nm ∉ nms) : lkp cmdL nm = none := lkp_none fun p hp e => h (by rw [← nms_keys2]; exact List.mem_map.2 ⟨p, hp, e⟩)
theorem keyN (k : El) (h : k.length < 9223372036854775808) : keyOf Tryz.prog 9 (.string (mk k)) = some (RowB.lS k) := WideMaps.keyOf_string_mk (P := Tryz.prog) (s := mk k) Tryz.underlying9 (by rw [Base.mk_size]; unfold maxLen; omega)
theorem look_none {W : World} {m : Nat} (own : W.ownsMap Tryz.prog 9 RH m cmdL.length (toD cmdL)) (nm : El) (hk : nm.length < 9223372036854775808) (hn : lkp cmdL nm = none) :
    (Instr.lookup 37 (.map (some m)) (.string (mk nm)) true).run Tryz.prog W = .ok (.tuple #[.nilFunc, .bool false]) W := by
  obtain ⟨v, ps, hrun, hv⟩ := own.look_ok law9 Tryz.underlying37 (KRun.zeroC W) (zd := .held .nilFunc) (zp := []) rfl (keyN nm hk)
  have hv' : RH v = some (.held ((lkp cmdL nm).getD .nilFunc), ps) := by rw [hv]; exact congrArg (fun d => some (d, ps)) (at_D cmdL nm _)
  have e := RH_inv hv'
  have eh : Maps.has (toD cmdL) (RowB.lS nm) = (lkp cmdL nm).isSome := has_D cmdL nm
  rw [eh, e, hn] at hrun
  exact hrun
section
variable {F X : Nat → Prop} {b : Nat} {w : World} {S : Sp}
set_option maxHeartbeats 8000000 in
set_option maxRecDepth 100000 in
theorem run_check (h : SP F X b w S) (now : Int) {G : Nat → Prop} {a : Option Addr} {n c : Nat} {l : List El} (hl : SL G w (.slice a n c) l) (hll : l.length < 9223372036854775808) (hbl : ∀ x ∈ l, x.length < 9223372036854775808) (hch : checkS l ≠ []) :
    Calls Tryz.prog 4 #[ptr b, .int .i64 now, .slice a n c] w fun e w' => e = .returned (.tuple #[rp 0 ⟨#[]⟩ 0, .bool false]) ∧ Below w.heap.size w w' := by
  obtain ⟨W, hW⟩ : ∃ W, W = w.alloc (rO 0 ⟨#[]⟩ 0 (.slice none 0 0)) := ⟨_, rfl⟩
  have bW : Below w.heap.size w W := by rw [hW]; exact alb _ _
  have HX := hid_of (show W.heap[w.heap.size]? = some (rO 0 ⟨#[]⟩ 0 (.slice none 0 0)) by rw [hW]; exact heap_alloc_new w _)
  have HCk := hid_of (Chk.check_call (hl.below bW) hll hbl)
  have hne2 : ((mk (checkS l)).toList != (⟨#[]⟩ : ByteArray).toList) = true := by
    rw [mk_list]
    simpa using hch
  have hne3 : (mk (checkS l)).toList.isEmpty = false := by
    rw [mk_list]
    simpa using hch
  have HB := hid_of bW
  have HW := hid_of hW
  clear hW bW h hch hll hbl hl
  generalize mk (checkS l) = C at *
  go_enter Tryz.func4, Tryz.ntmps4
  go_wp2_with fail
  rw [← HW.out]
  refine HCk.out.mono ?_
  rintro e w1 ⟨rfl, b1⟩
  have B1 := hid_of (FRow.bel HB.out b1 (Nat.le_refl _))
  have X1 := hid_of ((b1.block _ (lt_of HX.out)).trans HX.out)
  obtain ⟨⟨v0, v1, v2, v3⟩, fv⟩ := box4 X1.out
  have fv0 := fv 0; have fv1 := fv 1; have fv2 := fv 2; have fv3 := fv 3
  clear b1 HCk HX HB fv
  go_wp2_with fail
  have hz := fin4_at X1.out (.int .i64 0) (.string ⟨#[]⟩) (.int .i64 0) (.slice none 0 0)
  have hbz := fin4_b (y0 := .int .i64 0) (y1 := .string ⟨#[]⟩) (y2 := .int .i64 0) (y3 := .slice none 0 0) B1.out (Nat.le_refl _)
  unfold fin4 at hz hbz
  obtain ⟨⟨g0, g1, g2, g3⟩, -⟩ := box4 hz
  exact bodyPost_ret (v := .tuple #[rp 0 ⟨#[]⟩ 0, .bool false]) (by simp [results, Tryz.results4, go_sem, Act.put, g0, g1, g2, g3]) rfl ⟨rfl, hbz⟩
set_option maxHeartbeats 8000000 in
set_option maxRecDepth 100000 in
theorem run_none (h : SP F X b w S) (now : Int) {G : Nat → Prop} {a : Option Addr} {n c : Nat} {l : List El} (hl : SL G w (.slice a n c) l) (hl0 : 0 < l.length) (hll : l.length < 9223372036854775808) (hbl : ∀ x ∈ l, x.length < 9223372036854775808) (hch : checkS l = []) (hf : lkp cmdL (l[0].map low) = none) :
    Calls Tryz.prog 4 #[ptr b, .int .i64 now, .slice a n c] w fun e w' => e = .returned (.tuple #[rp 0 ⟨#[]⟩ 0, .bool false]) ∧ Below w.heap.size w w' := by
  obtain ⟨W, hW⟩ : ∃ W, W = w.alloc (rO 0 ⟨#[]⟩ 0 (.slice none 0 0)) := ⟨_, rfl⟩
  have bW : Below w.heap.size w W := by rw [hW]; exact alb _ _
  have HX := hid_of (show W.heap[w.heap.size]? = some (rO 0 ⟨#[]⟩ 0 (.slice none 0 0)) by rw [hW]; exact heap_alloc_new w _)
  have HCk := hid_of (Chk.check_call (hl.below bW) hll hbl)
  rw [hch, show mk ([] : List UInt8) = (⟨#[]⟩ : ByteArray) from rfl] at HCk
  have HC := hid_of fun V => cmds_call V
  have HL := hid_of fun V => Low.lower_call l[0] V (hbl _ (List.getElem_mem hl0))
  have HLk := hid_of fun (V : World) (m : Nat) (own : V.ownsMap Tryz.prog 9 RH m cmdL.length (toD cmdL)) => look_none own (l[0].map low) (by rw [List.length_map]; exact hbl _ (List.getElem_mem hl0)) hf
  obtain ⟨a0, c0, e0, hcc, hrd⟩ := hl
  injection e0 with e1 e2 e3
  subst e1 e2 e3
  obtain ⟨ga, oa, rfl, _, hcs⟩ := Base.Rd.get hrd hl0
  have hc0 : w.cell? ⟨ga, oa, none⟩ = some (.string (mk l[0])) := hcs 0 _ (List.getElem?_eq_getElem hl0)
  have hga : ga < w.heap.size := Base.cell_lt hc0
  have i0 : (0 : Int) < (l.length : Int) := by omega
  have HB := hid_of bW
  have HW := hid_of hW
  clear hW bW h hch hll hbl hf hcs hrd hcc
  generalize mk (l[0].map low) = NM at *
  generalize mk l[0] = N0 at *
  generalize l.length = LN at *
  go_enter Tryz.func4, Tryz.ntmps4
  go_wp2_with fail
  rw [← HW.out]
  refine HCk.out.mono ?_
  rintro e w1 ⟨rfl, b1⟩
  have B1 := hid_of (FRow.bel HB.out b1 (Nat.le_refl _))
  have X1 := hid_of ((b1.block _ (lt_of HX.out)).trans HX.out)
  have hc1 := (B1.out.cell (p := ⟨ga, oa, none⟩) hga).trans hc0
  clear b1 HCk HX HB
  go_wp2_with fail
  have hg1 : ga < w1.heap.size := Base.cell_lt hc1
  have t0 : KCmd.Tmp w w1 w.heap.size := ⟨Nat.le_refl _, lt_of X1.out⟩
  go_cut [8, 9] (fun s8 s9 wx => s9 = .bool false ∧ Hid (Below w1.heap.size w1 wx))
  case first =>
    go_region_with (first
      | (go_at_call 10; refine (HC.out _).mono ?_; rintro e w3 ⟨m, rfl, hm, b3⟩; have B3 : Below w1.heap.size w1 w3 := FRow.bel (Below.refl _ w1).drew b3 (Nat.le_refl _); have HM := hid_of hm; have HB3 := hid_of B3; have hc3 := (B3.cell (p := ⟨ga, oa, none⟩) (Base.cell_lt hc1)).trans hc1; have hg3 : ga < w3.heap.size := Base.cell_lt hc3; clear hm)
      | (go_at_call 11; refine (HL.out _).mono ?_; rintro e w4 ⟨rfl, b4⟩; have B4 := hid_of (FRow.bel HB3.out b4 (Nat.le_refl _)); have k4 := HLk.out w4 _ (own_low HM.out b4)))
    all_goals
      go_wp2_with fail
      go_meet
      case rel => exact ⟨rfl, B4⟩
  case rest =>
    obtain ⟨rfl, HQ⟩ := hcut
    have HBw := hid_of (FRow.bel B1.out HQ.out (Nat.le_refl _))
    have XR := hid_of ((HQ.out.block _ t0.2).trans X1.out)
    obtain ⟨⟨v0, v1, v2, v3⟩, fv⟩ := box4 XR.out
    have fv0 := fv 0; have fv1 := fv 1; have fv2 := fv 2; have fv3 := fv 3
    clear HC HL HLk HQ X1 hc1 hga hg1 fv
    go_wp2_with fail
    have hz := fin4_at XR.out (.int .i64 0) (.string ⟨#[]⟩) (.int .i64 0) (.slice none 0 0)
    have hbz := fin4_b (y0 := .int .i64 0) (y1 := .string ⟨#[]⟩) (y2 := .int .i64 0) (y3 := .slice none 0 0) HBw.out (Nat.le_refl _)
    unfold fin4 at hz hbz
    obtain ⟨⟨g0, g1, g2, g3⟩, -⟩ := box4 hz
    exact bodyPost_ret (v := .tuple #[rp 0 ⟨#[]⟩ 0, .bool false]) (by simp [results, Tryz.results4, go_sem, Act.put, g0, g1, g2, g3]) rfl ⟨rfl, hbz⟩
theorem run_no (h : SP F X b w S) (now : Int) {G : Nat → Prop} {a : Option Addr} {n c : Nat} {l : List El} (hl : SL G w (.slice a n c) l) (hll : l.length < 9223372036854775808) (hbl : ∀ x ∈ l, x.length < 9223372036854775808) (hm : mineB nms l = false) :
    Calls Tryz.prog 4 #[ptr b, .int .i64 now, .slice a n c] w fun e w' => e = .returned (.tuple #[rp 0 ⟨#[]⟩ 0, .bool false]) ∧ Below w.heap.size w w' := by
  by_cases hch : checkS l = []
  · have h0 : 0 < l.length := by
      rcases l with _ | ⟨x, r⟩
      · exact absurd hch NmMine.check_nil
      · simp
    refine run_none h now hl h0 hll hbl hch (lkp_no ?_)
    unfold mineB at hm
    rw [if_pos hch] at hm
    cases l with
    | nil => simp at h0
    | cons x r => simpa using hm
  · exact run_check h now hl hll hbl hch
end
end Go.Proofs.YtdhgbbjadihocaaGreatDoor.NmK
end
section
namespace Go.Proofs.YtdhgbbjadihocaaGreatDoor.KNames
open Go.RowKit Go.Maps
open Go.Proofs.YtdhgbbjadihocaaGreatDoor.TextMath
open Go.Proofs.YtdhgbbjadihocaaGreatDoor.SpaceMath
open Go.Proofs.YtdhgbbjadihocaaGreatDoor.Base (mk mk_list mk_size hid_of SL NR El)
open Go.Proofs.YtdhgbbjadihocaaGreatDoor.Turn
open Go.Proofs.YtdhgbbjadihocaaGreatDoor.Vals
open Go.Proofs.YtdhgbbjadihocaaGreatDoor.SBase
open Go.Proofs.YtdhgbbjadihocaaGreatDoor.SFind (alb)
open Go.Proofs.YtdhgbbjadihocaaGreatDoor.QBase
open Go.Proofs.YtdhgbbjadihocaaGreatDoor.KCmd
open Go.Proofs.YtdhgbbjadihocaaGreatDoor.NmK
open Go.Proofs.YtdhgbbjadihocaaGreatDoor.Parse (Has)
set_option linter.unusedVariables false
set_option linter.unusedSimpArgs false
/-- a row that may be spoilt -/
structure Rm (g n : Nat) (w : World) : Prop where
  ex : ∃ cur, w.heap[g]? = some (.cells cur 9 (0, 0)) ∧ n ≤ cur.size
theorem Rm.cell {g n : Nat} {w : World} (h : Rm g n w) (j : Nat) (hj : j < n) : (∃ v, w.cell? ⟨g, j, none⟩ = some v) ∧ w.frozen? ⟨g, j, none⟩ = false := by
  obtain ⟨cur, h1, h2⟩ := h.ex
  refine ⟨⟨cur[j]'(by omega), ?_⟩, Lib.frozen_of_heap h1 j⟩
  rw [Lib.cell_of_heap h1 j]
  exact Array.getElem?_eq_getElem (by omega)
theorem Rm.set {g n : Nat} {w : World} (h : Rm g n w) (j : Nat) (x : Value) : Rm g n (w.setCell ⟨g, j, none⟩ x) := by
  obtain ⟨cur, h1, h2⟩ := h.ex
  exact ⟨⟨_, set_at h1 x, by simp [h2]⟩⟩
theorem below_m {w W : World} {m : Nat} (e : W = w.drewN m) : Below w.heap.size w W := by rw [e]; exact ⟨rfl, rfl, rfl, Nat.le_refl _, fun _ _ => rfl⟩
set_option maxRecDepth 100000 in
set_option maxHeartbeats 16000000 in
theorem law_call (w : World) (hh : Has w) (t : Int) (v : Value) : Calls Tryz.prog 3 #[.int .i64 t, v] w fun e w' => e = .returned (.bool true) ∧ Below w.heap.size w w' := by
  have HHas := hid_of hh
  have HNm := hid_of fun (V : World) => names_call V
  have HRn := hid_of fun (V : World) => rnames_call V
  have HSu := hid_of fun (V : World) (h : Has V) => KSure.sure_call V h
  have HR0 := hid_of fun (V : World) => run_nil t v V
  have HSa := hid_of fun (V : World) (B : Nat) (v : Value) (q : Nat) (hv : NR B V v nms) (hq : V.heap[q]? = some (.cells (nms.map Base.V).toArray 9 (0, 0))) => HSame.same_true hv.sl (sl_names hq) rfl (by decide)
  clear hh
  go_enter Tryz.func3, Tryz.ntmps3
  go_wp2_with fail
  refine (HR0.out w).mono ?_
  rintro e w1 ⟨rfl, b1⟩
  obtain ⟨W1, hW1⟩ : ∃ W, W = w1.alloc (rO 0 ⟨#[]⟩ 0 (.slice none 0 0)) := ⟨_, rfl⟩
  have HW1 := hid_of hW1
  have B1 := hid_of (show Below w.heap.size w W1 by rw [hW1]; exact b1.trans ((alb _ _).mono b1.size))
  clear b1 hW1
  go_wp2_with fail
  rw [← HW1.out]
  refine (HNm.out W1).mono ?_
  rintro e w2 ⟨v1, rfl, r2, b2⟩
  have R2 := hid_of r2
  have B2 := hid_of (B1.out.trans (b2.mono B1.out.size))
  obtain ⟨g1, c1, cur1, rfl, hg1, hq1, hn1⟩ := row_at r2
  have HG := hid_of (Nat.le_trans B1.out.size hg1)
  have HM := hid_of (show Rm g1 25 w2 from ⟨⟨cur1, hq1, hn1⟩⟩)
  have HGl := hid_of (lt_of hq1)
  clear r2 b2 hg1 hq1 hn1 B1
  go_wp2_with fail
  refine (HRn.out w2).mono ?_
  rintro e w3 ⟨q, rfl, hq, hqs, b3⟩
  have HQ := hid_of hq
  have R3 := hid_of (R2.out.below b3)
  have B3 := hid_of (B2.out.trans (b3.mono B2.out.size))
  have HM3 := hid_of (show Rm g1 25 w3 from by obtain ⟨cur, h1, h2⟩ := HM.out.ex; exact ⟨⟨cur, (b3.block _ HGl.out).trans h1, h2⟩⟩)
  have HGl3 := hid_of (Nat.lt_of_lt_of_le HGl.out b3.size)
  clear b3 hq hqs R2 HM B2 HGl
  go_wp2_with fail
  refine (HSa.out w3 _ _ q R3.out HQ.out).mono ?_
  rintro e w4 ⟨rfl, m4, hm4⟩
  have b4 := below_m hm4
  have B4 := hid_of (B3.out.trans (b4.mono B3.out.size))
  have HM4 := hid_of (show Rm g1 25 w4 from by obtain ⟨cur, h1, h2⟩ := HM3.out.ex; exact ⟨⟨cur, (b4.block _ HGl3.out).trans h1, h2⟩⟩)
  clear hm4 b4 R3 HQ HM3 HGl3 B3
  go_wp2_with fail
  go_loopg [8] 25 (fun g s8 wx => ∃ k : Nat, k ≤ 25 ∧ 25 ≤ k + g ∧ s8 = .int .i64 (k : Int) ∧ Hid (Below w.heap.size w wx ∧ Rm g1 25 wx))
  case atStart => exact ⟨0, by omega, by omega, rfl, hid_of ⟨B4.out, HM4.out⟩⟩
  case round =>
    obtain ⟨k, hk, hg, rfl, HS⟩ := hrel
    by_cases hlt : k < 25
    · obtain ⟨g', rfl⟩ : ∃ g', gk = g' + 1 := ⟨gk - 1, by omega⟩
      obtain ⟨⟨v0, r0⟩, z0⟩ := HS.out.2.cell k hlt
      have HS2 := hid_of (show Below w.heap.size w (wr.setCell ⟨g1, k, none⟩ (.string ⟨#[115, 112, 111, 105, 108, 116]⟩)) ∧ Rm g1 25 (wr.setCell ⟨g1, k, none⟩ (.string ⟨#[115, 112, 111, 105, 108, 116]⟩)) from ⟨HS.out.1.setCell (p := ⟨g1, k, none⟩) HG.out _, HS.out.2.set k _⟩)
      have e2 : IntKind.i64.wrap ((k : Int) + 1) = (k : Int) + 1 := IntWalk.i64_in _ (by omega)
      have g2 : (k : Int) < (25 : Int) := by omega
      clear HS HM4 B4
      go_wp2_with fail
      go_roundg g'
      case measure => omega
      case rel => exact ⟨k + 1, by omega, by omega, by simp, HS2⟩
    · have gi : ¬ (k : Int) < (25 : Int) := by omega
      have B5 := hid_of HS.out.1
      clear HS HM4 B4
      go_wp2_with fail
      refine (HNm.out wr).mono ?_
      rintro e w6 ⟨v6, rfl, r6, b6⟩
      have R6 := hid_of r6
      have B6 := hid_of (B5.out.trans (b6.mono B5.out.size))
      obtain ⟨g6, c6, cur6, rfl, -, -, -⟩ := row_at r6
      clear r6 b6 B5
      go_wp2_with fail
      refine (HRn.out w6).mono ?_
      rintro e w7 ⟨q7, rfl, hq, hqs, b7⟩
      have HQ := hid_of hq
      have R7 := hid_of (R6.out.below b7)
      have B7 := hid_of (B6.out.trans (b7.mono B6.out.size))
      clear b7 hq hqs R6 B6
      go_wp2_with fail
      refine (HSa.out w7 _ _ q7 R7.out HQ.out).mono ?_
      rintro e w8 ⟨rfl, m8, hm8⟩
      have b8 := below_m hm8
      have B8 := hid_of (B7.out.trans (b8.mono B7.out.size))
      clear hm8 b8 R7 HQ B7
      go_wp2_with fail
      refine (HSu.out w8 (HHas.out.later B8.out)).mono ?_
      rintro e w9 ⟨rfl, b9⟩
      have B9 := hid_of (B8.out.trans (b9.mono B8.out.size))
      clear b9 B8
      go_wp2_with fail
      exact bodyPost_ret (v := .bool true) (by simp [results, Tryz.results3, go_sem]) rfl ⟨rfl, B9.out⟩
end Go.Proofs.YtdhgbbjadihocaaGreatDoor.KNames
end
section
namespace Go.Proofs.YtdhgbbjadihocaaGreatDoor.NmOpen
open Go.ChangeShapes Go.WideShapes Go.RowKit
open Go.Proofs.YtdhgbbjadihocaaGreatDoor.SetMath
open Go.Proofs.YtdhgbbjadihocaaGreatDoor.Base
set_option linter.unusedVariables false
set_option linter.unusedSimpArgs false
theorem cells9 : Tryz.prog.cellsOf 9 = 1 := by kernel_rfl
theorem bytes9 : Tryz.prog.bytesOf 9 = 16 := by kernel_rfl
theorem spot_none {w : World} {a : Addr} {v : Value} (h : w.cell? a = some v) : a.spot = none := by
  unfold World.cell? at h
  rcases hh : w.heap[a.block]? with _ | o
  · rw [hh] at h; cases h
  · rw [hh] at h
    cases o with
    | cells c ty fz =>
      cases hs : a.spot with
      | none => rfl
      | some s => simp [hs] at h
    | _ => cases h
theorem add_of {a : Addr} (h : a.spot = none) (k : Nat) : a.add k = ⟨a.block, a.off + k, none⟩ := by
  obtain ⟨b, o, s⟩ := a
  obtain rfl : s = none := h
  exact Addr.add_lit b o k
theorem bulk_one {H : Type} (d : DataW H) : 1 ≤ Rows.uptoBulk d := by
  cases d with
  | lit l => cases l <;> simp only [Rows.uptoBulk] <;> omega
  | _ => simp only [Rows.uptoBulk] <;> omega
theorem bulk_len {H : Type} : ∀ l : List (DataW H), l.length ≤ Rows.uptoBulkAll l
  | [] => Nat.zero_le _
  | d :: l => by
    have := bulk_len l
    have := bulk_one d
    rw [List.length_cons, Rows.uptoBulkAll]
    omega
theorem wf_i64 {n : Int} (h : (Lit.int .i64 n).wf = true) : TextMath.InI n := by
  simp [Lit.wf, IntKind.min, IntKind.max, IntKind.signed, IntKind.bits] at h
  unfold TextMath.InI
  omega
section
variable {H : Type} {enc : TypeId × Value → H} {w : World} {fuel : Nat} {c : Value} {x : DataW H × List MemPlace}
theorem open_strs (h : DataW.trod enc Tryz.prog w 0 (fun _ => true) true fuel 22 [c] = some x) :
    ∃ l : List Bs, SL (fun k => k < w.heap.size) w c l ∧ l.length + 1 ≤ Rows.uptoBulk x.1 ∧ ((∀ n ∈ x.1.weights Tryz.prog 22, n ≤ reachBytes) → l.length * 16 ≤ 140737488351232) ∧ ∀ y ∈ l, y.length < 9223372036854775808 := by
  rcases open_strings Tryz.underlying22 Tryz.underlying9 cells9 h with ⟨e, rfl⟩ | ⟨a, len, cap, ss, e, -, hlc, hm, hz, rfl, hat, hwf⟩
  · cases e
    exact ⟨[], SL.nil _ _, bulk_one _, fun _ => by simp, by simp⟩
  · cases e
    have hl : len ≤ ss.length := by rw [hz]; simp; exact hlc
    have hlen : ((ss.take len).map bs).length = len := by rw [List.length_map, List.length_take]; omega
    refine ⟨(ss.take len).map bs, ⟨some a, cap, by rw [hlen], by rw [hlen]; exact hlc, Rd.mono (G := fun k => True ∧ k < w.heap.size) (Rd.lt ?_) fun k _ e => e.2⟩, ?_, fun hx => ?_, fun y hy => ?_⟩
    · by_cases h0 : len = 0
      · left; rw [h0]; rfl
      · right
        have hsp := spot_none (hat 0 (by omega))
        have hs : a.spot = none := by simpa [Addr.add] using hsp
        refine ⟨a.block, a.off, by obtain ⟨b, o, s⟩ := a; obtain rfl : s = none := hs; rfl, trivial, fun j y hj => ?_⟩
        have hj1 : j < ((ss.take len).map bs).length := (List.getElem?_eq_some_iff.1 hj).1
        have hj2 : j < ss.length := by omega
        have h1 := hat j hj2
        rw [add_of hs] at h1
        rw [List.getElem?_map, List.getElem?_take, if_pos (by omega), List.getElem?_eq_getElem hj2] at hj
        simp only [List.getD_eq_getElem?_getD, List.getElem?_eq_getElem hj2, Option.getD_some] at h1
        cases hj
        rw [h1, V, mk_bs]
    · simp only [Rows.uptoBulk]
      have h1 := bulk_len (strs (H := H) (ss.take len))
      have h2 : (strs (H := H) (ss.take len)).length = (ss.take len).length := by simp [strs]
      rw [List.length_map]
      omega
    · have h1 := hx (ss.length * 16) (by
        simp only [DataW.weights, Tryz.underlying22, bytes9]
        refine List.mem_cons.2 (.inl ?_)
        simp [strs]
        omega)
      have hr : reachBytes = 140737488351232 := rfl
      rw [hlen]
      omega
    · obtain ⟨s, hs, rfl⟩ := List.mem_map.1 hy
      have := hwf s (List.mem_of_mem_take hs)
      rw [len_bs]
      unfold maxLen at this
      omega
end
end Go.Proofs.YtdhgbbjadihocaaGreatDoor.NmOpen
end
