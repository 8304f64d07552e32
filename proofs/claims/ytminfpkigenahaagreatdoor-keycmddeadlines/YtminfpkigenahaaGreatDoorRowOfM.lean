/- fits, rowOf and Check of the program. Check of the program. Run: a request of a command is done. -/
import Derived.Test.YtminfpkigenahaaGreatDoorIterRM
import Derived.BigRegion
import Derived.Test.YtminfpkigenahaaGreatDoorParseM
import Derived.Test.YtminfpkigenahaaGreatDoorKMapM
import Derived.Deep.RegionHeld3
import Derived.Deep.DeepCutAuto
import Derived.Shelf.Abstract
section
namespace Go.Proofs.YtminfpkigenahaaGreatDoor.RowOf
open Go.RowKit
open Go.Proofs.YtminfpkigenahaaGreatDoor.Tab
open Go.Proofs.YtminfpkigenahaaGreatDoor.Base
open Go.Proofs.YtminfpkigenahaaGreatDoor.Low
open Go.Proofs.YtminfpkigenahaaGreatDoor.FindP
open Go.Proofs.YtminfpkigenahaaGreatDoor.FindC
open Go.Proofs.YtminfpkigenahaaGreatDoor.RowsL (valS cellsS)
attribute [local go_sem] Oper.semAt_some
set_option linter.unusedVariables false
set_option linter.unusedSimpArgs false
def unk : Tab.Bs := [69, 82, 82, 32, 117, 110, 107, 110, 111, 119, 110, 32, 99, 111, 109, 109, 97, 110, 100, 32]
def art : Tab.Bs := [69, 82, 82, 32, 119, 114, 111, 110, 103, 32, 110, 117, 109, 98, 101, 114, 32, 111, 102, 32, 97, 114, 103, 117, 109, 101, 110, 116, 115, 58, 32]
def fitsB (a : Int) (n : Nat) : Bool := if a < 0 then decide (-a ≤ (n : Int)) else decide ((n : Int) = a)
def nameOf (l : List Tab.Bs) : Tab.Bs := l.headD []
def showN (l : Tab.Bs) : Tab.Bs := (l.take 32).map vis
def rowS (l : List Tab.Bs) : Sc × Tab.Bs :=
  if (fnd ((nameOf l).map low)).2 then
    if fitsB (fnd ((nameOf l).map low)).1.arity l.length then ((fnd ((nameOf l).map low)).1, []) else (noSc, art ++ (fnd ((nameOf l).map low)).1.name)
  else (noSc, unk ++ showN (nameOf l))
def checkS (l : List Tab.Bs) : Tab.Bs := (rowS l).2
theorem find_mem {s : Tab.Bs} {x : Rw} (h : findR s = some x) : x ∈ allRows ∧ x.name = s := by
  unfold findR at h
  exact ⟨List.mem_of_find?_eq_some h, eq_of_beq (by simpa using List.find?_some h)⟩
theorem fnd_ok (s : Tab.Bs) : ((fnd s).2 = true ∧ okB (fnd s).1 = true) ∨ ((fnd s).2 = false ∧ (fnd s).1 = noSc) := by
  unfold fnd
  cases h : findR s with
  | none => exact .inr ⟨rfl, rfl⟩
  | some x => exact .inl ⟨rfl, List.all_eq_true.1 all_ok x (find_mem h).1⟩
theorem ok_of {r : Sc} (h : okB r = true) : -5 ≤ r.arity ∧ r.arity ≤ 5 ∧ r.arity ≠ 0 ∧ 0 ≤ r.first ∧ r.first ≤ 2 ∧ -1 ≤ r.last ∧ r.last ≤ 2 ∧ 0 ≤ r.step ∧ r.step ≤ 2 ∧ r.name.length ≤ 32 ∧ 0 < r.name.length := of_decide_eq_true h
set_option maxRecDepth 100000 in
theorem fits_call (a : Int) (n : Nat) (w : World) (h : -5 ≤ a ∧ a ≤ 5) (hn : n < 9223372036854775808) : Calls Tryz.prog 64 #[.int .i64 a, .int .i64 (n : Int)] w fun e w' => e = .returned (.bool (fitsB a n)) ∧ w' = w := by
  unfold fitsB
  have e1 : IntKind.i64.wrap (-a) = -a := IntWalk.i64_in _ (by omega)
  by_cases hq : a < 0
  · rw [if_pos hq]
    go_enter Tryz.func64, Tryz.ntmps64
    go_wp2_with fail
    go_ret
    exact ⟨rfl, rfl⟩
  · rw [if_neg hq]
    go_enter Tryz.func64, Tryz.ntmps64
    go_wp2_with fail
    go_ret
    exact ⟨ret_b (by by_cases q : (n : Int) = a <;> simp [q]), rfl⟩
def rowV (l : List Tab.Bs) : Value := .tuple #[valS (rowS l).1, .string (mk (rowS l).2)]
theorem res_row {W : World} {T : Nat} {r : Sc} {x : ByteArray} {tm : Array Value} (h1 : W.heap[T]? = some (.cells (cellsS r).toArray 102 (0, 0)))
    (e2 : tm[2]?.getD undef = .pointer (some ⟨T, 0, none⟩) := by rfl) (e3 : tm[3]?.getD undef = .string x := by rfl) : (results Tryz.f36 tm).run Tryz.prog W = .ok (.tuple #[valS r, .string x]) W := by
  have c0 : W.cell? ⟨T, 0, none⟩ = some (.string (mk r.name)) := Lib.cell_of_heap h1 0
  have c1 : W.cell? ⟨T, 1, none⟩ = some (.int .i64 r.arity) := Lib.cell_of_heap h1 1
  have c2 : W.cell? ⟨T, 2, none⟩ = some (.bool r.wr) := Lib.cell_of_heap h1 2
  have c3 : W.cell? ⟨T, 3, none⟩ = some (.bool r.ct) := Lib.cell_of_heap h1 3
  have c4 : W.cell? ⟨T, 4, none⟩ = some (.int .i64 r.first) := Lib.cell_of_heap h1 4
  have c5 : W.cell? ⟨T, 5, none⟩ = some (.int .i64 r.last) := Lib.cell_of_heap h1 5
  have c6 : W.cell? ⟨T, 6, none⟩ = some (.int .i64 r.step) := Lib.cell_of_heap h1 6
  unfold valS cellsS
  simp [results, Tryz.results36, go_sem, e2, e3, c0, c1, c2, c3, c4, c5, c6]
theorem res_row_d {W : World} {T : Nat} {r : Sc} {x : ByteArray} {tm : Array Value} (h1 : W.heap[T]? = some (.cells (cellsS r).toArray 102 (0, 0)))
    (e2 : tm[2]?.getD undef = .pointer (some ⟨T, 0, none⟩)) (e3 : tm[3]?.getD undef = .string x) : (results Tryz.f36 tm).run Tryz.prog W.drew = .ok (.tuple #[valS r, .string x]) W.drew := res_row (W := W.drew) h1 e2 e3
theorem box7 {W : World} {T : Nat} {r : Sc} (h : W.heap[T]? = some (.cells (cellsS r).toArray 102 (0, 0))) :
    (W.cell? ⟨T, 0, none⟩ = some (.string (mk r.name)) ∧ W.cell? ⟨T, 1, none⟩ = some (.int .i64 r.arity) ∧ W.cell? ⟨T, 2, none⟩ = some (.bool r.wr) ∧ W.cell? ⟨T, 3, none⟩ = some (.bool r.ct) ∧ W.cell? ⟨T, 4, none⟩ = some (.int .i64 r.first) ∧ W.cell? ⟨T, 5, none⟩ = some (.int .i64 r.last) ∧ W.cell? ⟨T, 6, none⟩ = some (.int .i64 r.step)) ∧
    (W.frozen? ⟨T, 0, none⟩ = false ∧ W.frozen? ⟨T, 1, none⟩ = false ∧ W.frozen? ⟨T, 2, none⟩ = false ∧ W.frozen? ⟨T, 3, none⟩ = false ∧ W.frozen? ⟨T, 4, none⟩ = false ∧ W.frozen? ⟨T, 5, none⟩ = false ∧ W.frozen? ⟨T, 6, none⟩ = false) :=
  ⟨⟨Lib.cell_of_heap h 0, Lib.cell_of_heap h 1, Lib.cell_of_heap h 2, Lib.cell_of_heap h 3, Lib.cell_of_heap h 4, Lib.cell_of_heap h 5, Lib.cell_of_heap h 6⟩, Lib.frozen_of_heap h 0, Lib.frozen_of_heap h 1, Lib.frozen_of_heap h 2, Lib.frozen_of_heap h 3, Lib.frozen_of_heap h 4, Lib.frozen_of_heap h 5, Lib.frozen_of_heap h 6⟩
theorem add_str (a b : Tab.Bs) : (mk a) ++ (mk b) = mk (a ++ b) := by
  apply ByteArray.ext
  simp [mk]
/- behind the choice of the name: the walk from Find on is one text for both -/
set_option maxHeartbeats 4000000 in
set_option maxRecDepth 100000 in
theorem rowOf_call {G : Nat → Prop} {w : World} {v : Value} {l : List Tab.Bs} (h : SL G w v l) (hl : l.length < 9223372036854775808) (hb : ∀ x ∈ l, x.length < 9223372036854775808) :
    Calls Tryz.prog 36 #[v] w fun e w' => e = .returned (rowV l) ∧ Below w.heap.size w w' := by
  obtain ⟨a, c, rfl, hc, hr⟩ := h
  obtain ⟨n, hn⟩ : ∃ n, n = nameOf l := ⟨_, rfl⟩
  have hnl : n.length < 9223372036854775808 := by
    rw [hn]; unfold nameOf
    cases l with
    | nil => simp
    | cons x r => exact hb x (by simp)
  obtain ⟨r, b, hrb⟩ : ∃ r b, fnd (n.map low) = (r, b) := ⟨_, _, rfl⟩
  have HF : Hid (∀ w, Calls Tryz.prog 62 #[.string (mk n)] w fun e w' => e = .returned (.tuple #[.agg #[.string (mk r.name), .int .i64 r.arity, .bool r.wr, .bool r.ct, .int .i64 r.first, .int .i64 r.last, .int .i64 r.step], .bool b]) ∧ Below w.heap.size w w') := hid_of fun w => by
    have := find_call n w hnl
    unfold findV at this
    rw [hrb] at this
    exact this
  have HS := hid_of (fun w => shown_call n w hnl)
  have hok := fnd_ok (n.map low)
  rw [hrb] at hok
  have HV : Hid (rowS l = if b then (if fitsB r.arity l.length then (r, []) else (noSc, art ++ r.name)) else (noSc, unk ++ showN n)) := hid_of (by
    unfold rowS
    rw [← hn, hrb])
  obtain ⟨N, HN⟩ : ∃ N, Hid (N = mk n) := ⟨_, hid_of rfl⟩
  rw [← HN.out] at HF HS
  have hcell : 0 < l.length → ∃ g o, a = some ⟨g, o, none⟩ ∧ ∀ V, Below w.heap.size w V → V.cell? ⟨g, o, none⟩ = some (.string N) := fun hp => by
    obtain ⟨g, o, rfl, _, q⟩ := Rd.get hr hp
    cases l with
    | nil => simp at hp
    | cons x t =>
      have hx := q 0 x rfl
      refine ⟨g, o, rfl, fun V bV => ?_⟩
      rw [HN.out, hn]
      exact (bV.cell (p := ⟨g, o, none⟩) (cell_lt hx)).trans hx
  have hempty : l.length = 0 → N = ⟨#[]⟩ := fun h0 => by
    rw [HN.out, hn, List.length_eq_zero_iff.1 h0]; rfl
  obtain ⟨L, HL⟩ : ∃ L, Hid (L = l.length) := ⟨_, hid_of rfl⟩
  rw [← HL.out] at hl hcell hempty HV
  rw [← HL.out]
  have HRV : Hid (rowV l = .tuple #[valS (rowS l).1, .string (mk (rowS l).2)]) := hid_of rfl
  clear hr hc hb hnl hrb hn
  have b0 : Below w.heap.size w (w.alloc (.cells #[.string ⟨#[]⟩, .int .i64 0, .bool false, .bool false, .int .i64 0, .int .i64 0, .int .i64 0] 102)) := (Below.refl _ w).alloc (Nat.le_refl _) _
  have HB0 := hid_of b0
  obtain ⟨T, hT⟩ : ∃ T, T = w.heap.size := ⟨_, rfl⟩
  have HZ : Hid ((w.alloc (.cells #[.string ⟨#[]⟩, .int .i64 0, .bool false, .bool false, .int .i64 0, .int .i64 0, .int .i64 0] 102)).heap[T]? = some (.cells (cellsS noSc).toArray 102 (0, 0))) := hid_of (by rw [hT]; exact heap_alloc_new w _)
  have HT := hid_of hT
  clear b0 hT
  rcases Nat.eq_zero_or_pos L with hp | hp
  · subst hp
    have hN0 := hempty rfl
    subst hN0
    clear hcell hempty
    go_enter Tryz.func36, Tryz.ntmps36
    go_wp2_with fail
    refine (HF.out _).mono ?_
    rintro e w1 ⟨rfl, b1⟩
    have hbw1 : Below w.heap.size w w1 := HB0.out.trans (b1.mono HB0.out.size)
    have ht1 : w1.heap[T]? = some (.cells (cellsS noSc).toArray 102 (0, 0)) := (b1.block _ (lt_of HZ.out)).trans HZ.out
    obtain ⟨w2, hw2⟩ : ∃ w2, w2 = w1.alloc (.cells #[.string (mk r.name), .int .i64 r.arity, .bool r.wr, .bool r.ct, .int .i64 r.first, .int .i64 r.last, .int .i64 r.step] 102) := ⟨_, rfl⟩
    have b2 : Below w1.heap.size w1 w2 := by rw [hw2]; exact (Below.refl _ w1).alloc (Nat.le_refl _) _
    have hr2 : w2.heap[w1.heap.size]? = some (.cells (cellsS r).toArray 102 (0, 0)) := by rw [hw2]; exact heap_alloc_new w1 _
    have ht2 := (b2.block _ (lt_of ht1)).trans ht1
    have hbw2 := hbw1.trans (b2.mono hbw1.size)
    have HR2 := hid_of hr2
    have HT2 := hid_of ht2
    have HBW := hid_of hbw2
    have HW2 := hid_of hw2
    have HLT : Hid (T < w1.heap.size) := hid_of (lt_of ht1)
    rw [← HT.out]
    obtain ⟨R, hR⟩ : ∃ R, R = w1.heap.size := ⟨_, rfl⟩
    have HR := hid_of hR
    rw [← hR] at HR2 HLT
    clear hw2 b1 b2 hbw1 ht1 hr2 ht2 hbw2 hR
    cases b with
    | false =>
      go_wp2_with fail
      rw [← HW2.out, ← HR.out]
      refine (HS.out _).mono ?_
      rintro e w3 ⟨rfl, b3⟩
      have ht3 := (b3.block _ (lt_of HT2.out)).trans HT2.out
      obtain ⟨⟨t0, t1, t2, t3, t4, t5, t6⟩, f0, f1, f2, f3, f4, f5, f6⟩ := box7 ht3
      unfold noSc at t0 t1 t2 t3 t4 t5 t6
      dsimp only at t0 t1 t2 t3 t4 t5 t6
      rw [show mk [] = ⟨#[]⟩ from rfl] at t0
      have HB3 := hid_of (HBW.out.trans (b3.mono HBW.out.size))
      have HT3 := hid_of ht3
      obtain ⟨S, hS⟩ : ∃ S, S = mk ((n.take 32).map vis) := ⟨_, rfl⟩
      have hsz : S.size ≤ 32 := by rw [hS, mk_size, List.length_map, List.length_take]; omega
      rw [← hS]
      have HSS := hid_of hS
      clear hS b3 ht3
      go_wp2_with fail
      have hbF := set7_below (T := T) HB3.out (by rw [HT.out]; exact Nat.le_refl _) (.string ⟨#[]⟩) (.int .i64 0) (.bool false) (.bool false) (.int .i64 0) (.int .i64 0) (.int .i64 0)
      have hfin := set7_at HT3.out rfl (.string ⟨#[]⟩) (.int .i64 0) (.bool false) (.bool false) (.int .i64 0) (.int .i64 0) (.int .i64 0)
      refine ⟨rfl, rowV l, ?_, rfl, hbF⟩
      rw [HRV.out, HV.out]
      exact (res_row (r := noSc) (x := mk (unk ++ showN n)) hfin rfl (by rw [← add_str, show mk (showN n) = S from HSS.out.symm]; rfl))
    | true =>
      have hq := ok_of (hok.resolve_right (fun q => by cases q.1)).2
      obtain ⟨⟨d0, d1, d2, d3, d4, d5, d6⟩, k0, k1, k2, k3, k4, k5, k6⟩ := box7 HR2.out
      obtain ⟨⟨t0, t1, t2, t3, t4, t5, t6⟩, f0, f1, f2, f3, f4, f5, f6⟩ := box7 HT2.out
      unfold noSc at t0 t1 t2 t3 t4 t5 t6
      dsimp only at t0 t1 t2 t3 t4 t5 t6
      rw [show mk [] = ⟨#[]⟩ from rfl] at t0
      have HFi := hid_of (fits_call r.arity 0 w2 ⟨hq.1, hq.2.1⟩ (by omega))
      have HOK := hid_of hq
      clear hq hok
      obtain ⟨NM, hNM⟩ : ∃ NM, NM = mk r.name := ⟨_, rfl⟩
      have hsz : NM.size ≤ 32 := by rw [hNM, mk_size]; exact HOK.out.2.2.2.2.2.2.2.2.2.1
      rw [← hNM] at d0 ⊢
      have HNM := hid_of hNM
      rw [← hNM] at HW2
      have ne : T ≠ R := by have := HLT.out; omega
      obtain ⟨fb, hfb⟩ : ∃ fb, fb = fitsB r.arity 0 := ⟨_, rfl⟩
      rw [← hfb] at HFi HV
      clear hNM hfb
      cases fb with
      | true =>
        go_wp2_with fail
        rw [← HW2.out, ← HR.out]
        refine HFi.out.mono ?_
        rintro e w3 ⟨rfl, hw3⟩
        rw [hw3]
        clear hw3 w3
        go_wp2_with fail
        have hbF := set7_below (T := T) HBW.out (by rw [HT.out]; exact Nat.le_refl _) (.string NM) (.int .i64 r.arity) (.bool r.wr) (.bool r.ct) (.int .i64 r.first) (.int .i64 r.last) (.int .i64 r.step)
        have hfin := set7_at HT2.out rfl (.string NM) (.int .i64 r.arity) (.bool r.wr) (.bool r.ct) (.int .i64 r.first) (.int .i64 r.last) (.int .i64 r.step)
        refine ⟨rfl, rowV l, ?_, rfl, hbF⟩
        rw [HRV.out, HV.out]
        rw [HNM.out] at hfin ⊢
        exact res_row (r := r) (x := mk []) hfin
      | false =>
        go_wp2_with fail
        rw [← HW2.out, ← HR.out]
        refine HFi.out.mono ?_
        rintro e w3 ⟨rfl, hw3⟩
        rw [hw3]
        clear hw3 w3
        go_wp2_with fail
        go_region
        go_wp2_with fail
        have hbF := set7_below (T := T) HBW.out (by rw [HT.out]; exact Nat.le_refl _) (.string ⟨#[]⟩) (.int .i64 0) (.bool false) (.bool false) (.int .i64 0) (.int .i64 0) (.int .i64 0)
        have hfin := set7_at HT2.out rfl (.string ⟨#[]⟩) (.int .i64 0) (.bool false) (.bool false) (.int .i64 0) (.int .i64 0) (.int .i64 0)
        refine ⟨rfl, rowV l, ?_, rfl, hbF.drew⟩
        rw [HRV.out, HV.out]
        have hx : mk (art ++ r.name) = ⟨#[69, 82, 82, 32, 119, 114, 111, 110, 103, 32, 110, 117, 109, 98, 101, 114, 32, 111, 102, 32, 97, 114, 103, 117, 109, 101, 110, 116, 115, 58, 32]⟩ ++ NM := by rw [← add_str, HNM.out]; rfl
        show _ = Result.ok (Value.tuple #[valS noSc, .string (mk (art ++ r.name))]) _
        rw [hx]
        exact res_row_d (r := noSc) hfin rfl rfl
  · obtain ⟨g, o, rfl, hq⟩ := hcell hp
    have c0 := hq _ HB0.out
    clear hq hempty
    go_enter Tryz.func36, Tryz.ntmps36
    go_wp2_with fail
    refine (HF.out _).mono ?_
    rintro e w1 ⟨rfl, b1⟩
    have hbw1 : Below w.heap.size w w1 := HB0.out.trans (b1.mono HB0.out.size)
    have ht1 : w1.heap[T]? = some (.cells (cellsS noSc).toArray 102 (0, 0)) := (b1.block _ (lt_of HZ.out)).trans HZ.out
    obtain ⟨w2, hw2⟩ : ∃ w2, w2 = w1.alloc (.cells #[.string (mk r.name), .int .i64 r.arity, .bool r.wr, .bool r.ct, .int .i64 r.first, .int .i64 r.last, .int .i64 r.step] 102) := ⟨_, rfl⟩
    have b2 : Below w1.heap.size w1 w2 := by rw [hw2]; exact (Below.refl _ w1).alloc (Nat.le_refl _) _
    have hr2 : w2.heap[w1.heap.size]? = some (.cells (cellsS r).toArray 102 (0, 0)) := by rw [hw2]; exact heap_alloc_new w1 _
    have ht2 := (b2.block _ (lt_of ht1)).trans ht1
    have hbw2 := hbw1.trans (b2.mono hbw1.size)
    have HR2 := hid_of hr2
    have HT2 := hid_of ht2
    have HBW := hid_of hbw2
    have HW2 := hid_of hw2
    have HLT : Hid (T < w1.heap.size) := hid_of (lt_of ht1)
    rw [← HT.out]
    obtain ⟨R, hR⟩ : ∃ R, R = w1.heap.size := ⟨_, rfl⟩
    have HR := hid_of hR
    rw [← hR] at HR2 HLT
    clear hw2 b1 b2 hbw1 ht1 hr2 ht2 hbw2 hR
    cases b with
    | false =>
      go_wp2_with fail
      rw [← HW2.out, ← HR.out]
      refine (HS.out _).mono ?_
      rintro e w3 ⟨rfl, b3⟩
      have ht3 := (b3.block _ (lt_of HT2.out)).trans HT2.out
      obtain ⟨⟨t0, t1, t2, t3, t4, t5, t6⟩, f0, f1, f2, f3, f4, f5, f6⟩ := box7 ht3
      unfold noSc at t0 t1 t2 t3 t4 t5 t6
      dsimp only at t0 t1 t2 t3 t4 t5 t6
      rw [show mk [] = ⟨#[]⟩ from rfl] at t0
      have HB3 := hid_of (HBW.out.trans (b3.mono HBW.out.size))
      have HT3 := hid_of ht3
      obtain ⟨S, hS⟩ : ∃ S, S = mk ((n.take 32).map vis) := ⟨_, rfl⟩
      have hsz : S.size ≤ 32 := by rw [hS, mk_size, List.length_map, List.length_take]; omega
      rw [← hS]
      have HSS := hid_of hS
      clear hS b3 ht3
      go_wp2_with fail
      have hbF := set7_below (T := T) HB3.out (by rw [HT.out]; exact Nat.le_refl _) (.string ⟨#[]⟩) (.int .i64 0) (.bool false) (.bool false) (.int .i64 0) (.int .i64 0) (.int .i64 0)
      have hfin := set7_at HT3.out rfl (.string ⟨#[]⟩) (.int .i64 0) (.bool false) (.bool false) (.int .i64 0) (.int .i64 0) (.int .i64 0)
      refine ⟨rfl, rowV l, ?_, rfl, hbF⟩
      rw [HRV.out, HV.out]
      exact (res_row (r := noSc) (x := mk (unk ++ showN n)) hfin rfl (by rw [← add_str, show mk (showN n) = S from HSS.out.symm]; rfl))
    | true =>
      have hq := ok_of (hok.resolve_right (fun q => by cases q.1)).2
      obtain ⟨⟨d0, d1, d2, d3, d4, d5, d6⟩, k0, k1, k2, k3, k4, k5, k6⟩ := box7 HR2.out
      obtain ⟨⟨t0, t1, t2, t3, t4, t5, t6⟩, f0, f1, f2, f3, f4, f5, f6⟩ := box7 HT2.out
      unfold noSc at t0 t1 t2 t3 t4 t5 t6
      dsimp only at t0 t1 t2 t3 t4 t5 t6
      rw [show mk [] = ⟨#[]⟩ from rfl] at t0
      have HFi := hid_of (fits_call r.arity L w2 ⟨hq.1, hq.2.1⟩ (by omega))
      have HOK := hid_of hq
      clear hq hok
      obtain ⟨NM, hNM⟩ : ∃ NM, NM = mk r.name := ⟨_, rfl⟩
      have hsz : NM.size ≤ 32 := by rw [hNM, mk_size]; exact HOK.out.2.2.2.2.2.2.2.2.2.1
      rw [← hNM] at d0 ⊢
      have HNM := hid_of hNM
      rw [← hNM] at HW2
      have ne : T ≠ R := by have := HLT.out; omega
      obtain ⟨fb, hfb⟩ : ∃ fb, fb = fitsB r.arity L := ⟨_, rfl⟩
      rw [← hfb] at HFi HV
      clear hNM hfb
      cases fb with
      | true =>
        go_wp2_with fail
        rw [← HW2.out, ← HR.out]
        refine HFi.out.mono ?_
        rintro e w3 ⟨rfl, hw3⟩
        rw [hw3]
        clear hw3 w3
        go_wp2_with fail
        have hbF := set7_below (T := T) HBW.out (by rw [HT.out]; exact Nat.le_refl _) (.string NM) (.int .i64 r.arity) (.bool r.wr) (.bool r.ct) (.int .i64 r.first) (.int .i64 r.last) (.int .i64 r.step)
        have hfin := set7_at HT2.out rfl (.string NM) (.int .i64 r.arity) (.bool r.wr) (.bool r.ct) (.int .i64 r.first) (.int .i64 r.last) (.int .i64 r.step)
        refine ⟨rfl, rowV l, ?_, rfl, hbF⟩
        rw [HRV.out, HV.out]
        rw [HNM.out] at hfin ⊢
        exact res_row (r := r) (x := mk []) hfin
      | false =>
        go_wp2_with fail
        rw [← HW2.out, ← HR.out]
        refine HFi.out.mono ?_
        rintro e w3 ⟨rfl, hw3⟩
        rw [hw3]
        clear hw3 w3
        go_wp2_with fail
        go_region
        go_wp2_with fail
        have hbF := set7_below (T := T) HBW.out (by rw [HT.out]; exact Nat.le_refl _) (.string ⟨#[]⟩) (.int .i64 0) (.bool false) (.bool false) (.int .i64 0) (.int .i64 0) (.int .i64 0)
        have hfin := set7_at HT2.out rfl (.string ⟨#[]⟩) (.int .i64 0) (.bool false) (.bool false) (.int .i64 0) (.int .i64 0) (.int .i64 0)
        refine ⟨rfl, rowV l, ?_, rfl, hbF.drew⟩
        rw [HRV.out, HV.out]
        have hx : mk (art ++ r.name) = ⟨#[69, 82, 82, 32, 119, 114, 111, 110, 103, 32, 110, 117, 109, 98, 101, 114, 32, 111, 102, 32, 97, 114, 103, 117, 109, 101, 110, 116, 115, 58, 32]⟩ ++ NM := by rw [← add_str, HNM.out]; rfl
        show _ = Result.ok (Value.tuple #[valS noSc, .string (mk (art ++ r.name))]) _
        rw [hx]
        exact res_row_d (r := noSc) hfin rfl rfl
end Go.Proofs.YtminfpkigenahaaGreatDoor.RowOf
end
section
namespace Go.Proofs.YtminfpkigenahaaGreatDoor.Chk
open Go.RowKit
open Go.Proofs.YtminfpkigenahaaGreatDoor.Tab
open Go.Proofs.YtminfpkigenahaaGreatDoor.Base
open Go.Proofs.YtminfpkigenahaaGreatDoor.Low
open Go.Proofs.YtminfpkigenahaaGreatDoor.FindP
open Go.Proofs.YtminfpkigenahaaGreatDoor.FindC
open Go.Proofs.YtminfpkigenahaaGreatDoor.RowOf
open Go.Proofs.YtminfpkigenahaaGreatDoor.RowsL (valS cellsS)
attribute [local go_sem] Oper.semAt_some
set_option linter.unusedVariables false
set_option linter.unusedSimpArgs false
set_option maxRecDepth 100000 in
theorem check_call {G : Nat → Prop} {w : World} {v : Value} {l : List Tab.Bs} (h : SL G w v l) (hl : l.length < 9223372036854775808) (hb : ∀ x ∈ l, x.length < 9223372036854775808) :
    Calls Tryz.prog 28 #[v] w fun e w' => e = .returned (.string (mk (checkS l))) ∧ Below w.heap.size w w' := by
  have HR := hid_of (rowOf_call h hl hb)
  unfold rowV valS cellsS at HR
  have HC : Hid (checkS l = (rowS l).2) := hid_of rfl
  rw [HC.out]
  obtain ⟨a, c, rfl, _⟩ := h
  clear hb hl
  generalize (rowS l).1 = r at *
  generalize (rowS l).2 = x at *
  go_enter Tryz.func28, Tryz.ntmps28
  go_wp2_with fail
  refine HR.out.mono ?_
  rintro e w1 ⟨rfl, b1⟩
  have HB := hid_of b1
  clear b1
  go_wp2_with fail
  go_ret
  exact ⟨rfl, HB.out.alloc HB.out.size _⟩
end Go.Proofs.YtminfpkigenahaaGreatDoor.Chk
end
section
namespace Go.Proofs.YtminfpkigenahaaGreatDoor.KRun
open Go.RowKit Go.Maps
open Go.Proofs.YtminfpkigenahaaGreatDoor.SpaceMath
open Go.Proofs.YtminfpkigenahaaGreatDoor.Base (mk mk_list mk_size Gr hid_of SL)
open Go.Proofs.YtminfpkigenahaaGreatDoor.Turn
open Go.Proofs.YtminfpkigenahaaGreatDoor.Vals
open Go.Proofs.YtminfpkigenahaaGreatDoor.SBase
open Go.Proofs.YtminfpkigenahaaGreatDoor.SFind (alb)
open Go.Proofs.YtminfpkigenahaaGreatDoor.Swap (law9 key9)
open Go.Proofs.YtminfpkigenahaaGreatDoor.KCmd
open Go.Proofs.YtminfpkigenahaaGreatDoor.KMap (fnV cmdL commands_call)
open Go.Proofs.YtminfpkigenahaaGreatDoor.Low (low)
open Go.Proofs.YtminfpkigenahaaGreatDoor.RowOf (checkS)
set_option linter.unusedVariables false
set_option linter.unusedSimpArgs false
theorem zeroC (w : World) : (zeroValue 78).run Tryz.prog w = .ok .nilFunc w := by kernel_rfl
theorem look_cmd {W : World} {m : Nat} (own : W.ownsMap Tryz.prog 9 RH m cmdL.length (toD cmdL)) (nm : Base.El) (hk : nm.length ≤ 281474976710656) :
    (Instr.lookup 80 (.map (some m)) (.string (mk nm)) true).run Tryz.prog W = .ok (.tuple #[(lkp cmdL nm).getD .nilFunc, .bool (lkp cmdL nm).isSome]) W := by
  obtain ⟨v, ps, hrun, hv⟩ := own.look_ok law9 Tryz.underlying80 (zeroC W) (zd := .held .nilFunc) (zp := []) rfl (key9 nm hk)
  have hv' : RH v = some (.held ((lkp cmdL nm).getD .nilFunc), ps) := by rw [hv]; exact congrArg (fun d => some (d, ps)) (at_D cmdL nm _)
  have e := RH_inv hv'
  have eh : Maps.has (toD cmdL) (RowB.lS nm) = (lkp cmdL nm).isSome := has_D cmdL nm
  rw [eh, e] at hrun
  exact hrun
theorem own_low {W W' : World} {m n : Nat} {D : DataW Value} (h : W.ownsMap Tryz.prog 9 RH m n D) (b : Below W.heap.size W W') : W'.ownsMap Tryz.prog 9 RH m n D := by
  obtain ⟨es, c, q, r⟩ := h
  exact ⟨es, c, (b.block m (lt_of q)).trans q, r⟩
theorem cmds_call (w : World) : Calls Tryz.prog 29 #[] w fun e w' => ∃ m, e = .returned (.map (some m)) ∧ w'.ownsMap Tryz.prog 9 RH m cmdL.length (toD cmdL) ∧ Below w.heap.size w w' := (commands_call w).mono fun e w' ⟨h1, h2, h3⟩ => ⟨_, h1, h2, h3⟩
def Ent (K : Nat) : Prop := ∀ args w, (callFunc K args).run Tryz.prog w = .ok (.enter K args) w
theorem dn_pre {F X : Nat → Prop} {b : Nat} {w V w1 : World} {S' : Sp} (hb : Below w.heap.size w V) (h : Dn F (fun k => X k ∨ KCmd.Tmp w V k) b V w1 S') : Dn F (fun k => X k ∨ KCmd.Tmp w V k) b V w1 S' := h
theorem tail_cut {G : Nat → Prop} {w : World} {ga oa n c : Nat} {l : List Base.El} (h : SL G w (.slice (some ⟨ga, oa, none⟩) n c) l) (h0 : 0 < l.length) : ∃ a', SL G w (.slice a' (n - 1) (c - 1)) l.tail ∧ ∀ W : World, (Instr.slice 26 (.slice (some ⟨ga, oa, none⟩) n c) (some (.int .i64 1)) none none).run Tryz.prog W = .ok (.slice a' (n - 1) (c - 1)) W := by
  obtain ⟨a0, c0, e, hc, hr⟩ := h
  injection e with e1 e2 e3
  subst e1 e2 e3
  refine ⟨Base.ca (some ⟨ga, oa, none⟩) c 1, ⟨_, _, by rw [List.length_tail], by rw [List.length_tail]; omega, ?_⟩, fun W => Base.cut_lo (some ⟨ga, oa, none⟩) l.length c 1 1 rfl (by omega) W⟩
  by_cases h1 : l.length = 1
  · refine .inl ?_
    cases l with
    | nil => rfl
    | cons x r => simp at h1; exact h1
  · obtain ⟨g, o, eg, hG, hcs⟩ := Base.Rd.get hr h0
    injection eg with eg
    injection eg with g1 g2
    subst g1 g2
    refine .inr ⟨ga, oa + 1, Base.ca_some _ _ _ _ (by omega), hG, fun j x hj => ?_⟩
    have : l[j + 1]? = some x := by rw [← hj]; cases l <;> simp
    rw [show oa + 1 + j = oa + (j + 1) by omega]
    exact hcs (j + 1) x this
section
variable {F X : Nat → Prop} {b : Nat} {w : World} {S S' : Sp}
set_option maxHeartbeats 8000000 in
set_option maxRecDepth 100000 in
theorem run_any (h : SP F X b w S) (now : Int) (hn0 : 0 ≤ now) (hnM : now ≤ 9007199254740992) {G : Nat → Prop} {a : Option Addr} {n c : Nat} {l : List Base.El} (hl : SL G w (.slice a n c) l) (hl0 : 0 < l.length) (hll : l.length < 9223372036854775808) (hbl : ∀ x ∈ l, x.length ≤ 281474976710656) (hch : checkS l = [])
    (f : FuncId) (hf : lkp cmdL (l[0].map low) = some (fnV f)) (hent : Ent f) (rk : Int) (rT : ByteArray) (rn : Int) (R : World → Option Addr → Nat → Nat → World → Prop) (R' : Option Addr → Nat → Nat → World → Prop)
    (hR : ∀ V la ln lc w1 w2, Below w.heap.size w V → R V la ln lc w1 → Ev (KCmd.Tmp w V) w1 w2 → R' la ln lc w2)
    (hc : ∀ V a' c', Below w.heap.size w V → SL G V (.slice a' (n - 1) c') l.tail → Calls Tryz.prog f #[cV b now a' (n - 1) c'] V fun e w' => ∃ la ln lc, e = .returned (.agg #[.int .i64 rk, .string rT, .int .i64 rn, .slice la ln lc]) ∧ R V la ln lc w' ∧ Dn F (fun k => X k ∨ KCmd.Tmp w V k) b V w' S') :
    Calls Tryz.prog 17 #[ptr b, .int .i64 now, .slice a n c] w fun e w' => ∃ la ln lc, e = .returned (.tuple #[.agg #[.int .i64 rk, .string rT, .int .i64 rn, .slice la ln lc], .bool true]) ∧ R' la ln lc w' ∧ Dn F X b w w' S' := by
  obtain ⟨W, hW⟩ : ∃ W, W = w.alloc (rO 0 ⟨#[]⟩ 0 (.slice none 0 0)) := ⟨_, rfl⟩
  have bW : Below w.heap.size w W := by rw [hW]; exact alb _ _
  have HX := hid_of (show W.heap[w.heap.size]? = some (rO 0 ⟨#[]⟩ 0 (.slice none 0 0)) by rw [hW]; exact heap_alloc_new w _)
  have HCk := hid_of (Chk.check_call (hl.below bW) hll (fun x hx => Nat.lt_of_le_of_lt (hbl x hx) (by decide)))
  rw [hch, show mk ([] : List UInt8) = (⟨#[]⟩ : ByteArray) from rfl] at HCk
  have HC := hid_of fun V => cmds_call V
  have HL := hid_of fun V => Low.lower_call l[0] V (Nat.lt_of_le_of_lt (hbl _ (List.getElem_mem hl0)) (by decide))
  have HLk := hid_of fun (V : World) (m : Nat) (own : V.ownsMap Tryz.prog 9 RH m cmdL.length (toD cmdL)) => look_cmd own (l[0].map low) (by rw [List.length_map]; exact hbl _ (List.getElem_mem hl0))
  rw [hf] at HLk
  simp only [Option.getD_some, Option.isSome_some] at HLk
  obtain ⟨rfl, hcs⟩ := sl_get hl
  obtain ⟨ga, oa, rfl, hc0⟩ := hcs 0 hl0
  rw [Nat.add_zero] at hc0
  have hga : ga < w.heap.size := Base.cell_lt hc0
  have HG := hid_of (And.intro hga hc0)
  have em1 : max now 0 = now := by omega
  have em2 : min now 9007199254740992 = now := by omega
  have HH := hid_of h
  have HB := hid_of bW
  have HW := hid_of hW
  have HCC := hid_of hc
  have HSL := hid_of hl
  have HN0 := hid_of hl0
  have HRR := hid_of hR
  clear hW bW h hch hll hbl hf hc hl hcs hR
  generalize mk (l[0].map low) = NM at *
  generalize mk l[0] = N0 at *
  go_enter Tryz.func17, Tryz.ntmps17
  go_wp2_with fail
  rw [← HW.out]
  refine HCk.out.mono ?_
  rintro e w1 ⟨rfl, b1⟩
  have B1 := hid_of (FRow.bel HB.out b1 (Nat.le_refl _))
  have X1 := hid_of ((b1.block _ (lt_of HX.out)).trans HX.out)
  have hc1 := (B1.out.cell (p := ⟨ga, oa, none⟩) hga).trans hc0
  clear b1 HCk HX HB
  go_wp2_with fail
  have hg1 : ga < w1.heap.size := Base.cell_lt hc1
  have t0 : KCmd.Tmp w w1 w.heap.size := ⟨Nat.le_refl _, lt_of X1.out⟩
  go_cut [8, 9] (fun s8 s9 wx => s8 = fnV f ∧ s9 = .bool true ∧ Hid (Below w1.heap.size w1 wx))
  case first =>
    go_region_with (first
      | (go_at_call 29; refine (HC.out _).mono ?_; rintro e w3 ⟨m, rfl, hm, b3⟩; have B3 : Below w1.heap.size w1 w3 := FRow.bel (Below.refl _ w1).drew b3 (Nat.le_refl _); have HM := hid_of hm; have HB3 := hid_of B3; have hc3 := (B3.cell (p := ⟨ga, oa, none⟩) (Base.cell_lt hc1)).trans hc1; have hg3 : ga < w3.heap.size := Base.cell_lt hc3; clear hm)
      | (go_at_call 30; refine (HL.out _).mono ?_; rintro e w4 ⟨rfl, b4⟩; have B4 := hid_of (FRow.bel HB3.out b4 (Nat.le_refl _)); have k4 := HLk.out w4 _ (own_low HM.out b4)))
    all_goals
      go_wp2_with fail
      go_meet
      case rel => exact ⟨rfl, rfl, B4⟩
  case rest =>
    obtain ⟨rfl, rfl, HQ⟩ := hcut
    have HBw := hid_of (FRow.bel B1.out HQ.out (Nat.le_refl _))
    have XR := hid_of ((HQ.out.block _ t0.2).trans X1.out)
    obtain ⟨cut, hcut'⟩ := tail_cut HSL.out HN0.out
    have t1 : KCmd.Tmp w wc w.heap.size := ⟨Nat.le_refl _, lt_of XR.out⟩
    have HCD := hid_of (HCC.out wc _ (c - 1) HBw.out (hcut'.1.below HBw.out))
    have hcu := hcut'.2
    unfold Ent at hent
    clear HC HL HLk HQ X1 hcut' HCC hc1 hga hg1
    unfold fnV
    go_wp2_with (first | (go_at_fn f; refine HCD.out.mono ?_; rintro e w5 ⟨la, ln, lc, rfl, r5, d5⟩; have D5 := hid_of d5; have R5 := hid_of r5; have z5 := (dn_block HH.out HBw.out D5.out t1).trans XR.out; have Z5 := hid_of z5; obtain ⟨⟨v0, v1, v2, v3⟩, fv⟩ := box4 z5; have fv0 := fv 0; have fv1 := fv 1; have fv2 := fv 2; have fv3 := fv 3; clear fv z5 d5 r5))
    have hz := fin4_at Z5.out (.int .i64 rk) (.string rT) (.int .i64 rn) (.slice la ln lc)
    have hev := ev_fin4 (w := w) (W := wc) (w1 := w5) t1 (.int .i64 rk) (.string rT) (.int .i64 rn) (.slice la ln lc)
    have hdn := dn_tmp HH.out HBw.out D5.out hev
    have hrr := HRR.out _ _ _ _ _ _ HBw.out R5.out hev
    unfold fin4 at hz hdn hrr
    obtain ⟨⟨g0, g1, g2, g3⟩, -⟩ := box4 hz
    exact bodyPost_ret (v := .tuple #[.agg #[.int .i64 rk, .string rT, .int .i64 rn, .slice la ln lc], .bool true]) (by simp [results, Tryz.results17, go_sem, Act.put, g0, g1, g2, g3]) rfl ⟨la, ln, lc, rfl, hrr, hdn⟩
/-- a command that answers no list -/
theorem run_do (h : SP F X b w S) (now : Int) (hn0 : 0 ≤ now) (hnM : now ≤ 9007199254740992) {G : Nat → Prop} {a : Option Addr} {n c : Nat} {l : List Base.El} (hl : SL G w (.slice a n c) l) (hl0 : 0 < l.length) (hll : l.length < 9223372036854775808) (hbl : ∀ x ∈ l, x.length ≤ 281474976710656) (hch : checkS l = [])
    (f : FuncId) (hf : lkp cmdL (l[0].map low) = some (fnV f)) (hent : Ent f) (rk : Int) (rT : ByteArray) (rn : Int)
    (hc : ∀ V a' c', Below w.heap.size w V → SL G V (.slice a' (n - 1) c') l.tail → Calls Tryz.prog f #[cV b now a' (n - 1) c'] V fun e w' => e = .returned (rp rk rT rn) ∧ Dn F (fun k => X k ∨ KCmd.Tmp w V k) b V w' S') :
    Calls Tryz.prog 17 #[ptr b, .int .i64 now, .slice a n c] w fun e w' => e = .returned (.tuple #[rp rk rT rn, .bool true]) ∧ Dn F X b w w' S' :=
  (run_any h now hn0 hnM hl hl0 hll hbl hch f hf hent rk rT rn (fun _ la ln lc _ => la = none ∧ ln = 0 ∧ lc = 0) (fun la ln lc _ => la = none ∧ ln = 0 ∧ lc = 0) (fun _ _ _ _ _ _ _ h _ => h)
    (fun V a' c' hV hs => (hc V a' c' hV hs).mono fun e w' ⟨h1, h2⟩ => ⟨none, 0, 0, h1, ⟨rfl, rfl, rfl⟩, h2⟩)).mono fun e w' ⟨la, ln, lc, h1, h2, h3⟩ => by
      obtain ⟨rfl, rfl, rfl⟩ := h2
      exact ⟨h1, h3⟩
end
end Go.Proofs.YtminfpkigenahaaGreatDoor.KRun
end
