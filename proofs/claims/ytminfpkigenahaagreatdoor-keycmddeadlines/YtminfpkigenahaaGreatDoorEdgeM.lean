/- The places of a row at which the next entry may stand: a thing that container/heap moves. The places of a row: Pop, Push, Swap; the thing. The places of a row as a thing; reach. The first of a heap is least. -/
import Derived.Test.YtminfpkigenahaaGreatDoorCallRowSM
import Derived.Test.YtminfpkigenahaaGreatDoorKDumpM
import Derived.Deep.RegionHeld3
import Derived.Deep.AppendSrc
import Derived.Deep.DeepAppendWide
import Derived.Test.YtminfpkigenahaaGreatDoorPushRM
import Derived.BigRegion
import Derived.Deep.RegionLaw
section
namespace Go.Proofs.YtminfpkigenahaaGreatDoor.Edge
open Go.RowKit Go.Maps
open Go.Proofs.YtminfpkigenahaaGreatDoor.HeapMath
open Go.Proofs.YtminfpkigenahaaGreatDoor.Heap
open Go.Proofs.YtminfpkigenahaaGreatDoor.Turn
open Go.Proofs.YtminfpkigenahaaGreatDoor.Before
open Go.Proofs.YtminfpkigenahaaGreatDoor.Base (mk mk_list)
open Go.Proofs.YtminfpkigenahaaGreatDoor.RowB
open Go.Proofs.YtminfpkigenahaaGreatDoor.ThingS
set_option linter.unusedVariables false
set_option linter.unusedSimpArgs false
/- by the entries that stand there -/
def ltP (l : Es) (p q : Nat) : Prop := ltS (pl l p) (pl l q)
instance (l : Es) : DecidableRel (ltP l) := fun p q => inferInstanceAs (Decidable (ltS (pl l p) (pl l q)))
theorem sto_p (l : Es) : STO (ltP l) := (ent_sto keysS).pull (pl l)
theorem cell_b {w w' : World} {p : Addr} {v : Value} (h : Below w.heap.size w w') (hc : w.cell? p = some v) : w'.cell? p = some v := (h.cell (block_lt_of_cell hc)).trans hc
abbrev iv (p : Nat) : Value := .int .i64 (p : Int)
/- the entries of a row, in a block that stands -/
def EN (g : Nat) (l : Es) (w : World) : Prop := ∀ i (hi : i < l.length), w.cell? ⟨g, i * 2, none⟩ = some (.string (mk l[i].1)) ∧ w.cell? ⟨g, i * 2 + 1, none⟩ = some (.int .i64 l[i].2)
structure EG (B e g c : Nat) (l : Es) (w : World) (ps : List Nat) : Prop where
  box : ∃ pv, w.heap[e]? = some (.cells #[.slice (some ⟨g, 0, none⟩) l.length c, pv] 215 (0, 0)) ∧ w.ownsRow B 3 1 pv ps.length (ps.map iv)
  be : B ≤ e
  hg : g < B
  bw : B ≤ w.heap.size
  ent : EN g l w
  ins : ∀ p ∈ ps, p < l.length
  small : ps.length < 1099511627776
  wide : l.length < 1099511627776
theorem EN.keep {g : Nat} {l : Es} {w w' : World} (h : EN g l w) (hk : w'.heap[g]? = w.heap[g]?) : EN g l w' := fun i hi => ⟨(World.cell?_of_block (a := ⟨g, i * 2, none⟩) hk).trans (h i hi).1, (World.cell?_of_block (a := ⟨g, i * 2 + 1, none⟩) hk).trans (h i hi).2⟩
theorem p_get (ps : List Nat) (i : Nat) (h : i < ps.length) : (ps.map iv)[i]? = some (iv ps[i]) := by simp [h]
theorem prow {B : Nat} {w : World} {v : Value} {ps : List Nat} (h : w.ownsRow B 3 1 v ps.length (ps.map iv)) (h0 : 0 < ps.length) : ∃ q c, v = .slice (some ⟨q, 0, none⟩) ps.length c ∧ B ≤ q ∧ ps.length ≤ c ∧ (∃ cur, w.heap[q]? = some (.cells cur 3 (0, 0))) ∧ (∀ i (hi : i < ps.length), w.cell? ⟨q, i, none⟩ = some (iv ps[i])) ∧ ∀ i, w.frozen? ⟨q, i, none⟩ = false := by
  have h' := h
  rcases h.2 with ⟨rfl, hn⟩ | ⟨q, cap, cur, rfl, hb, hq, r1, _⟩
  · omega
  · refine ⟨q, cap, rfl, hb, r1, ⟨cur, hq⟩, fun i hi => ?_, fun i => Lib.frozen_of_heap hq i⟩
    have c1 := h'.cells (g := q) rfl i _ (p_get ps i hi)
    simp only [Addr.add, Nat.zero_add] at c1
    have e0 : (if i = 0 then (⟨q, 0, none⟩ : Addr) else ⟨q, i, none⟩) = ⟨q, i, none⟩ := by split <;> simp_all
    simpa [e0] using c1
theorem pshape {B : Nat} {w : World} {v : Value} {ps : List Nat} (h : w.ownsRow B 3 1 v ps.length (ps.map iv)) : ∃ a c, v = .slice a ps.length c := by
  rcases h.2 with ⟨rfl, hn⟩ | ⟨g, cap, cur, rfl, _⟩
  · rw [hn]; exact ⟨_, _, rfl⟩
  · exact ⟨_, _, rfl⟩
theorem row_b {B B' e sz n : Nat} {w w' : World} {v : Value} {xs : List Value} (h : w.ownsRow B e sz v n xs) (hb : Below w.heap.size w w') : w'.ownsRow B e sz v n xs := by
  refine ⟨h.1, h.2.imp id ?_⟩
  rintro ⟨g, cap, cur, rfl, hbg, hg, rest⟩
  exact ⟨g, cap, cur, rfl, hbg, (hb.block g (lt_of hg)).trans hg, rest⟩
theorem EG.below {B e g c : Nat} {l : Es} {w w' : World} {ps : List Nat} (h : EG B e g c l w ps) (hb : Below w.heap.size w w') : EG B e g c l w' ps := by
  obtain ⟨pv, h1, h2⟩ := h.box
  have hw := h.bw
  exact ⟨⟨pv, (hb.block _ (lt_of h1)).trans h1, row_b (B' := 0) h2 hb⟩, h.be, h.hg, Nat.le_trans hw hb.size, h.ent.keep (hb.block _ (by have := h.hg; omega)), h.ins, h.small, h.wide⟩
/- what the edge may turn: blocks of its two types, from B on -/
structure Tr (B : Nat) (w w' : World) : Prop where
  os : w'.os = w.os
  tape : w'.tape = w.tape
  output : w'.output = w.output
  size : w.heap.size ≤ w'.heap.size
  block : ∀ k, k < w.heap.size → (k < B ∨ ∀ cs t fz, w.heap[k]? = some (.cells cs t fz) → t ≠ 215 ∧ t ≠ 3) → w'.heap[k]? = w.heap[k]?
theorem Tr.refl (B : Nat) (w : World) : Tr B w w := ⟨rfl, rfl, rfl, Nat.le_refl _, fun _ _ _ => rfl⟩
theorem Tr.trans {B : Nat} {a b c : World} (h : Tr B a b) (k : Tr B b c) : Tr B a c :=
  ⟨k.os.trans h.os, k.tape.trans h.tape, k.output.trans h.output, Nat.le_trans h.size k.size, fun i hi hc => by
    have e := h.block i hi hc
    exact (k.block i (Nat.lt_of_lt_of_le hi h.size) (hc.imp id fun q cs t fz hk => q cs t fz (e.symm.trans hk))).trans e⟩
theorem Tr.of_below {B : Nat} {a b : World} (h : Below a.heap.size a b) : Tr B a b := ⟨h.os, h.tape, h.output, h.size, fun k hk _ => h.block k hk⟩
theorem Tr.below {B : Nat} {a b : World} (h : Tr B a b) (hB : B ≤ a.heap.size) : Below B a b := ⟨h.os, h.tape, h.output, h.size, fun k hk => h.block k (by omega) (.inl hk)⟩
theorem Tr.drew {B : Nat} {a b : World} (h : Tr B a b) : Tr B a b.drew := ⟨h.os, h.tape, h.output, h.size, h.block⟩
theorem Tr.set {B : Nat} {w : World} {g i : Nat} {cs : Array Value} {t : TypeId} {fz : Nat × Nat} (h : w.heap[g]? = some (.cells cs t fz)) (ht : t = 215 ∨ t = 3) (hB : B ≤ g) (v : Value) : Tr B w (w.setCell ⟨g, i, none⟩ v) := by
  have e0 : Below 0 w (w.setCell ⟨g, i, none⟩ v) := (Below.refl 0 w).setCell (Nat.zero_le _) v
  refine ⟨e0.os, e0.tape, e0.output, e0.size, fun k hk hc => set_ne (fun e => ?_) v⟩
  subst e
  rcases hc with q | q
  · omega
  · have := q cs t fz h
    rcases ht with rfl | rfl
    · exact this.1 rfl
    · exact this.2 rfl
theorem Tr.grown {B : Nat} {w w' : World} {v : Value} (hg : w.grownBy w' v.ownBlock) (ho : ∀ k, v.ownBlock = some k → B ≤ k ∧ ∃ cs fz, w.heap[k]? = some (.cells cs 3 fz)) : Tr B w w' := by
  refine ⟨hg.os, hg.tape, hg.output, hg.size, fun k hk hc => hg.block k hk fun e => ?_⟩
  obtain ⟨hB, cs, fz, h⟩ := ho k e.symm
  rcases hc with q | q
  · omega
  · exact (q cs 3 fz h).2 rfl
set_option maxRecDepth 100000 in
theorem len_call {B e g c : Nat} {l : Es} {w : World} {ps : List Nat} (h : EG B e g c l w ps) : Calls Tryz.prog 158 #[ptr e] w fun r w' => r = .returned (.int .i64 (ps.length : Int)) ∧ w' = w := by
  obtain ⟨pv, h1, h2⟩ := h.box
  obtain ⟨a, k, rfl⟩ := pshape h2
  have c1 : w.cell? ⟨e, 1, none⟩ = some (.slice a ps.length k) := Lib.cell_of_heap h1 1
  clear h h1 h2
  go_enter Tryz.func158, Tryz.ntmps158
  go_wp2_with fail
  go_ret
  exact ⟨rfl, rfl⟩
set_option maxHeartbeats 4000000 in
set_option maxRecDepth 100000 in
theorem less_call {B e g c : Nat} {l : Es} {w : World} {ps : List Nat} (h : EG B e g c l w ps) (i j : Nat) (hi : i < ps.length) (hj : j < ps.length) :
    Calls Tryz.prog 251 #[ptr e, .int .i64 (i : Int), .int .i64 (j : Int)] w fun r w' => r = .returned (.bool (decide (ltP l (pl ps i) (pl ps j)))) ∧ Below w.heap.size w w' := by
  obtain ⟨pv, h1, h2⟩ := h.box
  obtain ⟨q, k, rfl, _, _, _, hc, _⟩ := prow h2 (by omega)
  have c0 : w.cell? ⟨e, 0, none⟩ = some (.slice (some ⟨g, 0, none⟩) l.length c) := Lib.cell_of_heap h1 0
  have c1 : w.cell? ⟨e, 1, none⟩ = some (.slice (some ⟨q, 0, none⟩) ps.length k) := Lib.cell_of_heap h1 1
  have hpi : ps[i] < l.length := h.ins _ (List.getElem_mem hi)
  have hpj : ps[j] < l.length := h.ins _ (List.getElem_mem hj)
  have x0 := hc i hi
  have x1 := hc j hj
  obtain ⟨i0, i1⟩ := h.ent _ hpi
  obtain ⟨j0, j1⟩ := h.ent _ hpj
  have HB := hid_of (fun W => beforeS (l[ps[i]]'hpi) (l[ps[j]]'hpj) W)
  have hs := h.small
  have hw := h.wide
  have HE : Hid (decide (ltP l (pl ps i) (pl ps j)) = decide (ltS (l[ps[i]]'hpi) (l[ps[j]]'hpj))) := hid_of (decide_eq_decide.2 (by unfold ltP; rw [pl_in hi, pl_in hj, pl_in hpi, pl_in hpj]))
  rw [HE.out]
  rw [show eS (l[ps[i]]'hpi) = .agg #[.string (mk (l[ps[i]]'hpi).1), .int .i64 (l[ps[i]]'hpi).2] from rfl, show eS (l[ps[j]]'hpj) = .agg #[.string (mk (l[ps[j]]'hpj).1), .int .i64 (l[ps[j]]'hpj).2] from rfl] at HB
  clear h h1 h2 hc HE
  generalize decide (ltS (l[ps[i]]'hpi) (l[ps[j]]'hpj)) = r at *
  generalize mk (l[ps[i]]'hpi).1 = ki at *
  generalize mk (l[ps[j]]'hpj).1 = kj at *
  generalize (l[ps[i]]'hpi).2 = ti at *
  generalize (l[ps[j]]'hpj).2 = tj at *
  generalize ps[i] = P at *
  generalize ps[j] = Q at *
  have d1 : (i : Int) < (ps.length : Int) := by omega
  have d2 : (j : Int) < (ps.length : Int) := by omega
  have d3 : (P : Int) < (l.length : Int) := by omega
  have d4 : (Q : Int) < (l.length : Int) := by omega
  unfold ptr
  go_enter Tryz.func251, Tryz.ntmps251
  go_wp2_with fail
  go_region_held3 (fun Z => Z.cell? ⟨e, 0, none⟩ = some (.slice (some ⟨g, 0, none⟩) l.length c) ∧ Z.cell? ⟨e, 1, none⟩ = some (.slice (some ⟨q, 0, none⟩) ps.length k) ∧ Z.cell? ⟨q, i, none⟩ = some (.int .i64 (P : Int)) ∧ Z.cell? ⟨q, j, none⟩ = some (.int .i64 (Q : Int)) ∧ Z.cell? ⟨g, P * 2, none⟩ = some (.string ki) ∧ Z.cell? ⟨g, P * 2 + 1, none⟩ = some (.int .i64 ti) ∧ Z.cell? ⟨g, Q * 2, none⟩ = some (.string kj) ∧ Z.cell? ⟨g, Q * 2 + 1, none⟩ = some (.int .i64 tj)) (first | exact ⟨c0, c1, x0, x1, i0, i1, j0, j1⟩ | exact ⟨cell_b Q1.out c0, cell_b Q1.out c1, cell_b Q1.out x0, cell_b Q1.out x1, cell_b Q1.out i0, cell_b Q1.out i1, cell_b Q1.out j0, cell_b Q1.out j1⟩) (first | (go_at_call 217; refine (HB.out _).mono ?_; rintro e w1 ⟨rfl, hbl⟩; have Q1 : Hid (Below w.heap.size w w1) := hid_of ((Below.refl _ w).drew.trans hbl); clear hbl))
  all_goals
    go_wp2_with fail
    go_ret
    exact ⟨rfl, Q1.out⟩
end Go.Proofs.YtminfpkigenahaaGreatDoor.Edge
end
section
namespace Go.Proofs.YtminfpkigenahaaGreatDoor.Edge
open Go.RowKit Go.Maps
open Go.Proofs.YtminfpkigenahaaGreatDoor.HeapMath
open Go.Proofs.YtminfpkigenahaaGreatDoor.Heap
open Go.Proofs.YtminfpkigenahaaGreatDoor.Turn
open Go.Proofs.YtminfpkigenahaaGreatDoor.Before
open Go.Proofs.YtminfpkigenahaaGreatDoor.Base (mk mk_list)
open Go.Proofs.YtminfpkigenahaaGreatDoor.RowB
open Go.Proofs.YtminfpkigenahaaGreatDoor.ThingS
set_option linter.unusedVariables false
set_option linter.unusedSimpArgs false
theorem size3 (w : World) : (Go.sizeOf 3).run Tryz.prog w = .ok 1 w := by kernel_rfl
theorem cut_hi (a : Option Addr) (n c j : Nat) (y : Int) (hy : y = j) (hj : j ≤ c) (w : World) :
    (Instr.slice 213 (.slice a n c) none (some (.int .i64 y)) none).run Tryz.prog w = .ok (.slice (if c = 0 then a else a.map (·.add 0)) j c) w := by
  subst hy
  have h2 : (j : Int) ≤ c := by omega
  simp [Instr.slice, run_underlying Tryz.underlying213, Instr.sliceBounds, run_sliceBound, size3, h2]
theorem cut_hi' (q n c j : Nat) (y : Int) (hy : y = j) (hj : j ≤ c) (w : World) :
    (Instr.slice 213 (.slice (some ⟨q, 0, none⟩) n c) none (some (.int .i64 y)) none).run Tryz.prog w = .ok (.slice (some ⟨q, 0, none⟩) j c) w := by
  rw [cut_hi (some ⟨q, 0, none⟩) n c j y hy hj w]
  split <;> simp [Addr.add]
theorem grow1 {B : Nat} {w w' : World} {k : Nat} (h : w.grownBy w' (some k)) (hk : B ≤ k) (hB : B ≤ w.heap.size) : Below B w w' := ⟨h.os, h.tape, h.output, h.size, fun i hi => h.block i (by omega) (by intro e; cases e; omega)⟩
theorem set_below {B : Nat} {w : World} {b i : Nat} (hb : B ≤ b) (v : Value) : Below B w (w.setCell ⟨b, i, none⟩ v) := (Below.refl B w).setCell hb v
theorem own_take {B : Nat} {w : World} {q n c : Nat} {ps : List Nat} (h : w.ownsRow B 3 1 (.slice (some ⟨q, 0, none⟩) n c) n (ps.map iv)) (hn : n = ps.length) (m : Nat) (hm : m ≤ n) : w.ownsRow B 3 1 (.slice (some ⟨q, 0, none⟩) m c) (ps.take m).length ((ps.take m).map iv) := by
  have hl : (ps.take m).length = m := by rw [List.length_take]; omega
  rw [hl]
  refine ⟨by rw [List.length_map, hl]; omega, ?_⟩
  rcases h.2 with ⟨e, _⟩ | ⟨g, cap, cur, e, hb, hg, r1, r2, r3, r4⟩
  · cases e
  · injection e with e1 _ e3
    injection e1 with e1
    injection e1 with e1
    subst e1 e3
    refine .inr ⟨q, c, cur, rfl, hb, hg, by omega, r2, r3, ?_⟩
    rw [List.map_take, ← r4, List.take_take, Nat.mul_one, Nat.mul_one, Nat.min_eq_left hm]
set_option maxHeartbeats 2000000 in
set_option maxRecDepth 100000 in
theorem pop_call {B e g c : Nat} {l : Es} {w : World} {ps : List Nat} (h : EG B e g c l w ps) (h0 : 0 < ps.length) :
    Calls Tryz.prog 252 #[ptr e] w fun r w' => r = .returned (.iface 3 (iv (pl ps (ps.length - 1)))) ∧ EG B e g c l w' (ps.take (ps.length - 1)) ∧ Tr B w w' := by
  obtain ⟨pv, h1, h2⟩ := h.box
  obtain ⟨q, k, rfl, hBq, hk, ⟨cur, hq⟩, hc, _⟩ := prow h2 h0
  have c1 : w.cell? ⟨e, 1, none⟩ = some (.slice (some ⟨q, 0, none⟩) ps.length k) := Lib.cell_of_heap h1 1
  have z1 : w.frozen? ⟨e, 1, none⟩ = false := Lib.frozen_of_heap h1 1
  have x0 := hc (ps.length - 1) (by omega)
  rw [← pl_in (show ps.length - 1 < ps.length by omega)] at x0
  have hne : q ≠ e := by
    rintro rfl
    rw [hq] at h1
    injection h1 with h1
    injection h1 with _ h1
    cases h1
  have HR : Hid (EG B e g c l (w.setCell ⟨e, 1, none⟩ (.slice (some ⟨q, 0, none⟩) (ps.length - 1) k)) (ps.take (ps.length - 1)) ∧ Tr B w (w.setCell ⟨e, 1, none⟩ (.slice (some ⟨q, 0, none⟩) (ps.length - 1) k))) := hid_of (by
    have hb := set_below (w := w) (i := 1) h.be (.slice (some ⟨q, 0, none⟩) (ps.length - 1) k)
    refine ⟨⟨⟨_, set_at h1 _, ?_⟩, h.be, h.hg, Nat.le_trans h.bw hb.size, h.ent.keep (hb.block _ h.hg), fun p hp => h.ins p (List.mem_of_mem_take hp), by rw [List.length_take]; have := h.small; omega, h.wide⟩, Tr.set h1 (.inl rfl) h.be _⟩
    have := own_take h2 rfl (ps.length - 1) (by omega)
    refine ⟨this.1, this.2.imp id ?_⟩
    rintro ⟨g', cap, cur', e', hb', hg', r⟩
    obtain rfl : q = g' := by injection e' with e'; injection e' with e'; injection e'
    exact ⟨q, cap, cur', e', hb', (set_ne hne _).trans hg', r⟩)
  have hs := h.small
  obtain ⟨N, hN⟩ : ∃ N, N = ps.length - 1 := ⟨_, rfl⟩
  have hcut := cut_hi' q ps.length k N (N : Int) rfl (by omega)
  have e1 : IntKind.i64.wrap ((ps.length : Int) - 1) = (N : Int) := by rw [IntWalk.i64_in _ (by omega)]; omega
  have e2 : (ps.length : Int) - 1 = (N : Int) := by omega
  have d1 : (N : Int) < (ps.length : Int) := by omega
  rw [← hN] at HR x0 ⊢
  clear h h1 h2 hc hq hN
  generalize pl ps N = P at *
  go_enter Tryz.func252, Tryz.ntmps252
  go_wp2_with fail
  go_ret
  exact ⟨rfl, HR.out⟩
theorem set_row {B : Nat} {w : World} {q n c : Nat} {xs : List Value} (h : w.ownsRow B 3 1 (.slice (some ⟨q, 0, none⟩) n c) n xs) (i : Nat) (hi : i < n) (v : Value) : (w.setCell ⟨q, i, none⟩ v).ownsRow B 3 1 (.slice (some ⟨q, 0, none⟩) n c) n (xs.set i v) := by
  refine ⟨by rw [List.length_set]; exact h.1, ?_⟩
  rcases h.2 with ⟨e, _⟩ | ⟨g, cap, cur, e, hb, hg, r1, r2, r3, r4⟩
  · cases e
  · injection e with e1 _ e3
    injection e1 with e1
    injection e1 with e1
    subst e1 e3
    refine .inr ⟨q, c, _, rfl, hb, set_at hg v, r1, r2, by rw [Array.size_setIfInBounds]; exact r3, ?_⟩
    rw [Array.toList_setIfInBounds, List.take_set, r4]
theorem swp_map (ps : List Nat) (i j : Nat) (hi : i < ps.length) (hj : j < ps.length) : (swp ps i j).map iv = ((ps.map iv).set i (iv (pl ps j))).set j (iv (pl ps i)) := by
  unfold swp
  rw [List.map_set, List.map_set]
set_option maxHeartbeats 4000000 in
set_option maxRecDepth 100000 in
theorem swap_raw (e q n c i j : Nat) (w : World) (P Q : Int) (hi : i < n) (hj : j < n) (hn : n < 1099511627776)
    (c1 : w.cell? ⟨e, 1, none⟩ = some (.slice (some ⟨q, 0, none⟩) n c)) (i0 : w.cell? ⟨q, i, none⟩ = some (.int .i64 P)) (j0 : w.cell? ⟨q, j, none⟩ = some (.int .i64 Q)) (fi : w.frozen? ⟨q, i, none⟩ = false) (fj : w.frozen? ⟨q, j, none⟩ = false) (hij : i ≠ j) (hqe : e ≠ q) :
    Calls Tryz.prog 254 #[ptr e, .int .i64 (i : Int), .int .i64 (j : Int)] w fun r w' => r = .returned (.tuple #[]) ∧ w' = ((w.setCell ⟨q, i, none⟩ (.int .i64 Q)).setCell ⟨q, j, none⟩ (.int .i64 P)).drew := by
  have d1 : (i : Int) < (n : Int) := by omega
  have d2 : (j : Int) < (n : Int) := by omega
  go_enter Tryz.func254, Tryz.ntmps254
  go_wp2_with fail
  go_region
  go_end0
  exact ⟨rfl, rfl⟩
set_option maxHeartbeats 4000000 in
set_option maxRecDepth 100000 in
theorem swap_raw1 (e q n c i : Nat) (w : World) (P : Int) (hi : i < n) (hn : n < 1099511627776)
    (c1 : w.cell? ⟨e, 1, none⟩ = some (.slice (some ⟨q, 0, none⟩) n c)) (i0 : w.cell? ⟨q, i, none⟩ = some (.int .i64 P)) (fi : w.frozen? ⟨q, i, none⟩ = false) (hqe : e ≠ q) (q0 : (w.setCell ⟨q, i, none⟩ (.int .i64 P)).cell? ⟨q, i, none⟩ = some (.int .i64 P)) :
    Calls Tryz.prog 254 #[ptr e, .int .i64 (i : Int), .int .i64 (i : Int)] w fun r w' => r = .returned (.tuple #[]) ∧ w' = ((w.setCell ⟨q, i, none⟩ (.int .i64 P)).setCell ⟨q, i, none⟩ (.int .i64 P)).drew := by
  have d1 : (i : Int) < (n : Int) := by omega
  go_enter Tryz.func254, Tryz.ntmps254
  go_wp2_with fail
  go_region
  go_end0
  exact ⟨rfl, rfl⟩
theorem isInt (v : Value) (w : World) : (Instr.typeAssert (.iface 3 v) 20 3 false).run Tryz.prog w = .ok v w := by kernel_rfl
end Go.Proofs.YtminfpkigenahaaGreatDoor.Edge
end
section
namespace Go.Proofs.YtminfpkigenahaaGreatDoor.Edge
open Go.RowKit Go.Maps
open Go.Proofs.YtminfpkigenahaaGreatDoor.HeapMath
open Go.Proofs.YtminfpkigenahaaGreatDoor.Heap
open Go.Proofs.YtminfpkigenahaaGreatDoor.Turn
open Go.Proofs.YtminfpkigenahaaGreatDoor.Before
open Go.Proofs.YtminfpkigenahaaGreatDoor.Base (mk mk_list)
open Go.Proofs.YtminfpkigenahaaGreatDoor.RowB
open Go.Proofs.YtminfpkigenahaaGreatDoor.PushR (step_eq)
set_option linter.unusedVariables false
set_option linter.unusedSimpArgs false
set_option maxHeartbeats 4000000 in
set_option maxRecDepth 100000 in
theorem push_raw (e n c n' c' : Nat) (a a' : Option Addr) (w W3 : World) (P : Int) (hn : n < 1099511627776) (hel : e < w.heap.size)
    (c1 : w.cell? ⟨e, 1, none⟩ = some (.slice a n c))
    (H2 : Hid ((Builtin.append_ #[213, 213] 213 #[.slice a n c, .slice (some ⟨w.heap.size, 0, none⟩) 1 1]).run Tryz.prog (w.drew.alloc (.cells #[.int .i64 P] 3)) = .ok (.slice a' n' c') W3 ∧ W3.cell? ⟨e, 1, none⟩ = some (.slice a n c) ∧ W3.frozen? ⟨e, 1, none⟩ = false)) :
    Calls Tryz.prog 253 #[.pointer (some ⟨e, 0, none⟩), .iface 3 (.int .i64 P)] w fun r w' => r = .returned (.tuple #[]) ∧ w' = W3.setCell ⟨e, 1, none⟩ (.slice a' n' c') := by
  have q3 := isInt (.int .i64 P)
  obtain ⟨hr, c3, f3⟩ := H2.out
  have c2 : (w.alloc (.cells #[.int .i64 P] 3)).cell? ⟨e, 1, none⟩ = some (.slice a n c) := (World.cell?_of_block (a := ⟨e, 1, none⟩) (Below.heap_alloc _ _ e hel)).trans c1
  go_enter Tryz.func253, Tryz.ntmps253
  go_wp2_with fail
  go_region_law (first | (refine step_eq rfl (.tmp 8) (.tmp 11) 213 213 rfl (.slice a n c) (.slice (some ⟨w.heap.size, 0, none⟩) 1 1) (.slice a' n' c') _ W3 (by first | (simp [Act.eval]; done) | simp [Act.eval, Act.put]) (by first | (simp [Act.eval]; done) | simp [Act.eval, Act.put]) hr ?_))
  all_goals
    go_wp2_with fail
    go_end0
    exact ⟨rfl, rfl⟩
theorem info3 : (Tryz.prog.info? 3).map (fun i => (i.zero, i.size, i.bytes)) = some (some (.int .i64 0), 1, 8) := by kernel_rfl
theorem parts3 : ∃ i, Tryz.prog.info? 3 = some i ∧ i.zero = some (.int .i64 0) ∧ i.size = 1 ∧ i.bytes = 8 := by
  have h := info3
  cases e : Tryz.prog.info? 3 with
  | none => rw [e] at h; cases h
  | some i =>
    rw [e] at h
    simp at h
    exact ⟨i, rfl, h.1, h.2.1, h.2.2⟩
theorem push_call {B e g c : Nat} {l : Es} {w : World} {ps : List Nat} {p : Nat} (h : EG B e g c l w ps) (hp : p < l.length) (hs : ps.length + 1 < 1099511627776) :
    Calls Tryz.prog 253 #[ptr e, .iface 3 (iv p)] w fun r w' => r = .returned (.tuple #[]) ∧ EG B e g c l w' (ps ++ [p]) ∧ Tr B w w' := by
  obtain ⟨pv, h1, h2⟩ := h.box
  obtain ⟨i, hi, hz0, hz1, hz2⟩ := parts3
  have b1 : Below w.heap.size w (w.drew.alloc (.cells #[iv p] 3)) := (Below.refl _ w).drew.alloc (Nat.le_refl _) _
  have h2' := row_b (B' := 0) h2 b1
  have hnew : (w.drew.alloc (.cells #[iv p] 3)).heap[w.heap.size]? = some (.cells #[iv p] 3 (0, 0)) := heap_alloc_new w.drew _
  obtain ⟨v', W3, hr, ho, hg, _⟩ := run_append_own_wide (P := Tryz.prog) (w.drew.alloc (.cells #[iv p] 3)) B 213 213 3 i _ 1 8 Tryz.underlying213 hi hz0 hz1 hz2 rfl (by decide) pv ps.length (ps.map iv) h2' ⟨w.heap.size, 0, none⟩ 1 1 [iv p] rfl (fun j u hj => by
      match j, hj with
      | 0, hj =>
        have : (⟨w.heap.size, 0, none⟩ : Addr).add 0 = ⟨w.heap.size, 0, none⟩ := by simp [Addr.add]
        rw [this, Lib.cell_of_heap hnew]
        exact hj) (by intro u hu; simp at hu; subst hu; rfl) (by unfold maxLen; omega) (by omega) (Nat.le_trans h.bw b1.size)
  have hl : (ps ++ [p]).length = ps.length + 1 := by simp
  obtain ⟨a, k, rfl⟩ := pshape h2
  obtain ⟨a', k', rfl⟩ : ∃ a' k', v' = .slice a' (ps.length + 1) k' := by
    rcases ho.2 with ⟨_, q⟩ | ⟨g, cap, cur, rfl, _⟩
    · omega
    · exact ⟨_, _, rfl⟩
  have hne : ∀ q, (Value.slice a ps.length k).ownBlock = some q → q ≠ e ∧ B ≤ q := fun q hq => by
    rcases h2.2 with ⟨e', _⟩ | ⟨g', cap, cur, e', hb, hg', _⟩
    · rw [e'] at hq; cases hq
    · rw [e'] at hq
      injection hq with hq
      have : g' = q := hq
      subst this
      refine ⟨?_, hb⟩
      rintro rfl
      rw [hg'] at h1
      injection h1 with h1
      injection h1 with _ h1
      cases h1
  have he : e < (w.drew.alloc (.cells #[iv p] 3)).heap.size := Nat.lt_of_lt_of_le (lt_of h1) b1.size
  have x1 : W3.heap[e]? = some (.cells #[.slice (some ⟨g, 0, none⟩) l.length c, .slice a ps.length k] 215 (0, 0)) := (hg.block e he (fun q => (hne e q.symm).1 rfl)).trans ((b1.block _ (lt_of h1)).trans h1)
  have bB : Below B w W3 := (b1.mono h.bw).trans ⟨hg.os, hg.tape, hg.output, hg.size, fun j hj => hg.block j (by have := h.bw; have := b1.size; omega) (fun q => by have := (hne j q.symm).2; omega)⟩
  have hb2 := set_below (w := W3) (i := 1) h.be (.slice a' (ps.length + 1) k')
  have tB : Tr B w W3 := (Tr.of_below b1).trans (Tr.grown hg fun j hj => by
    refine ⟨(hne j hj).2, ?_⟩
    rcases h2'.2 with ⟨e', _⟩ | ⟨g', cap, cur, e', hb, hg', _⟩
    · rw [e'] at hj; cases hj
    · rw [e'] at hj
      injection hj with hj
      have : g' = j := hj
      subst this
      exact ⟨cur, (0, 0), hg'⟩)
  refine (push_raw e ps.length k (ps.length + 1) k' a a' w W3 p (by omega) (lt_of h1) (Lib.cell_of_heap h1 1) (hid_of ⟨hr, Lib.cell_of_heap x1 1, Lib.frozen_of_heap x1 1⟩)).mono ?_
  rintro r w' ⟨rfl, rfl⟩
  refine ⟨rfl, ⟨⟨_, set_at x1 _, ?_⟩, h.be, h.hg, Nat.le_trans (Nat.le_trans h.bw bB.size) hb2.size, h.ent.keep (((bB.trans hb2)).block _ h.hg), fun q hq => ?_, by rw [hl]; exact hs, h.wide⟩, tB.trans (Tr.set x1 (.inl rfl) h.be _)⟩
  · rw [hl, List.map_append]
    refine ⟨ho.1, ho.2.imp id ?_⟩
    rintro ⟨g', cap, cur, e', hb, hg', r⟩
    refine ⟨g', cap, cur, e', hb, (set_ne (fun q => ?_) _).trans hg', r⟩
    subst q
    rw [hg'] at x1
    injection x1 with x1
    injection x1 with _ x1
    cases x1
  · rcases List.mem_append.1 hq with q | q
    · exact h.ins _ q
    · simp at q; rw [q]; exact hp
theorem swap_call {B e g c : Nat} {l : Es} {w : World} {ps : List Nat} (h : EG B e g c l w ps) (i j : Nat) (hi : i < ps.length) (hj : j < ps.length) :
    Calls Tryz.prog 254 #[ptr e, .int .i64 (i : Int), .int .i64 (j : Int)] w fun r w' => r = .returned (.tuple #[]) ∧ EG B e g c l w' (swp ps i j) ∧ Tr B w w' := by
  obtain ⟨pv, h1, h2⟩ := h.box
  obtain ⟨q, k, rfl, hBq, hk, ⟨cur, hq⟩, hc, hz⟩ := prow h2 (by omega)
  have hne : e ≠ q := by
    rintro rfl
    rw [hq] at h1
    injection h1 with h1
    injection h1 with h1 h1'
    cases h1'
  have c1 : w.cell? ⟨e, 1, none⟩ = some (.slice (some ⟨q, 0, none⟩) ps.length k) := Lib.cell_of_heap h1 1
  have x0 := hc i hi
  have x1 := hc j hj
  rw [← pl_in hi] at x0
  rw [← pl_in hj] at x1
  have hs := h.small
  have s1 := set_row h2 i hi (iv (pl ps j))
  have s2 := set_row s1 j hj (iv (pl ps i))
  have bb : Below B w ((w.setCell ⟨q, i, none⟩ (iv (pl ps j))).setCell ⟨q, j, none⟩ (iv (pl ps i))) := (set_below (w := w) (i := i) hBq _).trans (set_below (i := j) hBq _)
  have tt : Tr B w ((w.setCell ⟨q, i, none⟩ (iv (pl ps j))).setCell ⟨q, j, none⟩ (iv (pl ps i))) := (Tr.set hq (.inr rfl) hBq _).trans (Tr.set (set_at hq _) (.inr rfl) hBq _)
  have fin : EG B e g c l ((w.setCell ⟨q, i, none⟩ (iv (pl ps j))).setCell ⟨q, j, none⟩ (iv (pl ps i))).drew (swp ps i j) := by
    have hE : EG B e g c l ((w.setCell ⟨q, i, none⟩ (iv (pl ps j))).setCell ⟨q, j, none⟩ (iv (pl ps i))) (swp ps i j) := by
      refine ⟨⟨_, (set_ne hne _).trans ((set_ne hne _).trans h1), ?_⟩, h.be, h.hg, Nat.le_trans h.bw bb.size, h.ent.keep (bb.block _ h.hg), fun p hp => h.ins p ((swp_perm hi hj).mem_iff.1 hp), by rw [swp_len]; exact hs, h.wide⟩
      rw [swp_len, swp_map ps i j hi hj]
      exact s2
    exact hE.below (Below.refl _ _).drew
  by_cases hij : i = j
  · subst hij
    refine (swap_raw1 e q ps.length k i w _ hi hs c1 x0 (hz i) hne (World.cell?_setCell_same' _ _ _ (by rw [x0]; rfl))).mono ?_
    rintro r w' ⟨rfl, rfl⟩
    exact ⟨rfl, fin, tt.drew⟩
  · refine (swap_raw e q ps.length k i j w _ _ hi hj hs c1 x0 x1 (hz i) (hz j) hij hne).mono ?_
    rintro r w' ⟨rfl, rfl⟩
    exact ⟨rfl, fin, tt.drew⟩
def okP (l : Es) (p : Nat) (ps : List Nat) : Prop := p < l.length ∧ ps.length + 1 < 1099511627776
theorem thingE (B e g c : Nat) (l : Es) : Thing 158 251 252 253 254 (ltP l) (ptr e) (fun p => .iface 3 (iv p)) (okP l) (EG B e g c l) (Tr B) where
  moves := {
    refl := fun w => Tr.refl _ _
    trans := fun _ _ _ h k => h.trans k
    less := fun w ps i j h hi hj => (less_call h i j hi hj).mono (by
      rintro r w' ⟨rfl, hb⟩
      exact ⟨rfl, h.below hb, Tr.of_below hb⟩)
    swap := fun w ps i j h hi hj => (swap_call h i j hi hj).mono (by
      rintro r w' ⟨rfl, hr, hv⟩
      exact ⟨rfl, hr, hv⟩) }
  len := fun w ps h => (len_call h).mono (by
    rintro r w' ⟨rfl, rfl⟩
    exact ⟨rfl, h, Tr.refl _ _⟩)
  push := fun w ps p h hp => (push_call h hp.1 hp.2).mono (by
    rintro r w' ⟨rfl, hr, hv⟩
    exact ⟨rfl, hr, hv⟩)
  pop := fun w ps h h0 => (pop_call h h0).mono (by
    rintro r w' ⟨rfl, hr, hv⟩
    exact ⟨rfl, hr, hv⟩)
/- reach: a place is added, if the row goes so far -/
set_option maxRecDepth 100000 in
theorem reach_call {B e g c : Nat} {l : Es} {w : World} {ps : List Nat} (h : EG B e g c l w ps) (hh : Hp (ltP l) ps ps.length) (p : Nat) (hs : ps.length + 1 < 1099511627776) (hp4 : p ≤ 4398046511104) :
    Calls Tryz.prog 157 #[ptr e, .int .i64 (p : Int)] w fun r w' => r = .returned (.tuple #[]) ∧ (∃ ps', EG B e g c l w' ps' ∧ Hp (ltP l) ps' ps'.length ∧ ps'.Perm (ps ++ (if p < l.length then [p] else []))) ∧ Tr B w w' := by
  obtain ⟨pv, h1, h2⟩ := h.box
  have c0 : w.cell? ⟨e, 0, none⟩ = some (.slice (some ⟨g, 0, none⟩) l.length c) := Lib.cell_of_heap h1 0
  have HE := hid_of h
  have HH := hid_of hh
  clear h1 h2 hh
  by_cases hp : p < l.length
  · have H := hid_of (pushEdgeS (sto_p l) (ptr e) (thingE B e g c l) w ps p h ⟨hp, hs⟩ (by omega) HH.out)
    have HP := hid_of hp
    have d1 : (p : Int) < (l.length : Int) := by omega
    clear h hs hp
    go_enter Tryz.func157, Tryz.ntmps157
    go_wp2_with fail
    refine H.out.mono ?_
    rintro r w1 ⟨rfl, ⟨ps', r1, h1, p1⟩, f1⟩
    have HR := hid_of (And.intro r1 (And.intro h1 (And.intro p1 f1)))
    clear r1 h1 p1 f1
    go_wp2_with fail
    go_end0
    exact ⟨rfl, ⟨ps', HR.out.1, HR.out.2.1, by first | exact HR.out.2.2.1 | (rw [if_pos HP.out]; exact HR.out.2.2.1)⟩, HR.out.2.2.2⟩
  · have d1 : ¬ (p : Int) < (l.length : Int) := by omega
    have HP := hid_of hp
    clear h hs hp
    go_enter Tryz.func157, Tryz.ntmps157
    go_wp2_with fail
    go_end0
    exact ⟨rfl, ⟨ps, HE.out, HH.out, by first | exact List.Perm.refl _ | (rw [if_neg HP.out, List.append_nil])⟩, Tr.refl _ _⟩
end Go.Proofs.YtminfpkigenahaaGreatDoor.Edge
end
section
namespace Go.Proofs.YtminfpkigenahaaGreatDoor.NextFL
open Go.RowKit Go.Maps
open Go.Proofs.YtminfpkigenahaaGreatDoor.HeapMath
open Go.Proofs.YtminfpkigenahaaGreatDoor.Heap
open Go.Proofs.YtminfpkigenahaaGreatDoor.Before
set_option linter.unusedVariables false
set_option linter.unusedSimpArgs false
theorem first_least {α : Type} [Inhabited α] {lt : α → α → Prop} (o : STO lt) {l : List α} (h : Hp lt l l.length) : ∀ n k, k ≤ n → k < l.length → ¬ lt (pl l k) (pl l 0) := by
  intro n
  induction n with
  | zero => intro k hk _; rw [show k = 0 by omega]; exact o.irr _
  | succ n ih =>
    intro k hk hkl
    by_cases h0 : k = 0
    · rw [h0]; exact o.irr _
    · have hp := par_lt (i := k) (by omega)
      exact o.le_trans (ih (par k) (by omega) (by omega)) (h k (by omega) hkl)
end Go.Proofs.YtminfpkigenahaaGreatDoor.NextFL
end
