/- The places of a row at which the next entry may stand: a thing that container/heap moves. -/
import Derived.Test.YtiaggddpoddbcaaThingS
import Derived.Test.YtiaggddpoddbcaaCallEdgeS
import Derived.Deep.RegionHeld3
import Derived.Deep.AppendSrc
import Derived.Deep.DeepAppendWide
namespace Go.Proofs.Ytiaggddpoddbcaa.Edge
open Go.RowKit Go.Maps
open Go.Proofs.Ytiaggddpoddbcaa.HeapMath
open Go.Proofs.Ytiaggddpoddbcaa.Heap
open Go.Proofs.Ytiaggddpoddbcaa.Turn
open Go.Proofs.Ytiaggddpoddbcaa.Before
open Go.Proofs.Ytiaggddpoddbcaa.RowB
open Go.Proofs.Ytiaggddpoddbcaa.ThingS
set_option linter.unusedVariables false
set_option linter.unusedSimpArgs false
/- by the entries that stand there -/
def ltP (l : Es) (p q : Nat) : Prop := ltS (pl l p) (pl l q)
instance (l : Es) : DecidableRel (ltP l) := fun p q => inferInstanceAs (Decidable (ltS (pl l p) (pl l q)))
theorem sto_p (l : Es) : STO (ltP l) := (ent_sto keysS).pull (pl l)
theorem cell_b {w w' : World} {p : Addr} {v : Value} (h : Below w.heap.size w w') (hc : w.cell? p = some v) : w'.cell? p = some v := (h.cell (block_lt_of_cell hc)).trans hc
abbrev iv (p : Nat) : Value := .int .i64 (p : Int)
/- the entries of a row, in a block that stands -/
def EN (g : Nat) (l : Es) (w : World) : Prop := ∀ i (hi : i < l.length), w.cell? ⟨g, i * 2, none⟩ = some (.string (mk l[i].1)) ∧ w.cell? ⟨g, i * 2 + 1, none⟩ = some (.int .i64 l[i].2)
structure EG (B e g c : Nat) (l : Es) (w : World) (ps : List Nat) : Prop where
  box : ∃ pv, w.heap[e]? = some (.cells #[.slice (some ⟨g, 0, none⟩) l.length c, pv] 116 (0, 0)) ∧ w.ownsRow B 3 1 pv ps.length (ps.map iv)
  be : B ≤ e
  hg : g < B
  bw : B ≤ w.heap.size
  ent : EN g l w
  ins : ∀ p ∈ ps, p < l.length
  small : ps.length < 1099511627776
  wide : l.length < 1099511627776
theorem EN.keep {g : Nat} {l : Es} {w w' : World} (h : EN g l w) (hk : w'.heap[g]? = w.heap[g]?) : EN g l w' := fun i hi => ⟨(World.cell?_of_block (a := ⟨g, i * 2, none⟩) hk).trans (h i hi).1, (World.cell?_of_block (a := ⟨g, i * 2 + 1, none⟩) hk).trans (h i hi).2⟩
theorem p_get (ps : List Nat) (i : Nat) (h : i < ps.length) : (ps.map iv)[i]? = some (iv ps[i]) := by simp [h]
theorem prow {B : Nat} {w : World} {v : Value} {ps : List Nat} (h : w.ownsRow B 3 1 v ps.length (ps.map iv)) (h0 : 0 < ps.length) : ∃ q c, v = .slice (some ⟨q, 0, none⟩) ps.length c ∧ B ≤ q ∧ ps.length ≤ c ∧ (∃ cur, w.heap[q]? = some (.cells cur 3 (0, 0))) ∧ (∀ i (hi : i < ps.length), w.cell? ⟨q, i, none⟩ = some (iv ps[i])) ∧ ∀ i, w.frozen? ⟨q, i, none⟩ = false := by
  have h' := h
  rcases h.2 with ⟨rfl, hn⟩ | ⟨q, cap, cur, rfl, hb, hq, r1, _⟩
  · omega
  · refine ⟨q, cap, rfl, hb, r1, ⟨cur, hq⟩, fun i hi => ?_, fun i => Lib.frozen_of_heap hq i⟩
    have c1 := h'.cells (g := q) rfl i _ (p_get ps i hi)
    simp only [Addr.add, Nat.zero_add] at c1
    have e0 : (if i = 0 then (⟨q, 0, none⟩ : Addr) else ⟨q, i, none⟩) = ⟨q, i, none⟩ := by split <;> simp_all
    simpa [e0] using c1
theorem pshape {B : Nat} {w : World} {v : Value} {ps : List Nat} (h : w.ownsRow B 3 1 v ps.length (ps.map iv)) : ∃ a c, v = .slice a ps.length c := by
  rcases h.2 with ⟨rfl, hn⟩ | ⟨g, cap, cur, rfl, _⟩
  · rw [hn]; exact ⟨_, _, rfl⟩
  · exact ⟨_, _, rfl⟩
theorem row_b {B B' e sz n : Nat} {w w' : World} {v : Value} {xs : List Value} (h : w.ownsRow B e sz v n xs) (hb : Below w.heap.size w w') : w'.ownsRow B e sz v n xs := by
  refine ⟨h.1, h.2.imp id ?_⟩
  rintro ⟨g, cap, cur, rfl, hbg, hg, rest⟩
  exact ⟨g, cap, cur, rfl, hbg, (hb.block g (lt_of hg)).trans hg, rest⟩
theorem EG.below {B e g c : Nat} {l : Es} {w w' : World} {ps : List Nat} (h : EG B e g c l w ps) (hb : Below w.heap.size w w') : EG B e g c l w' ps := by
  obtain ⟨pv, h1, h2⟩ := h.box
  have hw := h.bw
  exact ⟨⟨pv, (hb.block _ (lt_of h1)).trans h1, row_b (B' := 0) h2 hb⟩, h.be, h.hg, Nat.le_trans hw hb.size, h.ent.keep (hb.block _ (by have := h.hg; omega)), h.ins, h.small, h.wide⟩
/- what the edge may turn: blocks of its two types, from B on -/
structure Tr (B : Nat) (w w' : World) : Prop where
  os : w'.os = w.os
  tape : w'.tape = w.tape
  output : w'.output = w.output
  size : w.heap.size ≤ w'.heap.size
  block : ∀ k, k < w.heap.size → (k < B ∨ ∀ cs t fz, w.heap[k]? = some (.cells cs t fz) → t ≠ 116 ∧ t ≠ 3) → w'.heap[k]? = w.heap[k]?
theorem Tr.refl (B : Nat) (w : World) : Tr B w w := ⟨rfl, rfl, rfl, Nat.le_refl _, fun _ _ _ => rfl⟩
theorem Tr.trans {B : Nat} {a b c : World} (h : Tr B a b) (k : Tr B b c) : Tr B a c :=
  ⟨k.os.trans h.os, k.tape.trans h.tape, k.output.trans h.output, Nat.le_trans h.size k.size, fun i hi hc => by
    have e := h.block i hi hc
    exact (k.block i (Nat.lt_of_lt_of_le hi h.size) (hc.imp id fun q cs t fz hk => q cs t fz (e.symm.trans hk))).trans e⟩
theorem Tr.of_below {B : Nat} {a b : World} (h : Below a.heap.size a b) : Tr B a b := ⟨h.os, h.tape, h.output, h.size, fun k hk _ => h.block k hk⟩
theorem Tr.below {B : Nat} {a b : World} (h : Tr B a b) (hB : B ≤ a.heap.size) : Below B a b := ⟨h.os, h.tape, h.output, h.size, fun k hk => h.block k (by omega) (.inl hk)⟩
theorem Tr.drew {B : Nat} {a b : World} (h : Tr B a b) : Tr B a b.drew := ⟨h.os, h.tape, h.output, h.size, h.block⟩
theorem Tr.set {B : Nat} {w : World} {g i : Nat} {cs : Array Value} {t : TypeId} {fz : Nat × Nat} (h : w.heap[g]? = some (.cells cs t fz)) (ht : t = 116 ∨ t = 3) (hB : B ≤ g) (v : Value) : Tr B w (w.setCell ⟨g, i, none⟩ v) := by
  have e0 : Below 0 w (w.setCell ⟨g, i, none⟩ v) := (Below.refl 0 w).setCell (Nat.zero_le _) v
  refine ⟨e0.os, e0.tape, e0.output, e0.size, fun k hk hc => set_ne (fun e => ?_) v⟩
  subst e
  rcases hc with q | q
  · omega
  · have := q cs t fz h
    rcases ht with rfl | rfl
    · exact this.1 rfl
    · exact this.2 rfl
theorem Tr.grown {B : Nat} {w w' : World} {v : Value} (hg : w.grownBy w' v.ownBlock) (ho : ∀ k, v.ownBlock = some k → B ≤ k ∧ ∃ cs fz, w.heap[k]? = some (.cells cs 3 fz)) : Tr B w w' := by
  refine ⟨hg.os, hg.tape, hg.output, hg.size, fun k hk hc => hg.block k hk fun e => ?_⟩
  obtain ⟨hB, cs, fz, h⟩ := ho k e.symm
  rcases hc with q | q
  · omega
  · exact (q cs 3 fz h).2 rfl
set_option maxRecDepth 100000 in
theorem len_call {B e g c : Nat} {l : Es} {w : World} {ps : List Nat} (h : EG B e g c l w ps) : Calls Try.prog 56 #[ptr e] w fun r w' => r = .returned (.int .i64 (ps.length : Int)) ∧ w' = w := by
  obtain ⟨pv, h1, h2⟩ := h.box
  obtain ⟨a, k, rfl⟩ := pshape h2
  have c1 : w.cell? ⟨e, 1, none⟩ = some (.slice a ps.length k) := Lib.cell_of_heap h1 1
  clear h h1 h2
  go_enter Try.func56, Try.ntmps56
  go_wp2_with fail
  go_ret
  exact ⟨rfl, rfl⟩
set_option maxHeartbeats 4000000 in
set_option maxRecDepth 100000 in
theorem less_call {B e g c : Nat} {l : Es} {w : World} {ps : List Nat} (h : EG B e g c l w ps) (i j : Nat) (hi : i < ps.length) (hj : j < ps.length) :
    Calls Try.prog 89 #[ptr e, .int .i64 (i : Int), .int .i64 (j : Int)] w fun r w' => r = .returned (.bool (decide (ltP l (pl ps i) (pl ps j)))) ∧ Below w.heap.size w w' := by
  obtain ⟨pv, h1, h2⟩ := h.box
  obtain ⟨q, k, rfl, _, _, _, hc, _⟩ := prow h2 (by omega)
  have c0 : w.cell? ⟨e, 0, none⟩ = some (.slice (some ⟨g, 0, none⟩) l.length c) := Lib.cell_of_heap h1 0
  have c1 : w.cell? ⟨e, 1, none⟩ = some (.slice (some ⟨q, 0, none⟩) ps.length k) := Lib.cell_of_heap h1 1
  have hpi : ps[i] < l.length := h.ins _ (List.getElem_mem hi)
  have hpj : ps[j] < l.length := h.ins _ (List.getElem_mem hj)
  have x0 := hc i hi
  have x1 := hc j hj
  obtain ⟨i0, i1⟩ := h.ent _ hpi
  obtain ⟨j0, j1⟩ := h.ent _ hpj
  have HB := hid_of (fun W => beforeS (l[ps[i]]'hpi) (l[ps[j]]'hpj) W)
  have hs := h.small
  have hw := h.wide
  have HE : Hid (decide (ltP l (pl ps i) (pl ps j)) = decide (ltS (l[ps[i]]'hpi) (l[ps[j]]'hpj))) := hid_of (decide_eq_decide.2 (by unfold ltP; rw [pl_in hi, pl_in hj, pl_in hpi, pl_in hpj]))
  rw [HE.out]
  rw [show eS (l[ps[i]]'hpi) = .agg #[.string (mk (l[ps[i]]'hpi).1), .int .i64 (l[ps[i]]'hpi).2] from rfl, show eS (l[ps[j]]'hpj) = .agg #[.string (mk (l[ps[j]]'hpj).1), .int .i64 (l[ps[j]]'hpj).2] from rfl] at HB
  clear h h1 h2 hc HE
  generalize decide (ltS (l[ps[i]]'hpi) (l[ps[j]]'hpj)) = r at *
  generalize mk (l[ps[i]]'hpi).1 = ki at *
  generalize mk (l[ps[j]]'hpj).1 = kj at *
  generalize (l[ps[i]]'hpi).2 = ti at *
  generalize (l[ps[j]]'hpj).2 = tj at *
  generalize ps[i] = P at *
  generalize ps[j] = Q at *
  have d1 : (i : Int) < (ps.length : Int) := by omega
  have d2 : (j : Int) < (ps.length : Int) := by omega
  have d3 : (P : Int) < (l.length : Int) := by omega
  have d4 : (Q : Int) < (l.length : Int) := by omega
  unfold ptr
  go_enter Try.func89, Try.ntmps89
  go_wp2_with fail
  go_region_held3 (fun Z => Z.cell? ⟨e, 0, none⟩ = some (.slice (some ⟨g, 0, none⟩) l.length c) ∧ Z.cell? ⟨e, 1, none⟩ = some (.slice (some ⟨q, 0, none⟩) ps.length k) ∧ Z.cell? ⟨q, i, none⟩ = some (.int .i64 (P : Int)) ∧ Z.cell? ⟨q, j, none⟩ = some (.int .i64 (Q : Int)) ∧ Z.cell? ⟨g, P * 2, none⟩ = some (.string ki) ∧ Z.cell? ⟨g, P * 2 + 1, none⟩ = some (.int .i64 ti) ∧ Z.cell? ⟨g, Q * 2, none⟩ = some (.string kj) ∧ Z.cell? ⟨g, Q * 2 + 1, none⟩ = some (.int .i64 tj)) (first | exact ⟨c0, c1, x0, x1, i0, i1, j0, j1⟩ | exact ⟨cell_b Q1.out c0, cell_b Q1.out c1, cell_b Q1.out x0, cell_b Q1.out x1, cell_b Q1.out i0, cell_b Q1.out i1, cell_b Q1.out j0, cell_b Q1.out j1⟩) (first | (go_at_call 80; refine (HB.out _).mono ?_; rintro e w1 ⟨rfl, hbl⟩; have Q1 : Hid (Below w.heap.size w w1) := hid_of ((Below.refl _ w).drew.trans hbl); clear hbl))
  all_goals
    go_wp2_with fail
    go_ret
    exact ⟨rfl, Q1.out⟩
end Go.Proofs.Ytiaggddpoddbcaa.Edge
