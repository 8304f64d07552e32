/- The document's own files: Read, Synced, Append, Truncate, Sync. -/
import Derived.Test.YtilbffbmpgebmaaRefFault
import Derived.BigRegion
namespace Go.Proofs.Ytilbffbmpgebmaa.RefFiles
open Go.RowKit Go.Maps
open Go.Proofs.Ytilbffbmpgebmaa.DiskMath
open Go.Proofs.Ytilbffbmpgebmaa.RefMath
open Go.Proofs.Ytilbffbmpgebmaa.Base
open Go.Proofs.Ytilbffbmpgebmaa.Small
open Go.Proofs.Ytilbffbmpgebmaa.Append
open Go.Proofs.Ytilbffbmpgebmaa.Plan
open Go.Proofs.Ytilbffbmpgebmaa.File
open Go.Proofs.Ytilbffbmpgebmaa.RefNames
open Go.Proofs.Ytilbffbmpgebmaa.RefWith
open Go.Proofs.Ytilbffbmpgebmaa.RefBase
open Go.Proofs.Ytilbffbmpgebmaa.RefChange
open Go.Proofs.Ytilbffbmpgebmaa.RefFault
set_option linter.unusedVariables false
set_option linter.unusedSimpArgs false

def RHas (base b : Nat) (d : Dk) (w : World) : Prop := ∃ r, RD base b r d w
theorem RHas.below {base b : Nat} {d : Dk} {w w' : World} (h : RHas base b d w) (hb : Below w.heap.size w w') : RHas base b d w' := by
  obtain ⟨r, h⟩ := h
  exact ⟨r, h.below hb⟩
theorem flat_len (l : List (Bs × Nat)) : (l.flatMap flCells).length = l.length * 2 := by
  induction l with
  | nil => rfl
  | cons f r ih => rw [List.flatMap_cons, List.length_append, ih, List.length_cons]; simp [flCells]; omega
theorem flat_at : ∀ (l : List (Bs × Nat)) (k : Nat) (h : k < l.length), (l.flatMap flCells)[k * 2]? = some (.string (mk (l[k]'h).1)) ∧ (l.flatMap flCells)[k * 2 + 1]? = some (.int .i64 ((l[k]'h).2 : Int))
  | f :: r, 0, h => ⟨rfl, rfl⟩
  | f :: r, k + 1, h => by
    have ih := flat_at r k (by simpa using h)
    have e : ∀ i, ((f :: r).flatMap flCells)[(k + 1) * 2 + i]? = (r.flatMap flCells)[k * 2 + i]? := fun i => by
      rw [List.flatMap_cons, List.getElem?_append_right (by simp [flCells]; omega)]
      congr 1
      simp [flCells]
      omega
    exact ⟨(e 0).trans ih.1, (e 1).trans ih.2⟩
theorem flat_set0 : ∀ (l : List (Bs × Nat)) (k : Nat) (h : k < l.length) (s : Bs), (l.flatMap flCells).set (k * 2) (.string (mk s)) = (l.modify k (fun x => (s, x.2))).flatMap flCells
  | f :: r, 0, h, s => rfl
  | f :: r, k + 1, h, s => by
    have ih := flat_set0 r k (by simpa using h) s
    show List.set (_ :: _ :: r.flatMap flCells) ((k + 1) * 2) _ = _ :: _ :: (r.modify k _).flatMap flCells
    rw [show (k + 1) * 2 = k * 2 + 1 + 1 from by omega, List.set_cons_succ, List.set_cons_succ, ih]
theorem flat_set1 : ∀ (l : List (Bs × Nat)) (k : Nat) (h : k < l.length) (n : Nat), (l.flatMap flCells).set (k * 2 + 1) (.int .i64 (n : Int)) = (l.modify k (fun x => (x.1, n))).flatMap flCells
  | f :: r, 0, h, s => rfl
  | f :: r, k + 1, h, s => by
    have ih := flat_set1 r k (by simpa using h) s
    show List.set (_ :: _ :: r.flatMap flCells) ((k + 1) * 2 + 1) _ = _ :: _ :: (r.modify k _).flatMap flCells
    rw [show (k + 1) * 2 + 1 = k * 2 + 1 + 1 + 1 from by omega, List.set_cons_succ, List.set_cons_succ, ih]
/- a cell of an owned row -/
theorem row_set {w : World} {base e sz n g cap i : Nat} {xs : List Value} (h : w.ownsRow base e sz (.slice (some ⟨g, 0, none⟩) n cap) n xs) (hi : i < n * sz) (u : Value) : (w.setCell ⟨g, i, none⟩ u).ownsRow base e sz (.slice (some ⟨g, 0, none⟩) n cap) n (xs.set i u) := by
  refine ⟨by rw [List.length_set]; exact h.1, ?_⟩
  rcases h.2 with ⟨q, _⟩ | ⟨g', cap', cur, q, hb, hg, q1, q2, q3, q4⟩
  · cases q
  · injection q with e1 e2 e3
    injection e1 with e1
    injection e1 with e1
    subst e1; subst e3
    refine Or.inr ⟨g, cap, _, rfl, hb, set_at (i := i) hg u, q1, q2, by rw [Array.size_setIfInBounds]; exact q3, ?_⟩
    rw [Array.toList_setIfInBounds, ← q4, List.take_set]
structure At (w : World) (base : Nat) (fv : Value) (fs : List (Bs × Nat)) (f : Nat) (x : Bs × Nat) (g cap : Nat) : Prop where
  val : fv = .slice (some ⟨g, 0, none⟩) fs.length cap
  lt : f < fs.length
  blk : ∃ cur, w.heap[g]? = some (.cells cur 103 (0, 0))
  c0 : w.cell? ⟨g, f * 2, none⟩ = some (.string (mk x.1))
  c1 : w.cell? ⟨g, f * 2 + 1, none⟩ = some (.int .i64 (x.2 : Int))
theorem fl_at {base b : Nat} {r : Rl} {d : Dk} {w : World} (h : RD base b r d w) {f : Nat} {x : Bs × Nat} (hx : d.files[f]? = some x) : ∃ g cap, At w base r.fv d.files f x g cap := by
  obtain ⟨hlt, hxe⟩ := List.getElem?_eq_some_iff.1 hx
  rcases h.fl.2 with ⟨q, h0⟩ | ⟨g, cap, cur, q, hb, hg, q1, q2, q3, q4⟩
  · omega
  · obtain ⟨d0, d1⟩ := flat_at d.files f hlt
    have hfl := h.fl
    rw [q] at hfl
    have c0 := hfl.cellAt (f * 2) (by omega)
    have c1 := hfl.cellAt (f * 2 + 1) (by omega)
    rw [hxe] at d0 d1
    exact ⟨g, cap, q, hlt, ⟨cur, hg⟩, c0.trans d0, c1.trans d1⟩
theorem At.frozen {w : World} {base : Nat} {fv : Value} {fs : List (Bs × Nat)} {f : Nat} {x : Bs × Nat} {g cap : Nat} (h : At w base fv fs f x g cap) (i : Nat) : w.frozen? ⟨g, i, none⟩ = false := by
  obtain ⟨cur, hg⟩ := h.blk
  exact Lib.frozen_of_heap hg i
/- a file's cell has turned -/
theorem rd_file {base b : Nat} {r : Rl} {d : Dk} {w : World} (h : RD base b r d w) {f : Nat} {x : Bs × Nat} {g cap : Nat} (ha : At w base r.fv d.files f x g cap) {fs : List (Bs × Nat)} {i : Nat} (hi : i < d.files.length * 2) {u : Value} (hl : fs.length = d.files.length) (he : (d.files.flatMap flCells).set i u = fs.flatMap flCells) : RD base b r { d with files := fs } (w.setCell ⟨g, i, none⟩ u) ∧ Ev ET base w (w.setCell ⟨g, i, none⟩ u) := by
  obtain ⟨cur, hg⟩ := ha.blk
  have hr : ∀ {e sz n : Nat} {v : Value} {xs : List Value}, w.ownsRow base e sz v n xs → e ≠ 103 → (w.setCell ⟨g, i, none⟩ u).ownsRow base e sz v n xs := fun hrow hne => row_later hrow fun k hk => by
    obtain ⟨q1, q2, q3⟩ := row_kd hrow hk
    exact set_ne (fun e => by rw [e, kd_cells hg] at q1; omega) _
  have hfl := h.fl
  rw [ha.val] at hfl
  have h1 := row_set hfl hi u
  rw [he, ← hl, ← show d.files.length = fs.length from hl.symm] at h1
  have hgb : base ≤ g := (hfl.lt g rfl).1
  refine ⟨⟨(set_ne (fun e => ?_) _).trans h.disk, h.bb, ?_, hr h.nm (by decide), hr h.ls (by decide), hr h.op (by decide), hr h.pl (by decide), h.left, h.rn, h.rl, by rw [size_set]; exact h.hb⟩, Ev.set hg hgb rfl u⟩
  · have := h.disk
    rw [e, hg] at this
    injection this with this
    injection this with _ q
    cases q
  · show (w.setCell ⟨g, i, none⟩ u).ownsRow base 103 2 r.fv fs.length (fs.flatMap flCells)
    rw [ha.val, hl]
    exact h1
theorem rd_bytes {base b : Nat} {r : Rl} {d : Dk} {w : World} (h : RD base b r d w) {f : Nat} {x : Bs × Nat} {g cap : Nat} (ha : At w base r.fv d.files f x g cap) (s : Bs) : RD base b r (d.upd f (fun x => (s, x.2))) (w.setCell ⟨g, f * 2, none⟩ (.string (mk s))) ∧ Ev ET base w (w.setCell ⟨g, f * 2, none⟩ (.string (mk s))) :=
  rd_file h ha (by have := ha.lt; omega) (List.length_modify _ _ _) (flat_set0 d.files f ha.lt s)
theorem rd_synced {base b : Nat} {r : Rl} {d : Dk} {w : World} (h : RD base b r d w) {f : Nat} {x : Bs × Nat} {g cap : Nat} (ha : At w base r.fv d.files f x g cap) (n : Nat) : RD base b r (d.upd f (fun x => (x.1, n))) (w.setCell ⟨g, f * 2 + 1, none⟩ (.int .i64 (n : Int))) ∧ Ev ET base w (w.setCell ⟨g, f * 2 + 1, none⟩ (.int .i64 (n : Int))) :=
  rd_file h ha (by have := ha.lt; omega) (List.length_modify _ _ _) (flat_set1 d.files f ha.lt n)
theorem ask_yes {d : Dk} {name : Bs} (h : d.asked name = 0) : askF d name = (d.file name : Int) := by unfold askF; rw [if_pos h]
theorem ask_ne {d : Dk} {name : Bs} (h : d.asked name ≠ 0) : (d.asked name == 0) = false := by rw [beq_eq_false_iff_ne]; exact h
set_option maxHeartbeats 1000000 in
set_option maxRecDepth 100000 in
theorem rread_call (base b : Nat) (r : Rl) (d : Dk) (s : ByteArray) (w : World) (h : RD base b r d w) (ok : Ok d) (hl : d.names.length < 1099511627776) :
    Calls Try.prog 40 #[ptr b, .string s] w fun e w' => e = .returned (.tuple #[.string (mk (d.read (bs s)).1), .int .i64 (d.read (bs s)).2]) ∧ w' = w := by
  have H1 := hid_of (rasked_call base b r d s w h hl)
  unfold ptr at *
  by_cases ha : d.asked (bs s) = 0
  · obtain ⟨x, hx, _, _⟩ := asked_ok ok ha
    obtain ⟨g, cap, at1⟩ := fl_at h hx
    have c0 : w.cell? ⟨b, 0, none⟩ = some r.fv := h.cell 0
    rw [at1.val] at c0
    have k0 := at1.c0
    have hlt : ((d.file (bs s) : Nat) : Int) < (d.files.length : Int) := by have := at1.lt; omega
    have hlt2 := at1.lt
    have HE : Hid (d.read (bs s) = (x.1, 0)) := by
      show _ = _
      unfold Dk.read
      rw [if_neg (by rw [ha]; decide), hx]
      rfl
    rw [ask_yes ha, ha] at H1
    clear h ha hx at1 ok
    go_enter Try.func40, Try.ntmps40
    go_wp2_with fail
    refine H1.out.mono ?_
    rintro e w' ⟨rfl, rfl⟩
    go_wp2_with fail
    go_ret2
    rw [HE.out]
    exact ⟨rfl, rfl⟩
  · have HE : Hid (d.read (bs s) = ([], d.asked (bs s))) := by
      show _ = _
      unfold Dk.read
      rw [if_pos ha]
    have hb := ask_ne ha
    clear h ha ok
    go_enter Try.func40, Try.ntmps40
    go_wp2_with fail
    refine H1.out.mono ?_
    rintro e w' ⟨rfl, rfl⟩
    go_wp2_with fail
    go_ret2
    rw [HE.out]
    exact ⟨rfl, rfl⟩
set_option maxHeartbeats 1000000 in
set_option maxRecDepth 100000 in
theorem rsynced_call (base b : Nat) (r : Rl) (d : Dk) (s : ByteArray) (w : World) (h : RD base b r d w) (ok : Ok d) (hl : d.names.length < 1099511627776) :
    Calls Try.prog 41 #[ptr b, .string s] w fun e w' => e = .returned (.tuple #[.int .i64 (d.synced (bs s)).1, .int .i64 (d.synced (bs s)).2]) ∧ w' = w := by
  have H1 := hid_of (rasked_call base b r d s w h hl)
  unfold ptr at *
  by_cases ha : d.asked (bs s) = 0
  · obtain ⟨x, hx, _, _⟩ := asked_ok ok ha
    obtain ⟨g, cap, at1⟩ := fl_at h hx
    have c0 : w.cell? ⟨b, 0, none⟩ = some r.fv := h.cell 0
    rw [at1.val] at c0
    have k1 := at1.c1
    have hlt : ((d.file (bs s) : Nat) : Int) < (d.files.length : Int) := by have := at1.lt; omega
    have hlt2 := at1.lt
    have HE : Hid (d.synced (bs s) = ((x.2 : Int), 0)) := by
      show _ = _
      unfold Dk.synced
      rw [if_neg (by rw [ha]; decide), hx]
      rfl
    rw [ask_yes ha, ha] at H1
    clear h ha hx at1 ok
    go_enter Try.func41, Try.ntmps41
    go_wp2_with fail
    refine H1.out.mono ?_
    rintro e w' ⟨rfl, rfl⟩
    go_wp2_with fail
    go_ret2
    rw [HE.out]
    exact ⟨rfl, rfl⟩
  · have HE : Hid (d.synced (bs s) = (0, d.asked (bs s))) := by
      show _ = _
      unfold Dk.synced
      rw [if_pos ha]
    have hb := ask_ne ha
    clear h ha ok
    go_enter Try.func41, Try.ntmps41
    go_wp2_with fail
    refine H1.out.mono ?_
    rintro e w' ⟨rfl, rfl⟩
    go_wp2_with fail
    go_ret2
    rw [HE.out]
    exact ⟨rfl, rfl⟩
end Go.Proofs.Ytilbffbmpgebmaa.RefFiles
