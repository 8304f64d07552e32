/- The document's disk in memory; asked. -/
import Derived.Test.YtilbffbmpgebmaaRefWith
namespace Go.Proofs.Ytilbffbmpgebmaa.RefBase
open Go.RowKit Go.Maps
open Go.Proofs.Ytilbffbmpgebmaa.DiskMath
open Go.Proofs.Ytilbffbmpgebmaa.RefMath
open Go.Proofs.Ytilbffbmpgebmaa.Base
open Go.Proofs.Ytilbffbmpgebmaa.Small
open Go.Proofs.Ytilbffbmpgebmaa.Append
open Go.Proofs.Ytilbffbmpgebmaa.Plan
open Go.Proofs.Ytilbffbmpgebmaa.RefNames
open Go.Proofs.Ytilbffbmpgebmaa.RefWith
set_option linter.unusedVariables false

def flCells (x : Bs × Nat) : List Value := [.string (mk x.1), .int .i64 (x.2 : Int)]
def rcCells : Ch → List Value
  | .make k f => [.int .i64 1, .string (mk k), .string (mk []), .int .i64 (f : Int)]
  | .move a b f => [.int .i64 2, .string (mk a), .string (mk b), .int .i64 (f : Int)]
  | .drop k => [.int .i64 3, .string (mk k), .string (mk []), .int .i64 0]
structure Rl where
  fv : Value
  nv : Value
  lv : Value
  ov : Value
  pv : Value
  P : List Ft
/- what is left of a plan -/
structure PLeft (P : List Ft) (steps : Nat) (left : List Ft) : Prop where
  app : ∃ past, P = past ++ left ∧ ∀ f ∈ past, f.step ≤ (steps : Int)
  rise : P.Pairwise (fun a b => a.step < b.step)
  ahead : ∀ f ∈ left, (steps : Int) < f.step
  good : ∀ f ∈ P, imp f = false
  len : P.length ≤ 1048576
/- the kinds of blocks that the document's disk may turn: the disk, a row of files -/
def ET (n : Nat) : Bool := n == 33 || n == 105
structure RD (base b : Nat) (r : Rl) (d : Dk) (w : World) : Prop where
  disk : w.heap[b]? = some (.cells #[r.fv, r.nv, r.lv, r.ov, r.pv, .int .i64 d.steps, .bool d.down] 31 (0, 0))
  bb : base ≤ b
  fl : w.ownsRow base 103 2 r.fv d.files.length (d.files.flatMap flCells)
  nm : w.ownsRow base 105 2 r.nv d.names.length (d.names.flatMap nmCells)
  ls : w.ownsRow base 105 2 r.lv d.last.length (d.last.flatMap nmCells)
  op : w.ownsRow base 101 4 r.ov d.opens.length (d.opens.flatMap rcCells)
  pl : w.ownsRow base 58 3 r.pv r.P.length (r.P.flatMap ftCells)
  left : PLeft r.P d.steps d.plan
  rn : Rise d.names
  rl : Rise d.last
  hb : base ≤ w.heap.size
theorem RD.keep {T : Nat → Bool} {base bs b : Nat} {r : Rl} {d : Dk} {w w' : World} (h : RD base b r d w) (he : Ev T bs w w') (hT : ∀ n, (n == 33 || n == 105 || n == 107 || n == 103 || n == 60) = true → T n = false) : RD base b r d w' := by
  have hr : ∀ {e sz n : Nat} {v : Value} {xs : List Value}, w.ownsRow base e sz v n xs → (e + 2 == 33 || e + 2 == 105 || e + 2 == 107 || e + 2 == 103 || e + 2 == 60) = true → w'.ownsRow base e sz v n xs := fun hrow ht => row_later hrow fun g hg => by
    obtain ⟨q1, q2, q3⟩ := row_kd hrow hg
    exact he.block g q2 (Or.inr (hT _ (by rw [q1]; exact ht)))
  exact ⟨(he.block b (lt_of h.disk) (Or.inr (hT _ (by rw [kd_cells h.disk]; rfl)))).trans h.disk, h.bb, hr h.fl rfl, hr h.nm rfl, hr h.ls rfl, hr h.op rfl, hr h.pl rfl, h.left, h.rn, h.rl, Nat.le_trans h.hb he.size⟩
theorem RD.below {base b : Nat} {r : Rl} {d : Dk} {w w' : World} (h : RD base b r d w) (he : Below w.heap.size w w') : RD base b r d w' := h.keep (T := fun _ => false) (bs := 0) (Ev.of_below he) (fun _ _ => rfl)
theorem RD.code {base b : Nat} {r : Rl} {d : Dk} {w w' : World} (h : RD base b r d w) (he : Ev DT base w w') : RD base b r d w' := h.keep he (fun n hn => by
  simp only [Bool.or_eq_true, beq_iff_eq] at hn
  rcases hn with (((rfl | rfl) | rfl) | rfl) | rfl <;> rfl)
theorem et_dt {n : Nat} (h : (DT n || n == 60) = true) : ET n = false := by
  unfold DT at h
  simp only [Bool.or_eq_true, beq_iff_eq] at h
  rcases h with ((((rfl | rfl) | rfl) | rfl) | rfl) | rfl <;> rfl
theorem nm_row {base : Nat} {w : World} {v : Value} {l : NL} (h : w.ownsRow base 105 2 v l.length (l.flatMap nmCells)) : NmSl w v l := by
  rcases h.2 with ⟨rfl, h0⟩ | ⟨g, cap, cur, rfl, hb, hg, q1, q2, q3, q4⟩
  · have : l = [] := List.length_eq_zero_iff.1 h0
    subst this
    exact ⟨none, 0, rfl, Or.inl rfl⟩
  · refine ⟨_, cap, rfl, Or.inr ⟨g, 0, rfl, fun k hk => ?_⟩⟩
    obtain ⟨d0, d1⟩ := nflat_at l k hk
    have c0 := h.cellAt (k * 2) (by omega)
    have c1 := h.cellAt (k * 2 + 1) (by omega)
    rw [Nat.zero_add]
    exact ⟨c0.trans d0, c1.trans d1⟩
theorem RD.cell {base b : Nat} {r : Rl} {d : Dk} {w : World} (h : RD base b r d w) (i : Nat) : w.cell? ⟨b, i, none⟩ = (#[r.fv, r.nv, r.lv, r.ov, r.pv, .int .i64 d.steps, .bool d.down] : Array Value)[i]? := Lib.cell_of_heap h.disk i
theorem RD.frozen {base b : Nat} {r : Rl} {d : Dk} {w : World} (h : RD base b r d w) (i : Nat) : w.frozen? ⟨b, i, none⟩ = false := Lib.frozen_of_heap h.disk i
def askF (d : Dk) (name : Bs) : Int := if d.asked name = 0 then (d.file name : Int) else -1
set_option maxRecDepth 100000 in
theorem rasked_call (base b : Nat) (r : Rl) (d : Dk) (s : ByteArray) (w : World) (h : RD base b r d w) (hl : d.names.length < 1099511627776) :
    Calls Try.prog 58 #[ptr b, .string s] w fun e w' => e = .returned (.tuple #[.int .i64 (askF d (bs s)), .int .i64 (d.asked (bs s))]) ∧ w' = w := by
  have c6 : w.cell? ⟨b, 6, none⟩ = some (.bool d.down) := h.cell 6
  have c1 : w.cell? ⟨b, 1, none⟩ = some r.nv := h.cell 1
  have HF := hid_of (rfind_call r.nv d.names s w (nm_row h.nm) hl)
  obtain ⟨a, c, hv, _⟩ := nm_row h.nm
  rw [hv] at c1 HF
  have HE : Hid (askF d (bs s) = askF d (bs s)) := rfl
  clear h
  unfold ptr
  cases hd : d.down with
  | true =>
    rw [hd] at c6
    have HA : Hid (d.asked (bs s) = 53 ∧ askF d (bs s) = -1) := by
      have : d.asked (bs s) = 53 := by unfold Dk.asked; rw [hd]; rfl
      exact ⟨this, by unfold askF; rw [this]; rfl⟩
    go_enter Try.func58, Try.ntmps58
    go_wp2_with fail
    go_ret2
    rw [HA.out.1, HA.out.2]
    exact ⟨rfl, rfl⟩
  | false =>
    rw [hd] at c6
    by_cases hs : bs s = []
    · have HA : Hid (d.asked (bs s) = 1 ∧ askF d (bs s) = -1) := by
        have : d.asked (bs s) = 1 := by unfold Dk.asked; rw [hd, hs]; rfl
        exact ⟨this, by unfold askF; rw [this]; rfl⟩
      have hes : s.toList.isEmpty = true := by rw [Lib.toList_data]; show (bs s).isEmpty = true; rw [hs]; rfl
      clear hs
      go_enter Try.func58, Try.ntmps58
      go_wp2_with fail
      go_ret2
      rw [HA.out.1, HA.out.2]
      exact ⟨rfl, rfl⟩
    · have hes : s.toList.isEmpty = false := by
        rw [Lib.toList_data]
        show (bs s).isEmpty = false
        cases hq : bs s with
        | nil => exact absurd hq hs
        | cons _ _ => rfl
      cases hk : lkp d.names (bs s) with
      | none =>
        have HA : Hid (d.asked (bs s) = 50 ∧ askF d (bs s) = -1) := by
          have : d.asked (bs s) = 50 := by unfold Dk.asked; rw [hd, if_neg (by simp), if_neg hs, hk]
          exact ⟨this, by unfold askF; rw [this]; rfl⟩
        have hfs : findS d.names (bs s) = -1 := by unfold findS; rw [hk]
        rw [hfs] at HF
        clear hs hk hfs
        go_enter Try.func58, Try.ntmps58
        go_wp2_with fail
        refine HF.out.mono ?_
        rintro e w' ⟨rfl, rfl⟩
        go_wp2_with fail
        go_ret2
        rw [HA.out.1, HA.out.2]
        exact ⟨rfl, rfl⟩
      | some f =>
        have HA : Hid (d.asked (bs s) = 0 ∧ askF d (bs s) = (f : Int)) := by
          have : d.asked (bs s) = 0 := by unfold Dk.asked; rw [hd, if_neg (by simp), if_neg hs, hk]
          exact ⟨this, by unfold askF; rw [if_pos this]; unfold Dk.file; rw [hk]; rfl⟩
        have hfs : findS d.names (bs s) = (f : Int) := by unfold findS; rw [hk]
        have hf0 : ¬ (f : Int) < 0 := by omega
        rw [hfs] at HF
        clear hs hk hfs
        go_enter Try.func58, Try.ntmps58
        go_wp2_with fail
        refine HF.out.mono ?_
        rintro e w' ⟨rfl, rfl⟩
        go_wp2_with fail
        go_ret2
        rw [HA.out.1, HA.out.2]
        exact ⟨rfl, rfl⟩
end Go.Proofs.Ytilbffbmpgebmaa.RefBase
