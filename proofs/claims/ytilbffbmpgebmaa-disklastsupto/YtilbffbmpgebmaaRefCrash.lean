/- The document's own Crash. -/
import Derived.Test.YtilbffbmpgebmaaRefOps2
import Derived.Test.YtilbffbmpgebmaaRefTrunc
import Derived.Test.YtilbffbmpgebmaaCrash
namespace Go.Proofs.Ytilbffbmpgebmaa.RefCrash
open Go.RowKit Go.Maps
open Go.Proofs.Ytilbffbmpgebmaa.DiskMath
open Go.Proofs.Ytilbffbmpgebmaa.RefMath
open Go.Proofs.Ytilbffbmpgebmaa.Base
open Go.Proofs.Ytilbffbmpgebmaa.Small
open Go.Proofs.Ytilbffbmpgebmaa.Append
open Go.Proofs.Ytilbffbmpgebmaa.Plan
open Go.Proofs.Ytilbffbmpgebmaa.File
open Go.Proofs.Ytilbffbmpgebmaa.File2
open Go.Proofs.Ytilbffbmpgebmaa.Crash
open Go.Proofs.Ytilbffbmpgebmaa.RefNames
open Go.Proofs.Ytilbffbmpgebmaa.RefWith
open Go.Proofs.Ytilbffbmpgebmaa.RefBase
open Go.Proofs.Ytilbffbmpgebmaa.RefChange
open Go.Proofs.Ytilbffbmpgebmaa.RefFault
open Go.Proofs.Ytilbffbmpgebmaa.RefFiles
open Go.Proofs.Ytilbffbmpgebmaa.RefFiles2
open Go.Proofs.Ytilbffbmpgebmaa.RefTurn
open Go.Proofs.Ytilbffbmpgebmaa.RefTrunc
set_option linter.unusedVariables false
set_option linter.unusedSimpArgs false

theorem rcflat_len (l : List Ch) : (l.flatMap rcCells).length = l.length * 4 := by
  induction l with
  | nil => rfl
  | cons c r ih => rw [List.flatMap_cons, List.length_append, ih, List.length_cons]; cases c <;> simp [rcCells] <;> omega
theorem rcflat_at : ∀ (l : List Ch) (k : Nat) (h : k < l.length) (i : Nat), i < 4 → (l.flatMap rcCells)[k * 4 + i]? = (rcCells (l[k]'h))[i]?
  | c :: r, 0, h, i, hi => by
    rw [List.flatMap_cons]
    show (rcCells c ++ r.flatMap rcCells)[0 * 4 + i]? = (rcCells c)[i]?
    rw [Nat.zero_mul, Nat.zero_add, List.getElem?_append_left]
    cases c <;> exact hi
  | c :: r, k + 1, h, i, hi => by
    have ih := rcflat_at r k (by simpa using h) i hi
    rw [List.flatMap_cons, List.getElem?_append_right (by cases c <;> simp [rcCells] <;> omega)]
    have e : (k + 1) * 4 + i - (rcCells c).length = k * 4 + i := by cases c <;> simp [rcCells] <;> omega
    rw [e, ih]
    rfl
/- an open change, to be read -/
theorem op_at {base b : Nat} {r : Rl} {d : Dk} {w : World} (h : RD base b r d w) {k : Nat} (hk : k < d.opens.length) : ∃ g cap u0 u1 u2 u3, r.ov = .slice (some ⟨g, 0, none⟩) d.opens.length cap ∧ rcV (d.opens[k]) = .agg #[u0, u1, u2, u3] ∧ w.cell? ⟨g, k * 4, none⟩ = some u0 ∧ w.cell? ⟨g, k * 4 + 1, none⟩ = some u1 ∧ w.cell? ⟨g, k * 4 + 2, none⟩ = some u2 ∧ w.cell? ⟨g, k * 4 + 3, none⟩ = some u3 := by
  rcases h.op.2 with ⟨q, h0⟩ | ⟨g, cap, cur, q, hb, hg, q1, q2, q3, q4⟩
  · omega
  · obtain ⟨u0, u1, u2, u3, hu⟩ := rc_four (d.opens[k])
    have hop := h.op
    rw [q] at hop
    have e : ∀ i, i < 4 → w.cell? ⟨g, k * 4 + i, none⟩ = ([u0, u1, u2, u3] : List Value)[i]? := fun i hi => by
      rw [hop.cellAt (k * 4 + i) (by omega), rcflat_at d.opens k hk i hi, hu]
    refine ⟨g, cap, u0, u1, u2, u3, q, by unfold rcV; rw [hu], e 0 (by omega), e 1 (by omega), e 2 (by omega), e 3 (by omega)⟩
theorem all_snoc (l : List Ch) (k : Nat) (h : k < l.length) (n : NL) : applyAll (l.take (k + 1)) n = (l[k]).on (applyAll (l.take k) n) := by
  unfold applyAll
  rw [take_snoc l k h, List.foldl_append]
  rfl
/- what stands behind the first k changes -/
structure C1 (base b : Nat) (r : Rl) (d : Dk) (w0 : World) (k : Nat) (v : Value) (wx : World) : Prop where
  row : wx.ownsRow base 105 2 v (applyAll (d.opens.take k) d.last).length ((applyAll (d.opens.take k) d.last).flatMap nmCells)
  bel : Below w0.heap.size w0 wx
theorem c1_step {base b : Nat} {r : Rl} {d : Dk} {w0 : World} {k : Nat} {v v' : Value} {wx w' : World} (h : C1 base b r d w0 k v wx) (hk : k < d.opens.length) (hb : base ≤ w0.heap.size) (ho : ON wx ((d.opens[k]).on (applyAll (d.opens.take k) d.last)) v' w') : C1 base b r d w0 (k + 1) v' w' := by
  have hbx : base ≤ wx.heap.size := Nat.le_trans hb h.bel.size
  refine ⟨?_, h.bel.trans (ho.2.mono h.bel.size)⟩
  rw [all_snoc _ _ hk]
  exact row_low ho.1 hbx
def Zx (x : Bs × Nat) : Prop := x.2 ≤ x.1.length ∧ x.1.length ≤ 140737488355328
theorem zx_crash (m : Int) {x : Bs × Nat} (h : Zx x) : Zx (crashF m x) := by
  unfold crashF syncF cutF
  refine ⟨Nat.le_refl _, ?_⟩
  show (x.1.take _).length ≤ _
  rw [List.length_take]
  have := h.2
  omega
theorem zx_files (bytes : List Int) : ∀ (l : NL) (i : Nat) (fs : List (Bs × Nat)), (∀ x ∈ fs, Zx x) → ∀ x ∈ crashFiles bytes i l fs, Zx x
  | [], _, _, h => h
  | p :: r, i, fs, h => zx_files bytes r (i + 1) _ fun x hx => by
    obtain ⟨j, hj⟩ := List.mem_iff_getElem?.1 hx
    rw [List.getElem?_modify] at hj
    cases hq : fs[j]? with
    | none => rw [hq] at hj; simp at hj
    | some y =>
      rw [hq] at hj
      have hy := h y (List.mem_of_getElem? hq)
      by_cases he : p.2 = j
      · simp [he] at hj; rw [← hj]; exact zx_crash _ hy
      · simp [he] at hj; rw [← hj]; exact hy
/- what stands behind the first i files -/
structure C2 (base b : Nat) (r : Rl) (d : Dk) (w : World) (N : NL) (v : Value) (bytes : List Int) (cn : Int) (bv : Value) (i : Nat) (wx : World) : Prop where
  rd : RD base b r { d with files := crashFiles bytes 0 (N.take i) d.files } wx
  row : wx.ownsRow base 105 2 v N.length (N.flatMap nmCells)
  ev : Ev ET base w wx
  box : wx.heap[w.heap.size]? = some (.cells #[.int .i64 cn, bv] 36 (0, 0))
theorem at_below {w w' : World} {base : Nat} {fv : Value} {fs : List (Bs × Nat)} {f : Nat} {x : Bs × Nat} {g cap : Nat} (h : At w base fv fs f x g cap) (hb : Below w.heap.size w w') : At w' base fv fs f x g cap := by
  obtain ⟨cur, hg⟩ := h.blk
  exact ⟨h.val, h.lt, ⟨cur, (hb.block g (lt_of hg)).trans hg⟩, cell_on hb h.c0, cell_on hb h.c1⟩
theorem c2_below {base b : Nat} {r : Rl} {d : Dk} {w : World} {N : NL} {v : Value} {bytes : List Int} {cn : Int} {bv : Value} {i : Nat} {wx wy : World} (h : C2 base b r d w N v bytes cn bv i wx) (hb : Below wx.heap.size wx wy) : C2 base b r d w N v bytes cn bv i wy :=
  ⟨h.rd.below hb, row_later h.row (fun g hg => hb.block g (row_kd h.row hg).2.1), h.ev.trans (Ev.of_below hb), (hb.block _ (lt_of h.box)).trans h.box⟩
theorem c2_drew {base b : Nat} {r : Rl} {d : Dk} {w : World} {N : NL} {v : Value} {bytes : List Int} {cn : Int} {bv : Value} {i : Nat} {wx : World} (h : C2 base b r d w N v bytes cn bv i wx) : C2 base b r d w N v bytes cn bv i wx.drew := c2_below h (bd1 wx)
/- the last row of a crash -/
theorem rd_reset {base b : Nat} {r : Rl} {d : Dk} {w : World} {N : NL} {v : Value} {fs : List (Bs × Nat)} (h : RD base b r { d with files := fs } w) (hr : w.ownsRow base 105 2 v N.length (N.flatMap nmCells)) (hn : Rise N) :
    RD base b { r with nv := v, lv := v, ov := .slice none 0 0, pv := .slice none 0 0, P := [] } { d with names := N, last := N, opens := [], files := fs, plan := [], down := false } (((((w.setCell ⟨b, 1, none⟩ v).setCell ⟨b, 2, none⟩ v).setCell ⟨b, 3, none⟩ (.slice none 0 0)).setCell ⟨b, 4, none⟩ (.slice none 0 0)).setCell ⟨b, 6, none⟩ (.bool false)) ∧
    Ev ET base w (((((w.setCell ⟨b, 1, none⟩ v).setCell ⟨b, 2, none⟩ v).setCell ⟨b, 3, none⟩ (.slice none 0 0)).setCell ⟨b, 4, none⟩ (.slice none 0 0)).setCell ⟨b, 6, none⟩ (.bool false)) := by
  have h1 := set_at (i := 1) h.disk v
  have h2 := set_at (i := 2) h1 v
  have h3 := set_at (i := 3) h2 (.slice none 0 0)
  have h4 := set_at (i := 4) h3 (.slice none 0 0)
  have h6 := set_at (i := 6) h4 (.bool false)
  have hk : ∀ k, k < w.heap.size → k ≠ b → (((((w.setCell ⟨b, 1, none⟩ v).setCell ⟨b, 2, none⟩ v).setCell ⟨b, 3, none⟩ (.slice none 0 0)).setCell ⟨b, 4, none⟩ (.slice none 0 0)).setCell ⟨b, 6, none⟩ (.bool false)).heap[k]? = w.heap[k]? := fun k _ hne => (set_ne hne _).trans ((set_ne hne _).trans ((set_ne hne _).trans ((set_ne hne _).trans (set_ne hne _))))
  refine ⟨rd_own (r' := { r with nv := v, lv := v, ov := .slice none 0 0, pv := .slice none 0 0, P := [] }) (d' := { d with names := N, last := N, opens := [], files := fs, plan := [], down := false }) h hk (by simp only [size_set]; exact Nat.le_refl _) h6 rfl rfl (row_own h hk hr (by decide)) (row_own h hk hr (by decide)) (World.ownsRow_nil _ _ _ _) (World.ownsRow_nil _ _ _ _) ⟨⟨[], rfl, (fun f hf => by cases hf)⟩, List.Pairwise.nil, (fun f hf => by cases hf), (fun f hf => by cases hf), Nat.zero_le _⟩ hn hn, ((((Ev.set h.disk h.bb rfl v).trans (Ev.set h1 h.bb rfl v)).trans (Ev.set h2 h.bb rfl _)).trans (Ev.set h3 h.bb rfl _)).trans (Ev.set h4 h.bb rfl _)⟩
theorem int_len {w : World} {a : Option Addr} {n c : Nat} {l : List Int} (h : IntSl w (.slice a n c) l) : n = l.length := by
  obtain ⟨a', c', e, _⟩ := h
  injection e
set_option maxHeartbeats 8000000 in
set_option maxRecDepth 100000 in
theorem rcrash_call (base b : Nat) (r : Rl) (d : Dk) (w : World) (h : RD base b r d w) (ok : Ok d) (cn : Int) (a0 : Option Addr) (n0 c0 : Nat) (bytes : List Int) (hst : d.steps < 1099511627776) (hbl : bytes.length ≤ 9223372036854775807)
    (hB : ∀ W, Ev ET base w W → IntSl W (.slice a0 n0 c0) bytes) (hz : ∀ x ∈ d.files, x.2 ≤ x.1.length ∧ x.1.length ≤ 140737488355328) :
    Calls Try.prog 28 #[ptr b, .agg #[.int .i64 cn, .slice a0 n0 c0]] w fun e w' => e = .returned (.tuple #[]) ∧ RHas base b (d.crash cn bytes) w' ∧ Ev ET base w w' := by
  obtain ⟨W0, hW0⟩ : ∃ W0, W0 = w.alloc (.cells #[.int .i64 cn, .slice a0 n0 c0] 36) := ⟨_, rfl⟩
  have b0 : Below w.heap.size w W0 := by rw [hW0]; exact (Below.refl _ w).alloc (Nat.le_refl _) _
  have HBX : Hid (W0.heap[w.heap.size]? = some (.cells #[.int .i64 cn, .slice a0 n0 c0] 36 (0, 0))) := by rw [hW0]; exact heap_alloc_new w _
  have H0 := hid_of (h.below b0)
  have HB := hid_of hB
  have EV0 : Hid (Ev ET base w W0) := Ev.of_below b0
  have OK := hid_of ok
  have HZ := hid_of hz
  have hol : d.opens.length < 1099511627776 := by have := ok.llen; omega
  have hnl : ∀ k, k ≤ d.opens.length → (applyAll (d.opens.take k) d.last).length < 1099511627776 := fun k hk => by
    have := all_len (d.opens.take k) d.last
    have h2 := ok.llen
    rw [List.length_take] at this
    omega
  have HNL := hid_of hnl
  have c2 : W0.cell? ⟨b, 2, none⟩ = some r.lv := H0.out.cell 2
  obtain ⟨al, cl, hlv, _⟩ := nm_row h.ls
  rw [hlv] at c2
  have HLV := hid_of hlv
  rw [hW0] at c2
  have S0 : Hid (C1 base b r d W0 0 (.slice al d.last.length cl) W0) := ⟨by rw [← hlv]; exact H0.out.ls, Below.refl _ _⟩
  obtain ⟨m, hm⟩ : ∃ m, m = within cn d.opens.length := ⟨_, rfl⟩
  have hmd : m ≤ d.opens.length ∧ (∀ k : Nat, k < m → (k : Int) < cn) ∧ (m < d.opens.length → ¬ (m : Int) < cn) := by
    rw [hm]
    unfold within
    refine ⟨by omega, fun k hk => by omega, fun hk => by omega⟩
  have HM := hid_of hm
  obtain ⟨ao, co, hov⟩ := row_shape H0.out.op
  have HOV := hid_of hov
  clear h hB ok hz hnl b0 hlv hm hov
  unfold ptr
  go_enter Try.func28, Try.ntmps28
  go_wp2_with fail
  rw [← hW0]
  have HW0 := hid_of hW0
  clear hW0 c2
  go_loopg [5, 4] m (fun g si sv wx => ∃ k : Nat, k ≤ m ∧ m ≤ k + g ∧ si = .int .i64 k ∧ Hid (C1 base b r d W0 k sv wx))
  case atStart => exact ⟨0, by omega, by omega, rfl, S0⟩
  case round =>
    clear S0
    obtain ⟨k, hk, hg, rfl, HC⟩ := hrel
    have hR := H0.out.below HC.out.bel
    have q3 : wr.cell? ⟨b, 3, none⟩ = some r.ov := hR.cell 3
    have hbx := (HC.out.bel.block _ (lt_of HBX.out)).trans HBX.out
    have x0 : wr.cell? ⟨w.heap.size, 0, none⟩ = some (.int .i64 cn) := Lib.cell_of_heap hbx 0
    obtain ⟨a4, k4, hv4, _⟩ := nm_row HC.out.row
    subst hv4
    by_cases hlt : k < m
    · obtain ⟨g', rfl⟩ : ∃ g', gk = g' + 1 := ⟨gk - 1, by omega⟩
      have hko : k < d.opens.length := by have := hmd.1; omega
      obtain ⟨gg, cap, u0, u1, u2, u3, e1, e2, y0, y1, y2, y3⟩ := op_at hR hko
      rw [e1] at q3
      have gi : (k : Int) < (d.opens.length : Int) := by omega
      have gj : (k : Int) < cn := hmd.2.1 k hlt
      have ew : IntKind.i64.wrap ((k : Int) + 1) = (k : Int) + 1 := IntWalk.i64_in _ (by omega)
      have H57 := hid_of (rchange_call _ (applyAll (d.opens.take k) d.last) (d.opens[k]) wr (nm_row HC.out.row) (HNL.out k (by omega)) (rise_all _ H0.out.rl))
      rw [e2] at H57
      clear hR hbx e1 e2
      go_wp2_with fail
      refine H57.out.mono ?_
      rintro e w1 ⟨v1, rfl, o1⟩
      have HC1 := hid_of (c1_step HC.out hko H0.out.hb o1)
      clear o1
      go_wp2_with fail
      go_roundg g'
      case measure => omega
      case rel => exact ⟨k + 1, by omega, by omega, by rw [show ((k + 1 : Nat) : Int) = (k : Int) + 1 from by omega], HC1⟩
    · obtain rfl : k = m := by omega
      obtain ⟨N, hN⟩ : ∃ N, N = applyAll (d.opens.take k) d.last := ⟨_, rfl⟩
      have hNl : N.length < 1099511627776 := by rw [hN]; exact HNL.out k hmd.1
      have HNok : Hid (NOk d.files.length N) := by
        rw [hN]
        exact NOk.all OK.out.last (fun c hc => OK.out.opens c (List.mem_of_mem_take hc))
      have HNr : Hid (Rise N) := by rw [hN]; exact rise_all _ H0.out.rl
      have hn0 : n0 = bytes.length := int_len (HB.out w (Ev.refl _ _ _))
      subst hn0
      have HFin : Hid (d.crash cn bytes = { d with names := N, last := N, opens := [], files := crashFiles bytes 0 N d.files, plan := [], down := false }) := by
        show _ = _
        unfold Dk.crash Dk.settle
        dsimp only
        rw [← HM.out, ← hN]
      have hrow := HC.out.row
      rw [← hN] at hrow
      rw [← hN]
      obtain ⟨n, hn⟩ : ∃ n, n = N.length := ⟨_, rfl⟩
      have S1 : Hid (C2 base b r d w N (.slice a4 N.length k4) bytes cn (.slice a0 bytes.length c0) 0 wr) := ⟨by rw [List.take_zero]; exact hR, hrow, EV0.out.trans (Ev.of_below HC.out.bel), hbx⟩
      have q3' : wr.cell? ⟨b, 3, none⟩ = some (.slice ao d.opens.length co) := by rw [← HOV.out]; exact q3
      have hstop : ((k : Int) < (d.opens.length : Int)) ∧ ¬ ((k : Int) < cn) ∨ ¬ ((k : Int) < (d.opens.length : Int)) := by
        by_cases q : k < d.opens.length
        · exact Or.inl ⟨by omega, by have := hmd.2.2 q; omega⟩
        · exact Or.inr (by omega)
      clear hR hbx hrow HC hN q3 hmd
      rcases hstop with ⟨gi, gj⟩ | gi
      all_goals
        go_wp2_with fail
        clear gi q3' x0
        go_loopg [6] N.length (fun g si wx => ∃ i : Nat, i ≤ N.length ∧ N.length ≤ i + g ∧ si = .int .i64 i ∧ Hid (C2 base b r d w N (.slice a4 N.length k4) bytes cn (.slice a0 bytes.length c0) i wx))
        case atStart => exact ⟨0, by omega, by omega, rfl, S1⟩
        case round =>
          clear S1
          obtain ⟨i, hi, hgi, rfl, I⟩ := hrel
          have q0 : wr.cell? ⟨b, 0, none⟩ = some r.fv := I.out.rd.cell 0
          have x1 : wr.cell? ⟨w.heap.size, 1, none⟩ = some (.slice a0 bytes.length c0) := Lib.cell_of_heap I.out.box 1
          by_cases hlt : i < N.length
          · obtain ⟨g', rfl⟩ : ∃ g', gk = g' + 1 := ⟨gk - 1, by omega⟩
            obtain ⟨p, hp⟩ : ∃ p, p = N[i] := ⟨_, rfl⟩
            have hpl : p.2 < d.files.length := HNok.out.ids p (by rw [hp]; exact List.getElem_mem hlt)
            obtain ⟨x, hx⟩ : ∃ x, (crashFiles bytes 0 (N.take i) d.files)[p.2]? = some x := ⟨_, List.getElem?_eq_getElem (by rw [crash_len]; exact hpl)⟩
            have hzx : Zx x := zx_files bytes _ 0 _ (fun y hy => HZ.out y hy) x (List.mem_of_getElem? hx)
            obtain ⟨g, cap, at1⟩ := fl_at I.out.rd hx
            have hv := at1.val
            rw [hv] at q0
            have f0 := at1.c0
            have f1 := at1.c1
            have hfl : ((p.2 : Nat) : Int) < ((crashFiles bytes 0 (N.take i) d.files).length : Int) := by have := at1.lt; dsimp only at this; omega
            have hfl2 : p.2 < (crashFiles bytes 0 (N.take i) d.files).length := at1.lt
            obtain ⟨gn, on, e4, hcn⟩ : ∃ g o, a4 = some ⟨g, o, none⟩ ∧ ∀ k (h : k < N.length), wr.cell? ⟨g, o + k * 2, none⟩ = some (.string (mk (N[k]'h).1)) ∧ wr.cell? ⟨g, o + k * 2 + 1, none⟩ = some (.int .i64 ((N[k]'h).2 : Int)) := by
              obtain ⟨a', c', e, hh⟩ := nm_row I.out.row
              injection e with e1 e2 e3
              subst e1
              rcases hh with q | q
              · rw [q] at hlt; simp at hlt
              · exact q
            subst e4
            have r1 := (hcn i hlt).2
            rw [← hp] at r1
            have gi : (i : Int) < (N.length : Int) := by omega
            have ew : IntKind.i64.wrap ((i : Int) + 1) = (i : Int) + 1 := IntWalk.i64_in _ (by omega)
            have HX : Hid (mk x.1 = mk x.1) := rfl
            obtain ⟨X, hX⟩ : ∃ X, X = mk x.1 := ⟨_, rfl⟩
            rw [← hX] at f0
            have HP := hid_of hp
            have HXe := hid_of hX
            have ra : (wr.alloc (.cells #[.string ⟨#[]⟩, .int .i64 0] 103)).cell? ⟨gn, on + i * 2 + 1, none⟩ = some (.int .i64 (p.2 : Int)) := (World.cell?_alloc_lt _ _ _ (World.block_lt_of_cell? _ _ r1)).trans r1
            have fa0 : (wr.alloc (.cells #[.string ⟨#[]⟩, .int .i64 0] 103)).cell? ⟨g, p.2 * 2, none⟩ = some (.string X) := (World.cell?_alloc_lt _ _ _ (World.block_lt_of_cell? _ _ f0)).trans f0
            have fa1 : (wr.alloc (.cells #[.string ⟨#[]⟩, .int .i64 0] 103)).cell? ⟨g, p.2 * 2 + 1, none⟩ = some (.int .i64 (x.2 : Int)) := (World.cell?_alloc_lt _ _ _ (World.block_lt_of_cell? _ _ f1)).trans f1
            have qa : (wr.alloc (.cells #[.string ⟨#[]⟩, .int .i64 0] 103)).cell? ⟨b, 0, none⟩ = some (.slice (some ⟨g, 0, none⟩) (crashFiles bytes 0 (N.take i) d.files).length cap) := (World.cell?_alloc_lt _ _ _ (World.block_lt_of_cell? _ _ q0)).trans q0
            clear hcn hp hX HX hv
            go_wp2_with fail
            go_region
            all_goals
              obtain ⟨B7, hB7⟩ : ∃ B7, B7 = wr.heap.size := ⟨_, rfl⟩
              obtain ⟨V, hV⟩ : ∃ V, V = (wr.alloc (.cells #[.string X, .int .i64 (x.2 : Int)] 103)).drew := ⟨_, rfl⟩
              have hbV : Below wr.heap.size wr V := by rw [hV]; exact ((Below.refl _ wr).alloc (Nat.le_refl _) _).drew
              have h7 : V.heap[B7]? = some (.cells #[.string X, .int .i64 (x.2 : Int)] 103 (0, 0)) := by rw [hV, hB7]; exact heap_alloc_new wr _
              rw [← hV, ← hB7]
              have HBV := hid_of hbV
              have H7 := hid_of h7
              have HB7 := hid_of hB7
              have v0 : V.cell? ⟨B7, 0, none⟩ = some (.string X) := Lib.cell_of_heap h7 0
              have v1 : V.cell? ⟨B7, 1, none⟩ = some (.int .i64 (x.2 : Int)) := Lib.cell_of_heap h7 1
              have vz0 : V.frozen? ⟨B7, 0, none⟩ = false := Lib.frozen_of_heap h7 0
              have vz1 : V.frozen? ⟨B7, 1, none⟩ = false := Lib.frozen_of_heap h7 1
              have vx : V.cell? ⟨w.heap.size, 1, none⟩ = some (.slice a0 bytes.length c0) := cell_on hbV x1
              have vq0 := cell_on hbV q0
              have vr1 := cell_on hbV r1
              have HV0 := hid_of (And.intro vq0 vr1)
              have HXs : Hid (X.size = x.1.length) := by show _ = _; rw [HXe.out, mk_size]
              have hXs : (X.size : Int) = (x.1.length : Int) := by rw [HXs.out]
              have hle := hzx.1
              have hbig := hzx.2
              obtain ⟨o, ho⟩ : ∃ o, o = outl bytes i := ⟨_, rfl⟩
              have HO := hid_of ho
              obtain ⟨Lx, hLx⟩ : ∃ Lx, Lx = x.1.length - x.2 := ⟨_, rfl⟩
              have eS : IntKind.i64.wrap ((X.size : Int) - (x.2 : Int)) = (Lx : Int) := by rw [hXs, IntWalk.i64_in _ (by omega)]; omega
              have HLx := hid_of hLx
              have HZX := hid_of hzx
              have hLb : Lx ≤ 140737488355328 := by omega
              have hx2b : x.2 + Lx ≤ 140737488355328 := by omega
              have HINT := hid_of (HB.out V (I.out.ev.trans (Ev.of_below hbV)))
              clear hV hbV h7 hB7 ra fa0 fa1 qa hXs hle hbig ho hLx hzx
              by_cases hb0 : bytes.length = 0
              · have gl : ¬ (0 : Int) < (bytes.length : Int) := by omega
                obtain ⟨kk, hkk⟩ : ∃ kk : Nat, kk = 0 := ⟨_, rfl⟩
                have hkw : within o Lx = kk := by rw [HO.out]; unfold outl within; rw [if_pos hb0]; omega
                clear hb0
                have hkL : kk ≤ Lx := by omega
                have gm : ¬ (Lx : Int) < 0 := by omega
                have eA : IntKind.i64.wrap (x.2 : Int) = (x.2 : Int) := IntWalk.i64_in _ (by omega)
                have hxk : x.2 + kk = x.2 := by omega
                have hsl := slice_to X (x.2 + kk) (by rw [HXs.out]; have := HLx.out; have := HZX.out.1; omega)
                obtain ⟨Y, hY⟩ : ∃ Y, Y = X.extract 0 (x.2 + kk) := ⟨_, rfl⟩
                rw [← hY, hxk] at hsl
                have hYe : Y = mk (x.1.take (x.2 + kk)) := by rw [hY, HXe.out, mk_ext]
                have hYs : (Y.size : Int) = ((x.1.take (x.2 + kk)).length : Int) := by rw [hYe, mk_size]
                have HYe := hid_of hYe
                have HYs := hid_of hYs
                obtain ⟨V2, hV2⟩ : ∃ V2, V2 = (V.setCell ⟨B7, 0, none⟩ (.string Y)).setCell ⟨B7, 1, none⟩ (.int .i64 (Y.size : Int)) := ⟨_, rfl⟩
                have h72 : V2.heap[B7]? = some (.cells #[.string Y, .int .i64 (Y.size : Int)] 103 (0, 0)) := by rw [hV2]; exact set_at (i := 1) (set_at (i := 0) H7.out _) _
                have hbV2 : Below wr.heap.size wr V2 := by rw [hV2]; exact (HBV.out.setCell (p := ⟨B7, 0, none⟩) (by rw [HB7.out]; exact Nat.le_refl _) _).setCell (p := ⟨B7, 1, none⟩) (by rw [HB7.out]; exact Nat.le_refl _) _
                have rd2 := I.out.rd.below hbV2
                obtain ⟨rd3, ev3⟩ := rd_bytes rd2 (at_below at1 hbV2) (x.1.take (x.2 + kk))
                have hx3 := upd_get (d := { d with files := crashFiles bytes 0 (N.take i) d.files }) hx (fun x' => (x.1.take (x.2 + kk), x'.2))
                obtain ⟨g3, cap3, at3⟩ := fl_at rd3 hx3
                have hg3 : g3 = g := by
                  have e1 := at3.val
                  rw [at1.val] at e1
                  injection e1 with e1 e2 e3
                  injection e1 with e1
                  injection e1 with e1
                  exact e1.symm
                subst hg3
                obtain ⟨rd4, ev4⟩ := rd_synced rd3 at3 (x.1.take (x.2 + kk)).length
                rw [upd_two] at rd4
                have HFI : Hid (C2 base b r d w N (.slice (some ⟨gn, on, none⟩) N.length k4) bytes cn (.slice a0 bytes.length c0) (i + 1) ((V2.setCell ⟨g3, p.2 * 2, none⟩ (.string Y)).setCell ⟨g3, p.2 * 2 + 1, none⟩ (.int .i64 (Y.size : Int)))) := by
                  rw [HYs.out, HYe.out]
                  have evT := (I.out.ev.trans (Ev.of_below hbV2)).trans (ev3.trans ev4)
                  refine ⟨?_, ?_, evT, ?_⟩
                  · have e : crashFiles bytes 0 (N.take (i + 1)) d.files = (({ d with files := crashFiles bytes 0 (N.take i) d.files } : Dk).upd p.2 (fun x' => (x.1.take (x.2 + kk), (x.1.take (x.2 + kk)).length))).files := by
                      rw [take_snoc N i hlt, crash_snoc, ← HP.out]
                      show (crashFiles bytes 0 (N.take i) d.files).modify p.2 _ = (crashFiles bytes 0 (N.take i) d.files).modify p.2 _
                      have e2 := congrArg Dk.files (upd_congr (d := { d with files := crashFiles bytes 0 (N.take i) d.files }) hx (f := crashF (outl bytes (0 + (N.take i).length))) (g := fun x' => (x.1.take (x.2 + kk), (x.1.take (x.2 + kk)).length)) (by
                        rw [Nat.zero_add, List.length_take, Nat.min_eq_left (Nat.le_of_lt hlt), ← HO.out]
                        unfold crashF syncF cutF
                        rw [← HLx.out, hkw]))
                      exact e2
                    rw [e]
                    exact rd4
                  · refine row_later I.out.row fun gq hq => ?_
                    obtain ⟨q1, q2, q3⟩ := row_kd I.out.row hq
                    have := (Ev.of_below (T := ET) (base := base) hbV2).trans (ev3.trans ev4)
                    exact this.block gq q2 (Or.inr (by rw [q1]; rfl))
                  · have := (Ev.of_below (T := ET) (base := base) hbV2).trans (ev3.trans ev4)
                    exact (this.block _ (lt_of I.out.box) (Or.inr (by rw [kd_cells I.out.box]; rfl))).trans I.out.box
                have b0 : V2.cell? ⟨B7, 0, none⟩ = some (.string Y) := Lib.cell_of_heap h72 0
                have b1 : V2.cell? ⟨B7, 1, none⟩ = some (.int .i64 (Y.size : Int)) := Lib.cell_of_heap h72 1
                have at2 := at_below at1 hbV2
                have w0 := at2.c0
                have w1 := at2.c1
                have wz0 := at2.frozen (p.2 * 2)
                have wz1 := at2.frozen (p.2 * 2 + 1)
                have wq0 := cell_on hbV2 q0
                have wr1 := cell_on hbV2 r1
                clear at1 at2 at3 rd2 rd3 rd4 ev3 ev4 hx hx3 h72 hbV2 hY hYe hYs hkw q0 r1 f0 f1 x1
                generalize mk x.1 = X9 at w0
                clear hkk hxk
                go_wp2_with fail
                first | rw [← hV2] | skip
                clear hV2 v0 v1 vz0 vz1 vx vq0 vr1 hsl eA eS
                go_region
                all_goals
                  go_wp2_with fail
                  go_roundg g'
                  case measure => omega
                  case rel => exact ⟨i + 1, by omega, by omega, by rw [show ((i + 1 : Nat) : Int) = (i : Int) + 1 from by omega], c2_drew HFI.out⟩
              · have hpos : 0 < bytes.length := by omega
                have hm : i % bytes.length < bytes.length := Nat.mod_lt _ hpos
                obtain ⟨a9, c9, e9, h9⟩ := HINT.out
                have e91 : a0 = a9 := by injection e9
                obtain ⟨gz, oz, e94, hcz⟩ := h9.resolve_left (fun q => by rw [q] at hpos; simp at hpos)
                have ea0 := e91.trans e94
                subst ea0
                have cz := hcz (i % bytes.length) hm
                have e1 : ((i : Int)).tmod (bytes.length : Int) = ((i % bytes.length : Nat) : Int) := by rw [Int.tmod_eq_emod_of_nonneg (by omega)]; rfl
                have eo : bytes[i % bytes.length]'hm = o := by
                  rw [HO.out]
                  unfold outl
                  rw [if_neg (by omega)]
                  simp [List.getD, hm]
                rw [eo] at cz
                obtain ⟨j, hj⟩ : ∃ j, j = i % bytes.length := ⟨_, rfl⟩
                rw [← hj] at e1 cz hm
                have gl : (0 : Int) < (bytes.length : Int) := by omega
                have gz0 : ((bytes.length : Int) == 0) = false := by rw [beq_eq_false_iff_ne]; omega
                have hjn : (j : Int) < (bytes.length : Int) := by omega
                have hjn2 : j < bytes.length := by omega
                clear hcz h9 eo hj hb0 hm
                go_wp2_with fail
                go_quiet (fail)
                obtain ⟨VB, hVB⟩ : ∃ VB, VB = V.drewN nq := ⟨_, rfl⟩
                rw [← hVB]
                have H7B : Hid (VB.heap[B7]? = some (.cells #[.string X, .int .i64 (x.2 : Int)] 103 (0, 0))) := by rw [hVB]; exact H7
                have HBVB : Hid (Below wr.heap.size wr VB) := by rw [hVB]; exact HBV.out.trans ⟨rfl, rfl, rfl, Nat.le_refl _, fun _ _ => rfl⟩
                clear hVB v0 v1 vz0 vz1 vx vq0 vr1 H7 HBV HV0 cz HINT
                have v0 : VB.cell? ⟨B7, 0, none⟩ = some (.string X) := Lib.cell_of_heap H7B.out 0
                have v1 : VB.cell? ⟨B7, 1, none⟩ = some (.int .i64 (x.2 : Int)) := Lib.cell_of_heap H7B.out 1
                have vz0 : VB.frozen? ⟨B7, 0, none⟩ = false := Lib.frozen_of_heap H7B.out 0
                have vz1 : VB.frozen? ⟨B7, 1, none⟩ = false := Lib.frozen_of_heap H7B.out 1
                have vx : VB.cell? ⟨w.heap.size, 1, none⟩ = some (.slice (some ⟨gz, oz, none⟩) bytes.length c0) := cell_on HBVB.out x1
                have vq0 := cell_on HBVB.out q0
                have vr1 := cell_on HBVB.out r1
                by_cases o1 : o < 0
                · obtain ⟨kk, hkk⟩ : ∃ kk : Nat, kk = 0 := ⟨_, rfl⟩
                  have hkw : within o Lx = kk := by unfold within; omega
                  have hkL : kk ≤ Lx := by omega
                  have gm : ¬ (Lx : Int) < 0 := by omega
                  have eA : IntKind.i64.wrap (x.2 : Int) = (x.2 : Int) := IntWalk.i64_in _ (by omega)
                  have hxk : x.2 + kk = x.2 := by omega
                  have hsl := slice_to X (x.2 + kk) (by rw [HXs.out]; have := HLx.out; have := HZX.out.1; omega)
                  obtain ⟨Y, hY⟩ : ∃ Y, Y = X.extract 0 (x.2 + kk) := ⟨_, rfl⟩
                  rw [← hY, hxk] at hsl
                  have hYe : Y = mk (x.1.take (x.2 + kk)) := by rw [hY, HXe.out, mk_ext]
                  have hYs : (Y.size : Int) = ((x.1.take (x.2 + kk)).length : Int) := by rw [hYe, mk_size]
                  have HYe := hid_of hYe
                  have HYs := hid_of hYs
                  obtain ⟨V2, hV2⟩ : ∃ V2, V2 = (VB.setCell ⟨B7, 0, none⟩ (.string Y)).setCell ⟨B7, 1, none⟩ (.int .i64 (Y.size : Int)) := ⟨_, rfl⟩
                  have h72 : V2.heap[B7]? = some (.cells #[.string Y, .int .i64 (Y.size : Int)] 103 (0, 0)) := by rw [hV2]; exact set_at (i := 1) (set_at (i := 0) H7B.out _) _
                  have hbV2 : Below wr.heap.size wr V2 := by rw [hV2]; exact (HBVB.out.setCell (p := ⟨B7, 0, none⟩) (by rw [HB7.out]; exact Nat.le_refl _) _).setCell (p := ⟨B7, 1, none⟩) (by rw [HB7.out]; exact Nat.le_refl _) _
                  have rd2 := I.out.rd.below hbV2
                  obtain ⟨rd3, ev3⟩ := rd_bytes rd2 (at_below at1 hbV2) (x.1.take (x.2 + kk))
                  have hx3 := upd_get (d := { d with files := crashFiles bytes 0 (N.take i) d.files }) hx (fun x' => (x.1.take (x.2 + kk), x'.2))
                  obtain ⟨g3, cap3, at3⟩ := fl_at rd3 hx3
                  have hg3 : g3 = g := by
                    have e1 := at3.val
                    rw [at1.val] at e1
                    injection e1 with e1 e2 e3
                    injection e1 with e1
                    injection e1 with e1
                    exact e1.symm
                  subst hg3
                  obtain ⟨rd4, ev4⟩ := rd_synced rd3 at3 (x.1.take (x.2 + kk)).length
                  rw [upd_two] at rd4
                  have HFI : Hid (C2 base b r d w N (.slice (some ⟨gn, on, none⟩) N.length k4) bytes cn (.slice (some ⟨gz, oz, none⟩) bytes.length c0) (i + 1) ((V2.setCell ⟨g3, p.2 * 2, none⟩ (.string Y)).setCell ⟨g3, p.2 * 2 + 1, none⟩ (.int .i64 (Y.size : Int)))) := by
                    rw [HYs.out, HYe.out]
                    have evT := (I.out.ev.trans (Ev.of_below hbV2)).trans (ev3.trans ev4)
                    refine ⟨?_, ?_, evT, ?_⟩
                    · have e : crashFiles bytes 0 (N.take (i + 1)) d.files = (({ d with files := crashFiles bytes 0 (N.take i) d.files } : Dk).upd p.2 (fun x' => (x.1.take (x.2 + kk), (x.1.take (x.2 + kk)).length))).files := by
                        rw [take_snoc N i hlt, crash_snoc, ← HP.out]
                        show (crashFiles bytes 0 (N.take i) d.files).modify p.2 _ = (crashFiles bytes 0 (N.take i) d.files).modify p.2 _
                        have e2 := congrArg Dk.files (upd_congr (d := { d with files := crashFiles bytes 0 (N.take i) d.files }) hx (f := crashF (outl bytes (0 + (N.take i).length))) (g := fun x' => (x.1.take (x.2 + kk), (x.1.take (x.2 + kk)).length)) (by
                          rw [Nat.zero_add, List.length_take, Nat.min_eq_left (Nat.le_of_lt hlt), ← HO.out]
                          unfold crashF syncF cutF
                          rw [← HLx.out, hkw]))
                        exact e2
                      rw [e]
                      exact rd4
                    · refine row_later I.out.row fun gq hq => ?_
                      obtain ⟨q1, q2, q3⟩ := row_kd I.out.row hq
                      have := (Ev.of_below (T := ET) (base := base) hbV2).trans (ev3.trans ev4)
                      exact this.block gq q2 (Or.inr (by rw [q1]; rfl))
                    · have := (Ev.of_below (T := ET) (base := base) hbV2).trans (ev3.trans ev4)
                      exact (this.block _ (lt_of I.out.box) (Or.inr (by rw [kd_cells I.out.box]; rfl))).trans I.out.box
                  have b0 : V2.cell? ⟨B7, 0, none⟩ = some (.string Y) := Lib.cell_of_heap h72 0
                  have b1 : V2.cell? ⟨B7, 1, none⟩ = some (.int .i64 (Y.size : Int)) := Lib.cell_of_heap h72 1
                  have at2 := at_below at1 hbV2
                  have w0 := at2.c0
                  have w1 := at2.c1
                  have wz0 := at2.frozen (p.2 * 2)
                  have wz1 := at2.frozen (p.2 * 2 + 1)
                  have wq0 := cell_on hbV2 q0
                  have wr1 := cell_on hbV2 r1
                  clear at1 at2 at3 rd2 rd3 rd4 ev3 ev4 hx hx3 h72 hbV2 hY hYe hYs hkw q0 r1 f0 f1 x1
                  generalize mk x.1 = X9 at w0
                  clear hkk hxk
                  go_wp2_with fail
                  first | rw [← hV2] | skip
                  clear hV2 v0 v1 vz0 vz1 vx vq0 vr1 hsl eA eS
                  go_region
                  all_goals
                    go_wp2_with fail
                    go_roundg g'
                    case measure => omega
                    case rel => exact ⟨i + 1, by omega, by omega, by rw [show ((i + 1 : Nat) : Int) = (i : Int) + 1 from by omega], c2_drew HFI.out⟩
                · by_cases o2 : (Lx : Int) < o
                  · obtain ⟨kk, hkk⟩ : ∃ kk : Nat, kk = Lx := ⟨_, rfl⟩
                    have hkw : within o Lx = kk := by unfold within; omega
                    have hkL : kk ≤ Lx := by omega
                    obtain ⟨q9, hq9⟩ : ∃ q9, q9 = x.2 + kk := ⟨_, rfl⟩
                    have eA : IntKind.i64.wrap ((x.2 : Int) + (Lx : Int)) = (q9 : Int) := by rw [IntWalk.i64_in _ (by omega)]; omega
                    have hsl := slice_to X q9 (by rw [HXs.out]; have := HLx.out; have := HZX.out.1; omega)
                    obtain ⟨Y, hY⟩ : ∃ Y, Y = X.extract 0 q9 := ⟨_, rfl⟩
                    rw [← hY] at hsl
                    have hYe : Y = mk (x.1.take q9) := by rw [hY, HXe.out, mk_ext]
                    have hYs : (Y.size : Int) = ((x.1.take q9).length : Int) := by rw [hYe, mk_size]
                    have HQ9 := hid_of hq9
                    have HYe := hid_of hYe
                    have HYs := hid_of hYs
                    obtain ⟨V2, hV2⟩ : ∃ V2, V2 = (VB.setCell ⟨B7, 0, none⟩ (.string Y)).setCell ⟨B7, 1, none⟩ (.int .i64 (Y.size : Int)) := ⟨_, rfl⟩
                    have h72 : V2.heap[B7]? = some (.cells #[.string Y, .int .i64 (Y.size : Int)] 103 (0, 0)) := by rw [hV2]; exact set_at (i := 1) (set_at (i := 0) H7B.out _) _
                    have hbV2 : Below wr.heap.size wr V2 := by rw [hV2]; exact (HBVB.out.setCell (p := ⟨B7, 0, none⟩) (by rw [HB7.out]; exact Nat.le_refl _) _).setCell (p := ⟨B7, 1, none⟩) (by rw [HB7.out]; exact Nat.le_refl _) _
                    have rd2 := I.out.rd.below hbV2
                    obtain ⟨rd3, ev3⟩ := rd_bytes rd2 (at_below at1 hbV2) (x.1.take q9)
                    have hx3 := upd_get (d := { d with files := crashFiles bytes 0 (N.take i) d.files }) hx (fun x' => (x.1.take q9, x'.2))
                    obtain ⟨g3, cap3, at3⟩ := fl_at rd3 hx3
                    have hg3 : g3 = g := by
                      have e1 := at3.val
                      rw [at1.val] at e1
                      injection e1 with e1 e2 e3
                      injection e1 with e1
                      injection e1 with e1
                      exact e1.symm
                    subst hg3
                    obtain ⟨rd4, ev4⟩ := rd_synced rd3 at3 (x.1.take q9).length
                    rw [upd_two] at rd4
                    have HFI : Hid (C2 base b r d w N (.slice (some ⟨gn, on, none⟩) N.length k4) bytes cn (.slice (some ⟨gz, oz, none⟩) bytes.length c0) (i + 1) ((V2.setCell ⟨g3, p.2 * 2, none⟩ (.string Y)).setCell ⟨g3, p.2 * 2 + 1, none⟩ (.int .i64 (Y.size : Int)))) := by
                      rw [HYs.out, HYe.out]
                      have evT := (I.out.ev.trans (Ev.of_below hbV2)).trans (ev3.trans ev4)
                      refine ⟨?_, ?_, evT, ?_⟩
                      · have e : crashFiles bytes 0 (N.take (i + 1)) d.files = (({ d with files := crashFiles bytes 0 (N.take i) d.files } : Dk).upd p.2 (fun x' => (x.1.take q9, (x.1.take q9).length))).files := by
                          rw [take_snoc N i hlt, crash_snoc, ← HP.out]
                          show (crashFiles bytes 0 (N.take i) d.files).modify p.2 _ = (crashFiles bytes 0 (N.take i) d.files).modify p.2 _
                          have e2 := congrArg Dk.files (upd_congr (d := { d with files := crashFiles bytes 0 (N.take i) d.files }) hx (f := crashF (outl bytes (0 + (N.take i).length))) (g := fun x' => (x.1.take q9, (x.1.take q9).length)) (by
                            rw [Nat.zero_add, List.length_take, Nat.min_eq_left (Nat.le_of_lt hlt), ← HO.out]
                            unfold crashF syncF cutF
                            rw [← HLx.out, hkw, ← HQ9.out]))
                          exact e2
                        rw [e]
                        exact rd4
                      · refine row_later I.out.row fun gq hq => ?_
                        obtain ⟨q1, q2, q3⟩ := row_kd I.out.row hq
                        have := (Ev.of_below (T := ET) (base := base) hbV2).trans (ev3.trans ev4)
                        exact this.block gq q2 (Or.inr (by rw [q1]; rfl))
                      · have := (Ev.of_below (T := ET) (base := base) hbV2).trans (ev3.trans ev4)
                        exact (this.block _ (lt_of I.out.box) (Or.inr (by rw [kd_cells I.out.box]; rfl))).trans I.out.box
                    have b0 : V2.cell? ⟨B7, 0, none⟩ = some (.string Y) := Lib.cell_of_heap h72 0
                    have b1 : V2.cell? ⟨B7, 1, none⟩ = some (.int .i64 (Y.size : Int)) := Lib.cell_of_heap h72 1
                    have at2 := at_below at1 hbV2
                    have w0 := at2.c0
                    have w1 := at2.c1
                    have wz0 := at2.frozen (p.2 * 2)
                    have wz1 := at2.frozen (p.2 * 2 + 1)
                    have wq0 := cell_on hbV2 q0
                    have wr1 := cell_on hbV2 r1
                    clear hq9 at1 at2 at3 rd2 rd3 rd4 ev3 ev4 hx hx3 h72 hbV2 hY hYe hYs hkw q0 r1 f0 f1 x1
                    generalize mk x.1 = X9 at w0
                    clear hkk
                    go_wp2_with fail
                    first | rw [← hV2] | skip
                    clear hV2 v0 v1 vz0 vz1 vx vq0 vr1 hsl eA eS
                    go_region
                    all_goals
                      go_wp2_with fail
                      go_roundg g'
                      case measure => omega
                      case rel => exact ⟨i + 1, by omega, by omega, by rw [show ((i + 1 : Nat) : Int) = (i : Int) + 1 from by omega], c2_drew HFI.out⟩
                  · obtain ⟨kk, hkk⟩ : ∃ kk : Nat, o = (kk : Int) := ⟨o.toNat, by omega⟩
                    have hkw : within o Lx = kk := by unfold within; omega
                    have hkL : kk ≤ Lx := by omega
                    obtain ⟨q9, hq9⟩ : ∃ q9, q9 = x.2 + kk := ⟨_, rfl⟩
                    have eA : IntKind.i64.wrap ((x.2 : Int) + o) = (q9 : Int) := by rw [IntWalk.i64_in _ (by omega)]; omega
                    have hsl := slice_to X q9 (by rw [HXs.out]; have := HLx.out; have := HZX.out.1; omega)
                    obtain ⟨Y, hY⟩ : ∃ Y, Y = X.extract 0 q9 := ⟨_, rfl⟩
                    rw [← hY] at hsl
                    have hYe : Y = mk (x.1.take q9) := by rw [hY, HXe.out, mk_ext]
                    have hYs : (Y.size : Int) = ((x.1.take q9).length : Int) := by rw [hYe, mk_size]
                    have HQ9 := hid_of hq9
                    have HYe := hid_of hYe
                    have HYs := hid_of hYs
                    obtain ⟨V2, hV2⟩ : ∃ V2, V2 = (VB.setCell ⟨B7, 0, none⟩ (.string Y)).setCell ⟨B7, 1, none⟩ (.int .i64 (Y.size : Int)) := ⟨_, rfl⟩
                    have h72 : V2.heap[B7]? = some (.cells #[.string Y, .int .i64 (Y.size : Int)] 103 (0, 0)) := by rw [hV2]; exact set_at (i := 1) (set_at (i := 0) H7B.out _) _
                    have hbV2 : Below wr.heap.size wr V2 := by rw [hV2]; exact (HBVB.out.setCell (p := ⟨B7, 0, none⟩) (by rw [HB7.out]; exact Nat.le_refl _) _).setCell (p := ⟨B7, 1, none⟩) (by rw [HB7.out]; exact Nat.le_refl _) _
                    have rd2 := I.out.rd.below hbV2
                    obtain ⟨rd3, ev3⟩ := rd_bytes rd2 (at_below at1 hbV2) (x.1.take q9)
                    have hx3 := upd_get (d := { d with files := crashFiles bytes 0 (N.take i) d.files }) hx (fun x' => (x.1.take q9, x'.2))
                    obtain ⟨g3, cap3, at3⟩ := fl_at rd3 hx3
                    have hg3 : g3 = g := by
                      have e1 := at3.val
                      rw [at1.val] at e1
                      injection e1 with e1 e2 e3
                      injection e1 with e1
                      injection e1 with e1
                      exact e1.symm
                    subst hg3
                    obtain ⟨rd4, ev4⟩ := rd_synced rd3 at3 (x.1.take q9).length
                    rw [upd_two] at rd4
                    have HFI : Hid (C2 base b r d w N (.slice (some ⟨gn, on, none⟩) N.length k4) bytes cn (.slice (some ⟨gz, oz, none⟩) bytes.length c0) (i + 1) ((V2.setCell ⟨g3, p.2 * 2, none⟩ (.string Y)).setCell ⟨g3, p.2 * 2 + 1, none⟩ (.int .i64 (Y.size : Int)))) := by
                      rw [HYs.out, HYe.out]
                      have evT := (I.out.ev.trans (Ev.of_below hbV2)).trans (ev3.trans ev4)
                      refine ⟨?_, ?_, evT, ?_⟩
                      · have e : crashFiles bytes 0 (N.take (i + 1)) d.files = (({ d with files := crashFiles bytes 0 (N.take i) d.files } : Dk).upd p.2 (fun x' => (x.1.take q9, (x.1.take q9).length))).files := by
                          rw [take_snoc N i hlt, crash_snoc, ← HP.out]
                          show (crashFiles bytes 0 (N.take i) d.files).modify p.2 _ = (crashFiles bytes 0 (N.take i) d.files).modify p.2 _
                          have e2 := congrArg Dk.files (upd_congr (d := { d with files := crashFiles bytes 0 (N.take i) d.files }) hx (f := crashF (outl bytes (0 + (N.take i).length))) (g := fun x' => (x.1.take q9, (x.1.take q9).length)) (by
                            rw [Nat.zero_add, List.length_take, Nat.min_eq_left (Nat.le_of_lt hlt), ← HO.out]
                            unfold crashF syncF cutF
                            rw [← HLx.out, hkw, ← HQ9.out]))
                          exact e2
                        rw [e]
                        exact rd4
                      · refine row_later I.out.row fun gq hq => ?_
                        obtain ⟨q1, q2, q3⟩ := row_kd I.out.row hq
                        have := (Ev.of_below (T := ET) (base := base) hbV2).trans (ev3.trans ev4)
                        exact this.block gq q2 (Or.inr (by rw [q1]; rfl))
                      · have := (Ev.of_below (T := ET) (base := base) hbV2).trans (ev3.trans ev4)
                        exact (this.block _ (lt_of I.out.box) (Or.inr (by rw [kd_cells I.out.box]; rfl))).trans I.out.box
                    have b0 : V2.cell? ⟨B7, 0, none⟩ = some (.string Y) := Lib.cell_of_heap h72 0
                    have b1 : V2.cell? ⟨B7, 1, none⟩ = some (.int .i64 (Y.size : Int)) := Lib.cell_of_heap h72 1
                    have at2 := at_below at1 hbV2
                    have w0 := at2.c0
                    have w1 := at2.c1
                    have wz0 := at2.frozen (p.2 * 2)
                    have wz1 := at2.frozen (p.2 * 2 + 1)
                    have wq0 := cell_on hbV2 q0
                    have wr1 := cell_on hbV2 r1
                    clear hq9 at1 at2 at3 rd2 rd3 rd4 ev3 ev4 hx hx3 h72 hbV2 hY hYe hYs hkw q0 r1 f0 f1 x1
                    generalize mk x.1 = X9 at w0
                    have HKK := hid_of hkk
                    clear hkk
                    go_wp2_with fail
                    first | rw [← hV2] | skip
                    clear hV2 v0 v1 vz0 vz1 vx vq0 vr1 hsl eA eS
                    go_region
                    all_goals
                      go_wp2_with fail
                      go_roundg g'
                      case measure => omega
                      case rel => exact ⟨i + 1, by omega, by omega, by rw [show ((i + 1 : Nat) : Int) = (i : Int) + 1 from by omega], c2_drew HFI.out⟩
          · obtain rfl : i = N.length := by omega
            have gi : ¬ (N.length : Int) < (N.length : Int) := by omega
            have hrd := I.out.rd
            rw [List.take_length] at hrd
            have q1 : wr.cell? ⟨b, 1, none⟩ = some r.nv := hrd.cell 1
            have q2 : wr.cell? ⟨b, 2, none⟩ = some r.lv := hrd.cell 2
            have q3 : wr.cell? ⟨b, 3, none⟩ = some r.ov := hrd.cell 3
            have q4 : wr.cell? ⟨b, 4, none⟩ = some r.pv := hrd.cell 4
            have q6 : wr.cell? ⟨b, 6, none⟩ = some (.bool d.down) := hrd.cell 6
            have z1 := hrd.frozen 1
            have z2 := hrd.frozen 2
            have z3 := hrd.frozen 3
            have z4 := hrd.frozen 4
            have z6 := hrd.frozen 6
            have HR := hid_of (rd_reset hrd I.out.row HNr.out)
            have HEV := hid_of I.out.ev
            clear hrd I q0 x1
            go_wp2_with fail
            go_end0
            exact ⟨rfl, by rw [HFin.out]; exact ⟨_, HR.out.1⟩, HEV.out.trans HR.out.2⟩
end Go.Proofs.Ytilbffbmpgebmaa.RefCrash
