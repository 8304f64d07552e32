/- The document's own step: the planned fault of the next one. -/
import Derived.Test.YtilbffbmpgebmaaRefChange
namespace Go.Proofs.Ytilbffbmpgebmaa.RefFault
open Go.RowKit Go.Maps
open Go.Proofs.Ytilbffbmpgebmaa.DiskMath
open Go.Proofs.Ytilbffbmpgebmaa.RefMath
open Go.Proofs.Ytilbffbmpgebmaa.Base
open Go.Proofs.Ytilbffbmpgebmaa.Small
open Go.Proofs.Ytilbffbmpgebmaa.Append
open Go.Proofs.Ytilbffbmpgebmaa.Plan
open Go.Proofs.Ytilbffbmpgebmaa.RefNames
open Go.Proofs.Ytilbffbmpgebmaa.RefWith
open Go.Proofs.Ytilbffbmpgebmaa.RefBase
open Go.Proofs.Ytilbffbmpgebmaa.RefChange
set_option linter.unusedVariables false

theorem left_hit {P : List Ft} {steps : Nat} {left : List Ft} (h : PLeft P steps left) {k : Nat} (hk : k < P.length) (he : (P[k]).step = (steps : Int) + 1) : ∃ rest, left = P[k] :: rest ∧ PLeft P (steps + 1) rest := by
  obtain ⟨past, hp, hpast⟩ := h.app
  have hge : past.length ≤ k := by
    rcases Nat.lt_or_ge k past.length with q | q
    · have e : P[k] = past[k] := by simp only [hp]; exact List.getElem_append_left q
      have := hpast _ (List.getElem_mem q)
      rw [← e] at this
      omega
    · exact q
  have hlk : k - past.length < left.length := by
    have := congrArg List.length hp
    rw [List.length_append] at this
    omega
  have e : P[k] = left[k - past.length] := by simp only [hp]; exact List.getElem_append_right hge
  cases left with
  | nil => simp at hlk
  | cons f r =>
    have h0 := h.ahead f List.mem_cons_self
    have hr := h.rise
    rw [hp] at hr
    have hr2 := (List.pairwise_append.1 hr).2.1
    have hr3 := List.pairwise_cons.1 hr2
    by_cases hz : k - past.length = 0
    · have e2 : P[k] = f := by rw [e]; simp [hz]
      refine ⟨r, by rw [e2], ⟨past ++ [f], by rw [hp]; simp, fun g hg => ?_⟩, h.rise, fun g hg => ?_, h.good, h.len⟩
      · rcases List.mem_append.1 hg with q | q
        · have := hpast g q; omega
        · rw [List.mem_singleton.1 q, ← e2, he]; omega
      · have := hr3.1 g hg
        rw [e2] at he
        omega
    · obtain ⟨j, hj⟩ : ∃ j, k - past.length = j + 1 := ⟨k - past.length - 1, by omega⟩
      have hjr : j < r.length := by simp [hj] at hlk; exact hlk
      have e2 : P[k] = r[j] := by rw [e]; simp [hj]
      have := hr3.1 _ (List.getElem_mem hjr)
      rw [← e2] at this
      omega
theorem left_miss {P : List Ft} {steps : Nat} {left : List Ft} (h : PLeft P steps left) (hm : ∀ f ∈ P, f.step ≠ (steps : Int) + 1) : PLeft P (steps + 1) left := by
  obtain ⟨past, hp, hpast⟩ := h.app
  refine ⟨⟨past, hp, fun f hf => ?_⟩, h.rise, fun f hf => ?_, h.good, h.len⟩
  · have := hpast f hf; omega
  · have := h.ahead f hf
    have := hm f (by rw [hp]; exact List.mem_append_right _ hf)
    omega
theorem fault_miss {d : Dk} (h : ∀ f ∈ d.plan, f.step ≠ (d.steps : Int) + 1) : d.fault = ({ d with steps := d.steps + 1 }, 0, 0) := by
  unfold Dk.fault
  cases hp : d.plan with
  | nil => rfl
  | cons f r => exact if_neg (h f (by rw [hp]; exact List.mem_cons_self))
theorem fault_down {d : Dk} {f : Ft} {r : List Ft} (hp : d.plan = f :: r) (hs : f.step = (d.steps : Int) + 1) (hk : f.kind = 3) : d.fault = ({ d with steps := d.steps + 1, plan := r, down := true }, 0, 53) := by
  unfold Dk.fault
  rw [hp]
  show (if _ then (if _ then _ else _) else _) = _
  rw [if_pos hs, if_pos hk]
theorem fault_err {d : Dk} {f : Ft} {r : List Ft} (hp : d.plan = f :: r) (hs : f.step = (d.steps : Int) + 1) (hk : f.kind ≠ 3) : d.fault = ({ d with steps := d.steps + 1, plan := r }, f.n, 52) := by
  unfold Dk.fault
  rw [hp]
  show (if _ then (if _ then _ else _) else _) = _
  rw [if_pos hs, if_neg hk]
theorem imp_kind {f : Ft} (h : imp f = false) : (f.kind = 1 ∧ f.n = 0) ∨ (f.kind = 2 ∧ 0 ≤ f.n) ∨ (f.kind = 3 ∧ f.n = 0) := by
  unfold imp at h
  by_cases h1 : f.kind = 1 ∨ f.kind = 3
  · rw [if_pos h1] at h
    have : f.n = 0 := by simpa using h
    rcases h1 with q | q
    · exact Or.inl ⟨q, this⟩
    · exact Or.inr (Or.inr ⟨q, this⟩)
  · rw [if_neg h1] at h
    by_cases h2 : f.kind = 2
    · rw [if_pos h2] at h
      have : ¬ f.n < 0 := by simpa using h
      exact Or.inr (Or.inl ⟨h2, by omega⟩)
    · rw [if_neg h2] at h; cases h
/- the disk's own block alone has turned -/
theorem rd_own {base b : Nat} {r r' : Rl} {d d' : Dk} {w w' : World} (h : RD base b r d w) (hk : ∀ k, k < w.heap.size → k ≠ b → w'.heap[k]? = w.heap[k]?) (hs : w.heap.size ≤ w'.heap.size)
    (hd : w'.heap[b]? = some (.cells #[r'.fv, r'.nv, r'.lv, r'.ov, r'.pv, .int .i64 d'.steps, .bool d'.down] 31 (0, 0)))
    (e1 : r'.fv = r.fv) (f1 : d'.files = d.files) (nm : w'.ownsRow base 105 2 r'.nv d'.names.length (d'.names.flatMap nmCells)) (ls : w'.ownsRow base 105 2 r'.lv d'.last.length (d'.last.flatMap nmCells))
    (op : w'.ownsRow base 101 4 r'.ov d'.opens.length (d'.opens.flatMap rcCells)) (pl : w'.ownsRow base 58 3 r'.pv r'.P.length (r'.P.flatMap ftCells)) (lf : PLeft r'.P d'.steps d'.plan) (rn : Rise d'.names) (rl : Rise d'.last) : RD base b r' d' w' :=
  have hf : w'.ownsRow base 103 2 r'.fv d'.files.length (d'.files.flatMap flCells) := by
    rw [e1, f1]
    refine row_later h.fl fun g hg => ?_
    obtain ⟨q1, q2, q3⟩ := row_kd h.fl hg
    exact hk g q2 (fun e => by rw [e, kd_cells h.disk] at q1; cases q1)
  ⟨hd, h.bb, hf, nm, ls, op, pl, lf, rn, rl, Nat.le_trans h.hb hs⟩
/- a row beside the disk's own block -/
theorem row_own {base b e sz n : Nat} {r : Rl} {d : Dk} {w w' : World} {v : Value} {xs : List Value} (h : RD base b r d w) (hk : ∀ k, k < w.heap.size → k ≠ b → w'.heap[k]? = w.heap[k]?) (hr : w.ownsRow base e sz v n xs) (he : e ≠ 31) : w'.ownsRow base e sz v n xs :=
  row_later hr fun g hg => by
    obtain ⟨q1, q2, q3⟩ := row_kd hr hg
    exact hk g q2 (fun q => by rw [q, kd_cells h.disk] at q1; omega)
theorem ev_disk {base b i : Nat} {r : Rl} {d : Dk} {w : World} (h : RD base b r d w) (v : Value) : Ev ET base w (w.setCell ⟨b, i, none⟩ v) := Ev.set h.disk h.bb rfl v
theorem rd_steps {base b : Nat} {r : Rl} {d : Dk} {w : World} (h : RD base b r d w) (p : List Ft) (hl : PLeft r.P (d.steps + 1) p) : RD base b r { d with steps := d.steps + 1, plan := p } (w.setCell ⟨b, 5, none⟩ (.int .i64 ((d.steps + 1 : Nat) : Int))) := by
  have hk : ∀ k, k < w.heap.size → k ≠ b → (w.setCell ⟨b, 5, none⟩ (.int .i64 ((d.steps + 1 : Nat) : Int))).heap[k]? = w.heap[k]? := fun k _ hn => set_ne hn _
  exact rd_own h hk (Nat.le_of_eq (size_set _ _).symm) (set_at (i := 5) h.disk _) rfl rfl (row_own h hk h.nm (by decide)) (row_own h hk h.ls (by decide)) (row_own h hk h.op (by decide)) (row_own h hk h.pl (by decide)) hl h.rn h.rl
theorem rd_down {base b : Nat} {r : Rl} {d : Dk} {w : World} (h : RD base b r d w) : RD base b r { d with down := true } (w.setCell ⟨b, 6, none⟩ (.bool true)) := by
  have hk : ∀ k, k < w.heap.size → k ≠ b → (w.setCell ⟨b, 6, none⟩ (.bool true)).heap[k]? = w.heap[k]? := fun k _ hn => set_ne hn _
  exact rd_own h hk (Nat.le_of_eq (size_set _ _).symm) (set_at (i := 6) h.disk _) rfl rfl (row_own h hk h.nm (by decide)) (row_own h hk h.ls (by decide)) (row_own h hk h.op (by decide)) (row_own h hk h.pl (by decide)) h.left h.rn h.rl
theorem ftflat_at : ∀ (l : List Ft) (k : Nat) (h : k < l.length), (l.flatMap ftCells)[k * 3]? = some (.int .i64 (l[k]'h).step) ∧ (l.flatMap ftCells)[k * 3 + 1]? = some (.int .i64 (l[k]'h).kind) ∧ (l.flatMap ftCells)[k * 3 + 2]? = some (.int .i64 (l[k]'h).n)
  | f :: r, 0, h => ⟨rfl, rfl, rfl⟩
  | f :: r, k + 1, h => by
    have ih := ftflat_at r k (by simpa using h)
    have e : ∀ i, ((f :: r).flatMap ftCells)[(k + 1) * 3 + i]? = (r.flatMap ftCells)[k * 3 + i]? := fun i => by
      rw [List.flatMap_cons, List.getElem?_append_right (by simp [ftCells]; omega)]
      congr 1
      simp [ftCells]
      omega
    exact ⟨(e 0).trans ih.1, (e 1).trans ih.2.1, (e 2).trans ih.2.2⟩
theorem ft_row {base : Nat} {w : World} {v : Value} {l : List Ft} (h : w.ownsRow base 58 3 v l.length (l.flatMap ftCells)) : FtSl w v l := by
  rcases h.2 with ⟨rfl, h0⟩ | ⟨g, cap, cur, rfl, hb, hg, q1, q2, q3, q4⟩
  · have : l = [] := List.length_eq_zero_iff.1 h0
    subst this
    exact ⟨none, 0, rfl, Or.inl rfl⟩
  · refine ⟨_, cap, rfl, Or.inr ⟨g, 0, rfl, fun k hk => ?_⟩⟩
    obtain ⟨d0, d1, d2⟩ := ftflat_at l k hk
    have c0 := h.cellAt (k * 3) (by omega)
    have c1 := h.cellAt (k * 3 + 1) (by omega)
    have c2 := h.cellAt (k * 3 + 2) (by omega)
    rw [Nat.zero_add]
    exact ⟨c0.trans d0, c1.trans d1, c2.trans d2⟩
set_option maxHeartbeats 2000000 in
set_option maxRecDepth 100000 in
theorem rfault_call (base b : Nat) (r : Rl) (d : Dk) (w : World) (h : RD base b r d w) (hst : d.steps < 1099511627776) :
    Calls Try.prog 59 #[ptr b] w fun e w' => e = .returned (.tuple #[.int .i64 d.fault.2.2, .int .i64 d.fault.2.1]) ∧ RD base b r d.fault.1 w' ∧ Ev ET base w w' := by
  have HD := hid_of h
  have c5 : w.cell? ⟨b, 5, none⟩ = some (.int .i64 (d.steps : Int)) := h.cell 5
  have z5 := h.frozen 5
  have ew : IntKind.i64.wrap ((d.steps : Int) + 1) = (d.steps : Int) + 1 := IntWalk.i64_in _ (by omega)
  have hlen := h.left.len
  obtain ⟨W, hW⟩ : ∃ W, W = w.setCell ⟨b, 5, none⟩ (.int .i64 ((d.steps + 1 : Nat) : Int)) := ⟨_, rfl⟩
  have HW := hid_of hW
  have hS : ((d.steps + 1 : Nat) : Int) = (d.steps : Int) + 1 := by omega
  have hdW : W.heap[b]? = some (.cells #[r.fv, r.nv, r.lv, r.ov, r.pv, .int .i64 ((d.steps + 1 : Nat) : Int), .bool d.down] 31 (0, 0)) := by rw [hW]; exact set_at (i := 5) h.disk _
  have d5 : W.cell? ⟨b, 5, none⟩ = some (.int .i64 ((d.steps : Int) + 1)) := by rw [← hS]; exact Lib.cell_of_heap hdW 5
  have d4 : W.cell? ⟨b, 4, none⟩ = some r.pv := Lib.cell_of_heap hdW 4
  have d6 : W.cell? ⟨b, 6, none⟩ = some (.bool d.down) := Lib.cell_of_heap hdW 6
  have z6 : W.frozen? ⟨b, 6, none⟩ = false := Lib.frozen_of_heap hdW 6
  have HP : Hid (FtSl W r.pv r.P) := by
    have hk : ∀ k, k < w.heap.size → k ≠ b → W.heap[k]? = w.heap[k]? := fun k _ hn => by rw [hW]; exact set_ne hn _
    exact ft_row (row_own h hk h.pl (by decide))
  obtain ⟨a, c, hpv, hFt⟩ := HP.out
  rw [hpv] at d4
  have HFt := hid_of hFt
  obtain ⟨n, hn⟩ : ∃ n, n = r.P.length := ⟨_, rfl⟩
  rw [← hn] at d4 hlen
  rw [hS] at hW
  clear h hdW hpv hFt HP
  unfold ptr
  go_enter Try.func59, Try.ntmps59
  go_wp2_with fail
  rw [← hW]
  clear hW
  go_loopg [4] n (fun g si wx => ∃ k m : Nat, k ≤ n ∧ n ≤ k + g ∧ si = .int .i64 k ∧ wx = W.drewN m ∧ Hid (∀ f ∈ r.P.take k, f.step ≠ (d.steps : Int) + 1))
  case atStart => exact ⟨0, 0, by omega, by omega, rfl, rfl, fun f hf => by simp at hf⟩
  case round =>
    obtain ⟨k, m, hk, hg, rfl, rfl, HM⟩ := hrel
    by_cases hlt : k < n
    · obtain ⟨g', rfl⟩ : ∃ g', gk = g' + 1 := ⟨gk - 1, by omega⟩
      have hltP : k < r.P.length := by omega
      obtain ⟨gb, o, rfl, hc⟩ : ∃ g o, a = some ⟨g, o, none⟩ ∧ ∀ k (h : k < r.P.length), W.cell? ⟨g, o + k * 3, none⟩ = some (.int .i64 (r.P[k]'h).step) ∧ W.cell? ⟨g, o + k * 3 + 1, none⟩ = some (.int .i64 (r.P[k]'h).kind) ∧ W.cell? ⟨g, o + k * 3 + 2, none⟩ = some (.int .i64 (r.P[k]'h).n) := by
        rcases HFt.out with h | h
        · rw [h] at hltP; simp at hltP
        · exact h
      obtain ⟨p0, p1, p2⟩ := hc k hltP
      have ek : IntKind.i64.wrap ((k : Int) + 1) = (k : Int) + 1 := IntWalk.i64_in _ (by omega)
      have gi : (k : Int) < (n : Int) := by omega
      obtain ⟨f, hf⟩ : ∃ f, f = r.P[k] := ⟨_, rfl⟩
      rw [← hf] at p0 p1 p2
      by_cases he : f.step = (d.steps : Int) + 1
      · obtain ⟨rest, hl1, hl2⟩ := left_hit HD.out.left hltP (by rw [← hf]; exact he)
        rw [← hf] at hl1
        have hib : imp f = false := HD.out.left.good f (by rw [hf]; exact List.getElem_mem hltP)
        have hcmp : (f.step == (d.steps : Int) + 1) = true := by rw [he]; simp
        rcases imp_kind hib with ⟨q1, q2⟩ | ⟨q1, q2⟩ | ⟨q1, q2⟩
        · have HE := hid_of (fault_err hl1 he (by rw [q1]; decide))
          have HN := hid_of q2
          have HR : Hid (RD base b r { d with steps := d.steps + 1, plan := rest } W ∧ Ev ET base w W) := by rw [HW.out]; exact ⟨rd_steps HD.out rest hl2, ev_disk HD.out _⟩
          rw [q1] at p1
          clear hc hf hl1 hl2 hib q1 q2 HM HFt
          go_wp2_with fail
          go_quiet (fail)
          go_wp2_with fail
          go_ret2
          rw [HE.out]
          exact ⟨by show Ending.returned (.tuple #[.int .i64 52, .int .i64 0]) = .returned (.tuple #[.int .i64 52, .int .i64 f.n]); rw [HN.out], HR.out.1.below ⟨rfl, rfl, rfl, Nat.le_refl _, fun _ _ => rfl⟩, HR.out.2.trans (Ev.of_below ⟨rfl, rfl, rfl, Nat.le_refl _, fun _ _ => rfl⟩)⟩
        · have HE := hid_of (fault_err hl1 he (by rw [q1]; decide))
          have HN := hid_of q2
          have HR : Hid (RD base b r { d with steps := d.steps + 1, plan := rest } W ∧ Ev ET base w W) := by rw [HW.out]; exact ⟨rd_steps HD.out rest hl2, ev_disk HD.out _⟩
          rw [q1] at p1
          clear hc hf hl1 hl2 hib q1 q2 HM HFt
          go_wp2_with fail
          go_quiet (fail)
          go_wp2_with fail
          go_quiet (fail)
          go_wp2_with fail
          go_ret2
          rw [HE.out]
          exact ⟨rfl, HR.out.1.below ⟨rfl, rfl, rfl, Nat.le_refl _, fun _ _ => rfl⟩, HR.out.2.trans (Ev.of_below ⟨rfl, rfl, rfl, Nat.le_refl _, fun _ _ => rfl⟩)⟩
        · have HE := hid_of (fault_down hl1 he q1)
          have HN := hid_of q2
          have HR : Hid (RD base b r { d with steps := d.steps + 1, plan := rest } W ∧ Ev ET base w W) := by rw [HW.out]; exact ⟨rd_steps HD.out rest hl2, ev_disk HD.out _⟩
          rw [q1] at p1
          clear hc hf hl1 hl2 hib q1 q2 HM HFt
          go_wp2_with fail
          go_quiet (fail)
          go_wp2_with fail
          go_ret2
          rw [HE.out]
          have hr2 := HR.out.1.below (bd W (m + nq))
          exact ⟨rfl, rd_down hr2, (HR.out.2.trans (Ev.of_below (bd W (m + nq)))).trans (ev_disk hr2 _)⟩
      · have hcmp : (f.step == (d.steps : Int) + 1) = false := by rw [beq_eq_false_iff_ne]; exact he
        have HM2 : Hid (∀ f ∈ r.P.take (k + 1), f.step ≠ (d.steps : Int) + 1) := by
          intro g hg2
          rw [take_snoc _ k hltP] at hg2
          rcases List.mem_append.1 hg2 with q | q
          · exact HM.out g q
          · rw [List.mem_singleton.1 q, ← hf]; exact he
        clear hc hf HM he
        go_wp2_with fail
        go_quiet (fail)
        go_wp2_with fail
        go_roundg g'
        case measure => omega
        case rel => exact ⟨k + 1, m + nq, by omega, by omega, by rw [show ((k + 1 : Nat) : Int) = (k : Int) + 1 from by omega], rfl, HM2⟩
    · obtain rfl : k = n := by omega
      have gi : ¬ (k : Int) < (k : Int) := by omega
      have hall : ∀ f ∈ r.P, f.step ≠ (d.steps : Int) + 1 := fun f hf => HM.out f (by rw [hn, List.take_length]; exact hf)
      have HE : Hid (d.fault = ({ d with steps := d.steps + 1 }, 0, 0)) := fault_miss fun f hf => by
        obtain ⟨past, hp, _⟩ := HD.out.left.app
        exact hall f (by rw [hp]; exact List.mem_append_right _ hf)
      have HR : Hid (RD base b r { d with steps := d.steps + 1 } W ∧ Ev ET base w W) := by rw [HW.out]; exact ⟨rd_steps HD.out d.plan (left_miss HD.out.left hall), ev_disk HD.out _⟩
      clear hall HM HFt
      go_wp2_with fail
      go_ret2
      rw [HE.out]
      exact ⟨rfl, HR.out.1.below ⟨rfl, rfl, rfl, Nat.le_refl _, fun _ _ => rfl⟩, HR.out.2.trans (Ev.of_below ⟨rfl, rfl, rfl, Nat.le_refl _, fun _ _ => rfl⟩)⟩
end Go.Proofs.Ytilbffbmpgebmaa.RefFault
