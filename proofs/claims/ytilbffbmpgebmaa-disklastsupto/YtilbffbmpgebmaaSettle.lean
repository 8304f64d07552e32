/- settle: the first open changes made lasting. -/
import Derived.Test.YtilbffbmpgebmaaNames
namespace Go.Proofs.Ytilbffbmpgebmaa.Settle
open Go.RowKit Go.Maps
open Go.Proofs.Ytilbffbmpgebmaa.DiskMath
open Go.Proofs.Ytilbffbmpgebmaa.Base
open Go.Proofs.Ytilbffbmpgebmaa.Small
open Go.Proofs.Ytilbffbmpgebmaa.Find
open Go.Proofs.Ytilbffbmpgebmaa.File
open Go.Proofs.Ytilbffbmpgebmaa.File2
open Go.Proofs.Ytilbffbmpgebmaa.Append
open Go.Proofs.Ytilbffbmpgebmaa.Names
set_option linter.unusedVariables false

theorem applyAll_snoc (l : List Ch) (c : Ch) (n : NL) : applyAll (l ++ [c]) n = c.on (applyAll l n) := by
  unfold applyAll
  rw [List.foldl_append]
  rfl
theorem take_snoc {l : List Ch} {i : Nat} (h : i < l.length) : l.take (i + 1) = l.take i ++ [l[i]] := by
  rw [List.take_add_one, List.getElem?_eq_getElem h]
  rfl
theorem ch_cell (pos : Nat → Nat) : ∀ (l : List Ch) (i j : Nat) (hi : i < l.length) (hj : j < 3), (l.flatMap (chCells pos))[i * 3 + j]? = (chCells pos l[i])[j]?
  | [], i, j, hi, hj => by simp at hi
  | c :: r, 0, j, hi, hj => by
    rw [List.flatMap_cons, List.getElem?_append_left (by simp [chCells]; omega)]
    simp
  | c :: r, i + 1, j, hi, hj => by
    rw [List.flatMap_cons, List.getElem?_append_right (by simp [chCells]; omega)]
    have := ch_cell pos r i j (by simpa using hi) hj
    have e : (i + 1) * 3 + j - (chCells pos c).length = i * 3 + j := by simp [chCells]; omega
    rw [e, this]
    simp
/- the slice of the first n -/
theorem open_cut {base : Nat} {w : World} {v : Value} {n m : Nat} {xs : List Value} (h : w.ownsRow base 98 3 v n xs) (hm : m ≤ n) :
    ∃ a c, (∀ W, (Instr.slice 67 v none (some (.int .i64 (m : Int))) none).run Try.prog W = .ok (.slice a m c) W) ∧ (0 < m → ∃ g, a = some ⟨g, 0, none⟩ ∧ v.ownBlock = some g ∧ base ≤ g) := by
  have und : Try.prog.underlying 67 = some (.slice (Try.prog.elem 67)) := by kernel_rfl
  have el : Try.prog.elem 67 = 98 := by kernel_rfl
  rcases h.2 with ⟨rfl, h0⟩ | ⟨g, cap, cur, rfl, hb, hg, h1, h2, h3, h4⟩
  · have : m = 0 := by omega
    subst this
    refine ⟨none, 0, fun W => ?_, fun h => by omega⟩
    rw [run_slice_h (P := Try.prog) W 67 none 0 0 und .i64 ((0 : Nat) : Int) (by omega) (by omega), el, Try.sizeOf98]
    rfl
  · refine ⟨some ⟨g, 0, none⟩, cap, fun W => ?_, fun _ => ⟨g, rfl, rfl, hb⟩⟩
    rw [run_slice_h (P := Try.prog) W 67 (some ⟨g, 0, none⟩) n cap und .i64 (m : Int) (by omega) (by omega), el, Try.sizeOf98]
    show Result.ok (sliced _ 0 ((m : Int)).toNat cap 3) W = _
    unfold sliced
    by_cases e : cap = 0
    · simp [e]
    · simp [Addr.add]
structure SR (base : Nat) (y : Lay) (d : Dk) (w : World) (i : Nat) (wr : World) : Prop where
  mp : wr.ownsMap Try.prog 9 RP y.bl (applyAll (d.opens.take i) d.last).length (toD y.pos (applyAll (d.opens.take i) d.last))
  hk : ∀ k, k < w.heap.size → k ≠ y.bl → wr.heap[k]? = w.heap[k]?
  ev : Ev DT base w wr
/- the disk behind it -/
theorem settle_end {base b : Nat} {y : Lay} {d : Dk} {w wr : World} (h : DK base b y d w) (m : Nat) (hm : m ≤ d.opens.length) (r : SR base y d w m wr) :
    wr.cell? ⟨b, 2, none⟩ = some y.ov ∧ wr.frozen? ⟨b, 2, none⟩ = false ∧ DK base b { y with ov := .slice none 0 0 } (d.settle m) (wr.setCell ⟨b, 2, none⟩ (.slice none 0 0)) ∧ Ev DT base w (wr.setCell ⟨b, 2, none⟩ (.slice none 0 0)) := by
  have ok := h.ok
  have hb : wr.heap[b]? = _ := (r.hk b (lt_of h.disk) (fun e => by
    have := owns_kd h.ls
    rw [← e, kd_cells h.disk] at this
    cases this)).trans h.disk
  have hl := all_len (d.opens.take m) d.last
  rw [List.length_take] at hl
  have ok2 : Ok { d with last := applyAll (d.opens.take m) d.last, opens := [] } := ⟨ok.names, ok.last.all (fun c hc => ok.opens c (List.mem_of_mem_take hc)), fun c hc => by simp at hc, ok.nlen, by
    have := ok.llen
    show (applyAll (d.opens.take m) d.last).length + 0 ≤ d.steps
    exact Nat.le_trans hl (by omega), ok.plan⟩
  have hks : ∀ k, k < w.heap.size → kd w k ≠ 1 → wr.heap[k]? = w.heap[k]? := fun k hk hne => r.hk k hk (fun e => hne (by rw [e]; exact owns_kd h.ls))
  have hset : ∀ k, k < w.heap.size → k ≠ b → k ≠ y.bl → (wr.setCell ⟨b, 2, none⟩ (.slice none 0 0)).heap[k]? = w.heap[k]? := fun k hk h1 h2 => (set_ne h1 _).trans (r.hk k hk h2)
  have hset2 : ∀ k, k < w.heap.size → kd w k ≠ 71 → kd w k ≠ 1 → (wr.setCell ⟨b, 2, none⟩ (.slice none 0 0)).heap[k]? = w.heap[k]? := fun k hk h1 h2 => hset k hk (fun e => h1 (by rw [e, kd_cells h.disk])) (fun e => h2 (by rw [e]; exact owns_kd h.ls))
  have hlb : b ≠ y.bl := fun e => by
    have := owns_kd h.ls
    rw [← e, kd_cells h.disk] at this
    cases this
  refine ⟨Lib.cell_of_heap hb 2, Lib.frozen_of_heap hb 2, ⟨set_at hb _, h.bb, h.nb, h.lb, h.ne, ?_, ?_, World.ownsRow_nil _ _ _ _, ?_, fun i x hx => ?_, h.inj, h.apart, ok2, Nat.le_trans h.hb (by rw [size_set]; exact r.ev.size)⟩, r.ev.trans (Ev.set hb h.bb rfl _)⟩
  · exact map_later h.nm (hset _ h.nm.lt (fun e => by
      have := owns_kd h.nm
      rw [e, kd_cells h.disk] at this
      cases this) h.ne)
  · exact map_later r.mp (set_ne (fun e => hlb e.symm) _)
  · exact plan_later h.pl (fun k hk e => hset2 k hk (by rw [e]; decide) (by rw [e]; decide))
  · have q := h.fl i x hx
    exact file_later q (hset2 _ (lt_of q.blk) (by rw [kd_cells q.blk]; decide) (by rw [kd_cells q.blk]; decide)) (fun g hg => hset2 g (row_kd q.row hg).2.1 (by rw [(row_kd q.row hg).1]; decide) (by rw [(row_kd q.row hg).1]; decide))
set_option maxHeartbeats 4000000 in
set_option maxRecDepth 100000 in
theorem settle_call (base b : Nat) (y : Lay) (d : Dk) (w : World) (h : DK base b y d w) (m : Nat) (hm : m ≤ d.opens.length) (hst : d.steps < 1099511627776) :
    Calls Try.prog 42 #[ptr b, .int .i64 (m : Int)] w fun e w' => e = .returned (.tuple #[]) ∧ (∃ ov, DK base b { y with ov := ov } (d.settle m) w') ∧ Ev DT base w w' := by
  obtain ⟨a, c, hsl, hga⟩ := open_cut h.op hm
  obtain ⟨ao, co, hov⟩ := row_shape h.op
  have c2 : w.cell? ⟨b, 2, none⟩ = some (.slice ao d.opens.length co) := by rw [← hov]; exact h.cell 2
  have hq := hsl w
  rw [hov] at hq
  have R0 : Hid (SR base y d w 0 w) := ⟨h.ls, fun _ _ _ => rfl, Ev.refl _ _ _⟩
  have H := hid_of h
  have HV := hid_of hov
  have HG := hid_of hga
  clear h hsl hga hov
  unfold ptr
  go_enter Try.func42, Try.ntmps42
  go_wp2_with fail
  go_loopg [13] m (fun g s13 wx => ∃ k : Nat, k ≤ m ∧ m ≤ k + g ∧ s13 = .int .i64 k ∧ Hid (SR base y d w k wx))
  case atStart => exact ⟨0, by omega, by omega, rfl, R0⟩
  case round =>
    obtain ⟨k, hk, hg, rfl, R⟩ := hrel
    by_cases hlt : k < m
    · obtain ⟨g', rfl⟩ : ∃ g', gk = g' + 1 := ⟨gk - 1, by omega⟩
      obtain ⟨q, rfl, hq2, hq3⟩ := HG.out (by omega)
      have hko : k < d.opens.length := by omega
      have hrow : wr.ownsRow base 98 3 y.ov d.opens.length (d.opens.flatMap (chCells y.pos)) := row_later H.out.op fun g hg => R.out.hk g (row_kd H.out.op hg).2.1 (fun e => by
        have := owns_kd H.out.ls
        rw [← e, (row_kd H.out.op hg).1] at this
        cases this)
      have hcell : ∀ j, j < 3 → wr.cell? ⟨q, k * 3 + j, none⟩ = (chCells y.pos d.opens[k])[j]? := fun j hj => by
        have e0 := ch_cell y.pos d.opens k j hko hj
        have hlt2 : j < (chCells y.pos d.opens[k]).length := by simpa [chCells] using hj
        rw [List.getElem?_eq_getElem hlt2] at e0 ⊢
        have := hrow.cells (g := q) hq2 _ _ e0
        have e : (⟨q, 0, none⟩ : Addr).add (k * 3 + j) = ⟨q, k * 3 + j, none⟩ := by
          unfold Addr.add
          by_cases h0 : k * 3 + j = 0
          · rw [h0]; simp
          · rw [if_neg h0]; simp
        rw [e] at this
        exact this
      obtain ⟨c, hc⟩ : ∃ c, c = d.opens[k] := ⟨_, rfl⟩
      rw [← hc] at hcell
      obtain ⟨G, hG⟩ : ∃ G, G = mk c.gone := ⟨_, rfl⟩
      obtain ⟨N, hN⟩ : ∃ N, N = mk c.name := ⟨_, rfl⟩
      obtain ⟨P, hP⟩ : ∃ P, Value.pointer P = optPtr y.pos c.file := by cases c.file <;> exact ⟨_, rfl⟩
      have k0 : wr.cell? ⟨q, k * 3, none⟩ = some (.string G) := by rw [hG]; exact hcell 0 (by omega)
      have k1 : wr.cell? ⟨q, k * 3 + 1, none⟩ = some (.string N) := by rw [hN]; exact hcell 1 (by omega)
      have k2 : wr.cell? ⟨q, k * 3 + 2, none⟩ = some (.pointer P) := by rw [hP]; exact hcell 2 (by omega)
      have ew : IntKind.i64.wrap ((k : Int) + 1) = (k : Int) + 1 := IntWalk.i64_in _ (by have := H.out.ok.llen; omega)
      have gi : ((k : Int)) < (m : Int) := by omega
      have hmk : wr.ownsMap Try.prog 9 RP y.bl (applyAll (d.opens.take k) d.last).length (toD y.pos (applyAll (d.opens.take k) d.last)) := R.out.mp
      have hcok : COk d.files.length c := by rw [hc]; exact H.out.ok.opens _ (List.getElem_mem hko)
      have hal := all_len (d.opens.take k) d.last
      rw [List.length_take] at hal
      have HAp := hid_of (apply_call base y.pos y.bl d.files.length (applyAll (d.opens.take k) d.last) c (wr.alloc (.cells #[.string G, .string N, .pointer P] 98)).drew (hmk.alloc _).drew H.out.lb hcok (H.out.ok.last.all (fun c hc => H.out.ok.opens c (List.mem_of_mem_take hc))) (Nat.lt_of_le_of_lt hal (by have := H.out.ok.llen; omega)))
      unfold chVal at HAp
      rw [← hG, ← hN, ← hP] at HAp
      rw [hc, ← applyAll_snoc, ← take_snoc hko] at HAp
      have q3 : (wr.alloc (.cells #[.string G, .string N, .pointer P] 98)).drew.cell? ⟨b, 1, none⟩ = some (.map (some y.bl)) := by
        have hb : wr.heap[b]? = _ := (R.out.hk b (lt_of H.out.disk) (fun e => by
          have := owns_kd H.out.ls
          rw [← e, kd_cells H.out.disk] at this
          cases this)).trans H.out.disk
        exact Lib.cell_of_heap ((Below.heap_alloc _ _ b (lt_of hb)).trans hb) 1
      have q4 : ∀ i, (wr.alloc (.cells #[.string G, .string N, .pointer P] 98)).drew.cell? ⟨wr.heap.size, i, none⟩ = (#[.string G, .string N, .pointer P] : Array Value)[i]? := fun i => Lib.cell_of_heap (heap_alloc_new wr _) i
      have q40 := q4 0
      have q41 := q4 1
      have q42 := q4 2
      clear hcell hrow hG hN hP hc hmk hcok hal q4
      go_wp2_with fail
      go_region_with (first | (go_at_call 61; refine HAp.out.mono ?_; rintro e w4 ⟨rfl, m4, b4, e4⟩; have M4 := hid_of (And.intro m4 (And.intro b4 e4)); clear m4 b4 e4))
      all_goals (
        go_wp2_with fail
        go_roundg g'
        case measure => omega
        case rel =>
          refine ⟨k + 1, by omega, by omega, by simp, ?_⟩
          refine ⟨M4.out.1, fun i hi hne => ?_, ?_⟩
          · rw [M4.out.2.1 i (by simp [World.drew]; have := R.out.ev.size; omega) hne]
            show (wr.alloc _).heap[i]? = _
            rw [Below.heap_alloc _ _ i (Nat.lt_of_lt_of_le hi R.out.ev.size)]
            exact R.out.hk i hi hne
          · exact ((R.out.ev.alloc _).drew).trans M4.out.2.2)
    · obtain rfl : k = m := by omega
      have gi : ¬ ((k : Int)) < (k : Int) := by omega
      obtain ⟨e1, e2, e3, e4⟩ := settle_end H.out k hm R.out
      rw [HV.out] at e1
      have E3 := hid_of (And.intro e3 e4)
      clear e3 e4
      go_wp2_with fail
      go_end0
      exact ⟨rfl, ⟨_, E3.out.1⟩, E3.out.2⟩
end Go.Proofs.Ytilbffbmpgebmaa.Settle
