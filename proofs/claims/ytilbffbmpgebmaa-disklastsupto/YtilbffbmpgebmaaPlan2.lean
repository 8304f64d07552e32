/- Plan, whole. -/
import Derived.Test.YtilbffbmpgebmaaPlan
import Derived.Lib.SliceRun
import Derived.Laws.OwnMore
namespace Go.Proofs.Ytilbffbmpgebmaa.Plan2
open Go.RowKit Go.Maps
open Go.Proofs.Ytilbffbmpgebmaa.DiskMath
open Go.Proofs.Ytilbffbmpgebmaa.Base
open Go.Proofs.Ytilbffbmpgebmaa.Small
open Go.Proofs.Ytilbffbmpgebmaa.Find
open Go.Proofs.Ytilbffbmpgebmaa.File2
open Go.Proofs.Ytilbffbmpgebmaa.Append
open Go.Proofs.Ytilbffbmpgebmaa.Plan
set_option linter.unusedVariables false

theorem info58 : (Try.prog.info? 58).map (fun i => (i.zero, i.size, i.bytes)) = some (some (.agg #[.int .i64 0, .int .i64 0, .int .i64 0]), 3, 24) := by kernel_rfl
theorem flat_len (l : List Ft) : (l.flatMap ftCells).length = l.length * 3 := by
  induction l with
  | nil => rfl
  | cons f r ih => rw [List.flatMap_cons, List.length_append, ih, List.length_cons]; simp [ftCells]; omega
theorem flat_at : ∀ (l : List Ft) (k : Nat) (h : k < l.length), (l.flatMap ftCells)[k * 3]? = some (.int .i64 (l[k]'h).step) ∧ (l.flatMap ftCells)[k * 3 + 1]? = some (.int .i64 (l[k]'h).kind) ∧ (l.flatMap ftCells)[k * 3 + 2]? = some (.int .i64 (l[k]'h).n)
  | f :: r, 0, h => ⟨rfl, rfl, rfl⟩
  | f :: r, k + 1, h => by
    have ih := flat_at r k (by simpa using h)
    have e : ∀ i, ((f :: r).flatMap ftCells)[(k + 1) * 3 + i]? = (r.flatMap ftCells)[k * 3 + i]? := fun i => by
      rw [List.flatMap_cons, List.getElem?_append_right (by simp [ftCells]; omega)]
      congr 1
      simp [ftCells]
      omega
    exact ⟨(e 0).trans ih.1, (e 1).trans ih.2.1, (e 2).trans ih.2.2⟩
theorem ft_news {w : World} {g o : Nat} {l : List Ft} (hc : ∀ k (h : k < l.length), w.cell? ⟨g, o + k * 3, none⟩ = some (.int .i64 (l[k]'h).step) ∧ w.cell? ⟨g, o + k * 3 + 1, none⟩ = some (.int .i64 (l[k]'h).kind) ∧ w.cell? ⟨g, o + k * 3 + 2, none⟩ = some (.int .i64 (l[k]'h).n)) :
    ∀ j u, (l.flatMap ftCells)[j]? = some u → w.cell? ((⟨g, o, none⟩ : Addr).add j) = some u := by
  intro j u hj
  have hlt : j < (l.flatMap ftCells).length := (List.getElem?_eq_some_iff.1 hj).1
  rw [flat_len] at hlt
  have hk : j / 3 < l.length := by omega
  obtain ⟨c0, c1, c2⟩ := hc (j / 3) hk
  obtain ⟨d0, d1, d2⟩ := flat_at l (j / 3) hk
  have ea : (⟨g, o, none⟩ : Addr).add j = ⟨g, o + j, none⟩ := by
    unfold Addr.add
    split
    · rename_i h; rw [h]; rfl
    · rfl
  rw [ea]
  rcases (show j = j / 3 * 3 ∨ j = j / 3 * 3 + 1 ∨ j = j / 3 * 3 + 2 by omega) with e | e | e
  · have : o + j = o + j / 3 * 3 := by omega
    rw [this, c0, ← d0, ← e, hj]
  · have : o + j = o + j / 3 * 3 + 1 := by omega
    rw [this, c1, ← d1, ← e, hj]
  · have : o + j = o + j / 3 * 3 + 2 := by omega
    rw [this, c2, ← d2, ← e, hj]
theorem plan_of_row {w : World} {base : Nat} {v : Value} {l : List Ft} (h : w.ownsRow base 58 3 v l.length (l.flatMap ftCells)) : PlanAt w v l := by
  rcases h.2 with ⟨rfl, h0⟩ | ⟨g, cap, cur, rfl, hb, hg, h1, h2, h3, h4⟩
  · exact Or.inl ⟨List.length_eq_zero_iff.1 h0, none, 0, rfl⟩
  · by_cases hl : l.length = 0
    · exact Or.inl ⟨List.length_eq_zero_iff.1 hl, _, _, by rw [hl]⟩
    · refine Or.inr ⟨g, 0, cap, cur, rfl, by omega, hg, h1, h2, fun j hj => ?_⟩
      rw [← h4, List.getElem?_take, if_pos hj, Nat.zero_add]
      simp
theorem eq_nil (a : Option Addr) (n c : Nat) (w : World) : (binOp .eql 29 (.slice a n c) (.slice none 0 0)).run Try.prog w = .ok (.bool a.isNone) w := by
  exact Lib.run_eql_slice_nil (P := Try.prog) w 29 58 a n c 0 0 Try.underlying29
set_option maxHeartbeats 1000000 in
set_option maxRecDepth 100000 in
theorem clone_call (v : Value) (l : List Ft) (w : World) (h : FtSl w v l) (hl : l.length ≤ 1048576) : Calls Try.prog 55 #[v] w fun e w' => ∃ a n c, e = .returned (.slice a n c) ∧ PlanAt w' (.slice a n c) l ∧ Below w.heap.size w w' := by
  obtain ⟨a, c, rfl, h⟩ := h
  cases a with
  | none =>
    have hl0 : l = [] := by
      rcases h with h | ⟨g, o, e, _⟩
      · exact h
      · cases e
    subst hl0
    clear h
    have hq : ∀ w, (binOp .eql 29 (.slice none 0 c) (.slice none 0 0)).run Try.prog w = .ok (.bool true) w := eq_nil none 0 c
    go_enter Try.func55, Try.ntmps55
    go_wp2_with fail
    go_ret
    exact ⟨none, 0, _, rfl, Or.inl ⟨rfl, _, _, rfl⟩, Below.refl _ _⟩
  | some ad =>
    have HN : Hid (∀ j u, (l.flatMap ftCells)[j]? = some u → w.cell? (ad.add j) = some u) := by
      rcases h with h | ⟨g, o, e, hc⟩
      · subst h
        intro j u hj
        simp at hj
      · cases e
        exact ft_news hc
    clear h
    obtain ⟨i0, hi, hz0, hz1, hz2⟩ := parts info58
    have hq : ∀ w, (binOp .eql 29 (.slice (some ad) l.length c) (.slice none 0 0)).run Try.prog w = .ok (.bool false) w := eq_nil (some ad) l.length c
    have HB : Hid (Below w.heap.size w (w.alloc (.cells #[] 58))) := (Below.refl _ w).alloc (Nat.le_refl _) _
    have HN2 : Hid (∀ j u, (l.flatMap ftCells)[j]? = some u → (w.alloc (.cells #[] 58)).cell? (ad.add j) = some u) := fun j u hj => cell_on HB.out (HN.out j u hj)
    have H1 : Hid (∀ u ∈ l.flatMap ftCells, u.oneCell' = true) := by
      intro u hu
      obtain ⟨f, _, hf⟩ := List.mem_flatMap.1 hu
      simp only [ftCells, List.mem_cons, List.mem_nil_iff, or_false] at hf
      rcases hf with rfl | rfl | rfl <;> rfl
    have HO : Hid ((w.alloc (.cells #[] 58)).ownsRow w.heap.size 58 3 (.slice (some ⟨w.heap.size, 0, none⟩) 0 0) 0 []) := World.ownsRow_made w #[] 0 (Nat.le_refl _) (by decide) rfl
    have HL := hid_of (flat_len l)
    go_enter Try.func55, Try.ntmps55
    go_wp2_with (first
      | (at_builtin; refine wpList_append_own _ rfl _ _ 29 rfl w.heap.size 58 i0 (.agg #[.int .i64 0, .int .i64 0, .int .i64 0]) 3 24 Try.underlying29 hi hz0 hz1 hz2 rfl (by decide) _ 0 [] rfl HO.out ad l.length c (l.flatMap ftCells) rfl HL.out HN2.out H1.out (by unfold maxLen; omega) (by omega) (by simp) ?_; intro v' w1 hown hg hnil; go_frame)
      | go_in)
    rw [Nat.zero_add, List.nil_append] at hown
    have hp := plan_of_row hown
    obtain ⟨a', n', c', hv⟩ : ∃ a n c, v' = .slice a n c := by
      rcases hown.2 with ⟨e, _⟩ | ⟨g, cap, cur, e, _⟩
      · exact ⟨_, _, _, e⟩
      · exact ⟨_, _, _, e⟩
    subst hv
    have HP := hid_of (And.intro hp (HB.out.grown hg HB.out.size (fun k hk => by cases hk; exact Nat.le_refl _)))
    clear hown hg hnil hp
    go_wp2_with fail
    go_ret
    exact ⟨a', n', c', rfl, HP.out.1, HP.out.2⟩
theorem ft_below {w w' : World} {v : Value} {l : List Ft} (h : FtSl w v l) (hb : Below w.heap.size w w') : FtSl w' v l := by
  obtain ⟨a, c, rfl, h⟩ := h
  refine ⟨a, c, rfl, h.imp id ?_⟩
  rintro ⟨g, o, e, hc⟩
  exact ⟨g, o, e, fun k hk => ⟨cell_on hb (hc k hk).1, cell_on hb (hc k hk).2.1, cell_on hb (hc k hk).2.2⟩⟩
def setS (d : Dk) (l : List Ft) : Dk × Int := if 1024 < l.length ∨ risesB l d.steps = false ∨ l.any imp = true then (d, 54) else ({ d with plan := l }, 0)
theorem imp_ok {f : Ft} (h : imp f = false) : 1 ≤ f.kind ∧ f.kind ≤ 3 ∧ 0 ≤ f.n := by
  unfold imp at h
  split at h
  · rename_i hk
    have : f.n = 0 := by simpa using h
    omega
  · split at h
    · have : 0 ≤ f.n := by simpa using h
      omega
    · cases h
set_option maxHeartbeats 2000000 in
set_option maxRecDepth 100000 in
theorem plan_call (base b : Nat) (y : Lay) (d : Dk) (w : World) (h : DK base b y d w) (v : Value) (l : List Ft) (hv : FtSl w v l) (hw : ∀ f ∈ l, -9223372036854775808 ≤ f.step ∧ f.step ≤ 9223372036854775807 ∧ f.n ≤ 9223372036854775807) :
    Calls Try.prog 22 #[ptr b, v] w fun e w' => e = .returned (.int .i64 (setS d l).2) ∧ Has base b (setS d l).1 w' ∧ Ev DT base w w' := by
  have H := hid_of h
  have HV := hid_of hv
  have hv' := hv
  obtain ⟨a, c, rfl, -⟩ := hv'
  have c4 : w.cell? ⟨b, 4, none⟩ = some (.int .i64 d.steps) := h.cell 4
  by_cases h1 : 1024 < l.length
  · have e1 : setS d l = (d, 54) := if_pos (Or.inl h1)
    rw [e1]
    have g1 : (1024 : Int) < (l.length : Int) := by omega
    clear h hv e1 h1
    unfold ptr
    go_enter Try.func22, Try.ntmps22
    go_wp2_with fail
    go_ret
    exact ⟨rfl, ⟨_, H.out⟩, Ev.refl _ _ _⟩
  · have g1 : ¬ (1024 : Int) < (l.length : Int) := by omega
    have HR := hid_of (rise_call (.slice a l.length c) l d.steps w hv (by omega))
    have HC := hid_of (fun W (hb : Below w.heap.size w W) => contains_call (.slice a l.length c) l W (ft_below HV.out hb) (by omega))
    have HK := hid_of (fun W (hb : Below w.heap.size w W) => clone_call (.slice a l.length c) l W (ft_below HV.out hb) (by omega))
    cases hr : risesB l d.steps with
    | false =>
      have e1 : setS d l = (d, 54) := if_pos (Or.inr (Or.inl hr))
      rw [e1]
      rw [hr] at HR
      clear h hv e1 h1 hr HC HK
      unfold ptr
      go_enter Try.func22, Try.ntmps22
      go_wp2_with fail
      refine HR.out.mono ?_
      rintro e w1 ⟨rfl, b1⟩
      have B1 := hid_of b1
      clear b1
      go_wp2_with fail
      go_ret
      exact ⟨rfl, ⟨_, H.out.below B1.out⟩, Ev.of_below B1.out⟩
    | true =>
      rw [hr] at HR
      cases hi : l.any imp with
      | true =>
        have e1 : setS d l = (d, 54) := if_pos (Or.inr (Or.inr hi))
        rw [e1]
        rw [hi] at HC
        clear h hv e1 h1 hr hi HK
        unfold ptr
        go_enter Try.func22, Try.ntmps22
        go_wp2_with fail
        refine HR.out.mono ?_
        rintro e w1 ⟨rfl, b1⟩
        have B1 := hid_of b1
        clear b1
        go_wp2_with fail
        refine (HC.out w1 B1.out).mono ?_
        rintro e w2 ⟨rfl, b2⟩
        have B2 := hid_of (B1.out.trans (b2.mono B1.out.size))
        clear b2
        go_wp2_with fail
        go_ret
        exact ⟨rfl, ⟨_, H.out.below B2.out⟩, Ev.of_below B2.out⟩
      | false =>
        have e1 : setS d l = ({ d with plan := l }, 0) := if_neg (by rw [hr, hi]; simp; omega)
        have HOk : Hid (Ok { d with plan := l }) := by
          have ok := h.ok
          refine ⟨ok.names, ok.last, ok.opens, ok.nlen, ok.llen, fun f hf => ?_⟩
          have h2 : imp f = false := by
            cases hq : imp f with
            | false => rfl
            | true => exact absurd (List.any_eq_true.2 ⟨f, hf, hq⟩) (by rw [hi]; decide)
          have h3 := imp_ok h2
          have h4 := hw f hf
          exact ⟨h4.1, h4.2.1, h3.1, h3.2.1, h3.2.2, h4.2.2⟩
        rw [e1]
        rw [hi] at HC
        clear h hv e1 h1 hr hi hw
        unfold ptr
        go_enter Try.func22, Try.ntmps22
        go_wp2_with fail
        refine HR.out.mono ?_
        rintro e w1 ⟨rfl, b1⟩
        have B1 := hid_of b1
        clear b1
        go_wp2_with fail
        refine (HC.out w1 B1.out).mono ?_
        rintro e w2 ⟨rfl, b2⟩
        have B2 := hid_of (B1.out.trans (b2.mono B1.out.size))
        clear b2
        go_wp2_with fail
        refine (HK.out w2 B2.out).mono ?_
        rintro e w3 ⟨na, nn, nc, rfl, hp, b3⟩
        have B3 := hid_of (B2.out.trans (b3.mono B2.out.size))
        have HP := hid_of hp
        have k3 := H.out.below B3.out
        have d3 : w3.cell? ⟨b, 3, none⟩ = some y.pv := k3.cell 3
        have z3 : w3.frozen? ⟨b, 3, none⟩ = false := k3.frozen 3
        have K3 := hid_of k3
        clear b3 hp k3
        go_wp2_with fail
        go_ret
        have hd := set_at (i := 3) K3.out.disk (.slice na nn nc)
        have hk : ∀ k, k ≠ b → (w3.setCell ⟨b, 3, none⟩ (.slice na nn nc)).heap[k]? = w3.heap[k]? := fun k hk => set_ne hk _
        refine ⟨rfl, ⟨{ y with pv := .slice na nn nc }, ?_⟩, (Ev.of_below B3.out).trans (Ev.set K3.out.disk K3.out.bb rfl _)⟩
        refine K3.out.own (fun k hk2 hne _ => hk k hne) (by rw [size_set]; exact Nat.le_refl _) rfl rfl rfl rfl hd rfl rfl rfl (row_later K3.out.op fun q hq => hk q (fun e => ?_)) ?_ HOk.out
        · obtain ⟨q1, _, _⟩ := row_kd K3.out.op hq
          rw [e, kd_cells K3.out.disk] at q1
          cases q1
        · show PlanAt _ (.slice na nn nc) l
          refine plan_later HP.out (fun k _ e => hk k (fun e2 => ?_))
          rw [e2, kd_cells K3.out.disk] at e
          cases e
end Go.Proofs.Ytilbffbmpgebmaa.Plan2
