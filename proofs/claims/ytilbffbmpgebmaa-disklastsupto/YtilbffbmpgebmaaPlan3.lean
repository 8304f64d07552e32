/- Plan, and where its new row lies; rows of faults that are spoilt beside both disks. -/
import Derived.Test.YtilbffbmpgebmaaDoA
namespace Go.Proofs.Ytilbffbmpgebmaa.Plan3
open Go.RowKit Go.Maps
open Go.Proofs.Ytilbffbmpgebmaa.DiskMath
open Go.Proofs.Ytilbffbmpgebmaa.Base
open Go.Proofs.Ytilbffbmpgebmaa.Small
open Go.Proofs.Ytilbffbmpgebmaa.Find
open Go.Proofs.Ytilbffbmpgebmaa.File2
open Go.Proofs.Ytilbffbmpgebmaa.Append
open Go.Proofs.Ytilbffbmpgebmaa.Plan
open Go.Proofs.Ytilbffbmpgebmaa.Plan2
open Go.Proofs.Ytilbffbmpgebmaa.RefBase
set_option linter.unusedVariables false

/- the plan's row is not the block g -/
def PNot (y : Lay) (d : Dk) (g : Nat) : Prop := d.plan = [] ∨ ∀ (a : Addr) (n c : Nat), y.pv = .slice (some a) n c → a.block ≠ g
theorem pnot_new {base b : Nat} {y : Lay} {d : Dk} {w : World} (h : DK base b y d w) {g : Nat} (hg : w.heap.size ≤ g) : PNot y d g := by
  rcases h.pl with ⟨h1, _⟩ | ⟨g', o, cap, cur, e, _, h3, _⟩
  · exact Or.inl h1
  · refine Or.inr fun a n c e2 => ?_
    rw [e] at e2
    injection e2 with e3 e4 e5
    injection e3 with e6
    rw [← e6]
    have := lt_of h3
    show g' ≠ g
    omega
theorem dk_rows {base b : Nat} {y : Lay} {d : Dk} {w w' : World} {g : Nat} (h : DK base b y d w) (hn : PNot y d g) (hg : kd w g = 60) (hk : ∀ k, k < w.heap.size → k ≠ g → w'.heap[k]? = w.heap[k]?) (hs : w.heap.size ≤ w'.heap.size) : DK base b y d w' := by
  have hq : ∀ k, k < w.heap.size → kd w k ≠ 60 → w'.heap[k]? = w.heap[k]? := fun k hk2 hne => hk k hk2 (fun e => hne (by rw [e]; exact hg))
  have hr : ∀ {e sz n : Nat} {v : Value} {xs : List Value}, w.ownsRow base e sz v n xs → e + 2 ≠ 60 → ∀ g, v.ownBlock = some g → w'.heap[g]? = w.heap[g]? := fun hrow ht g hg => by
    obtain ⟨q1, q2, q3⟩ := row_kd hrow hg
    exact hq g q2 (by rw [q1]; exact ht)
  refine ⟨(hq b (lt_of h.disk) (by rw [kd_cells h.disk]; decide)).trans h.disk, h.bb, h.nb, h.lb, h.ne, map_later h.nm (hq _ h.nm.lt (by rw [owns_kd h.nm]; decide)), map_later h.ls (hq _ h.ls.lt (by rw [owns_kd h.ls]; decide)),
    row_later h.op (hr h.op (by decide)), ?_, fun i x hx => by
      have q := h.fl i x hx
      exact file_later q (hq _ (lt_of q.blk) (by rw [kd_cells q.blk]; decide)) (hr q.row (by decide)), h.inj, h.apart, h.ok, Nat.le_trans h.hb hs⟩
  rcases h.pl with ⟨h1, h2⟩ | ⟨g', o, cap, cur, e, h0, h3, h4⟩
  · exact Or.inl ⟨h1, h2⟩
  · rcases hn with hn | hn
    · rw [hn] at h0; cases h0
    · exact Or.inr ⟨g', o, cap, cur, e, h0, (hk g' (lt_of h3) (hn _ _ _ e)).trans h3, h4⟩
theorem rd_rows {base b : Nat} {r : Rl} {d : Dk} {w w' : World} {g : Nat} (h : RD base b r d w) (hn : r.pv.ownBlock ≠ some g) (hg : kd w g = 60) (hk : ∀ k, k < w.heap.size → k ≠ g → w'.heap[k]? = w.heap[k]?) (hs : w.heap.size ≤ w'.heap.size) : RD base b r d w' := by
  have hq : ∀ k, k < w.heap.size → kd w k ≠ 60 → w'.heap[k]? = w.heap[k]? := fun k hk2 hne => hk k hk2 (fun e => hne (by rw [e]; exact hg))
  have hr : ∀ {e sz n : Nat} {v : Value} {xs : List Value}, w.ownsRow base e sz v n xs → e + 2 ≠ 60 → w'.ownsRow base e sz v n xs := fun hrow ht => row_later hrow fun g hg => by
    obtain ⟨q1, q2, q3⟩ := row_kd hrow hg
    exact hq g q2 (by rw [q1]; exact ht)
  refine ⟨(hq b (lt_of h.disk) (by rw [kd_cells h.disk]; decide)).trans h.disk, h.bb, hr h.fl (by decide), hr h.nm (by decide), hr h.ls (by decide), hr h.op (by decide), row_later h.pl fun k hk2 => ?_, h.left, h.rn, h.rl, Nat.le_trans h.hb hs⟩
  obtain ⟨q1, q2, q3⟩ := row_kd h.pl hk2
  exact hk k q2 (fun e => hn (by rw [← e]; exact hk2))
theorem rnot_new {base b : Nat} {r : Rl} {d : Dk} {w : World} (h : RD base b r d w) {g : Nat} (hg : w.heap.size ≤ g) : r.pv.ownBlock ≠ some g := fun e => by
  have := (row_kd h.pl e).2.1
  omega
set_option maxHeartbeats 1000000 in
set_option maxRecDepth 100000 in
theorem clone2_call (v : Value) (l : List Ft) (w : World) (h : FtSl w v l) (hl : l.length ≤ 1048576) : Calls Try.prog 55 #[v] w fun e w' => ∃ a n c, e = .returned (.slice a n c) ∧ PlanAt w' (.slice a n c) l ∧ Below w.heap.size w w' ∧ (l = [] ∨ ∀ ad, a = some ad → w.heap.size ≤ ad.block) := by
  obtain ⟨a, c, rfl, h⟩ := h
  cases a with
  | none =>
    have hl0 : l = [] := by
      rcases h with h | ⟨g, o, e, _⟩
      · exact h
      · cases e
    subst hl0
    clear h
    have hq : ∀ w, (binOp .eql 29 (.slice none 0 c) (.slice none 0 0)).run Try.prog w = .ok (.bool true) w := eq_nil none 0 c
    go_enter Try.func55, Try.ntmps55
    go_wp2_with fail
    go_ret
    exact ⟨none, 0, _, rfl, Or.inl ⟨rfl, _, _, rfl⟩, Below.refl _ _, Or.inl trivial⟩
  | some ad =>
    have HN : Hid (∀ j u, (l.flatMap ftCells)[j]? = some u → w.cell? (ad.add j) = some u) := by
      rcases h with h | ⟨g, o, e, hc⟩
      · subst h
        intro j u hj
        simp at hj
      · cases e
        exact ft_news hc
    clear h
    obtain ⟨i0, hi, hz0, hz1, hz2⟩ := parts info58
    have hq : ∀ w, (binOp .eql 29 (.slice (some ad) l.length c) (.slice none 0 0)).run Try.prog w = .ok (.bool false) w := eq_nil (some ad) l.length c
    have HB : Hid (Below w.heap.size w (w.alloc (.cells #[] 58))) := (Below.refl _ w).alloc (Nat.le_refl _) _
    have HN2 : Hid (∀ j u, (l.flatMap ftCells)[j]? = some u → (w.alloc (.cells #[] 58)).cell? (ad.add j) = some u) := fun j u hj => cell_on HB.out (HN.out j u hj)
    have H1 : Hid (∀ u ∈ l.flatMap ftCells, u.oneCell' = true) := by
      intro u hu
      obtain ⟨f, _, hf⟩ := List.mem_flatMap.1 hu
      simp only [ftCells, List.mem_cons, List.mem_nil_iff, or_false] at hf
      rcases hf with rfl | rfl | rfl <;> rfl
    have HO : Hid ((w.alloc (.cells #[] 58)).ownsRow w.heap.size 58 3 (.slice (some ⟨w.heap.size, 0, none⟩) 0 0) 0 []) := World.ownsRow_made w #[] 0 (Nat.le_refl _) (by decide) rfl
    have HL := hid_of (flat_len l)
    go_enter Try.func55, Try.ntmps55
    go_wp2_with (first
      | (at_builtin; refine wpList_append_own _ rfl _ _ 29 rfl w.heap.size 58 i0 (.agg #[.int .i64 0, .int .i64 0, .int .i64 0]) 3 24 Try.underlying29 hi hz0 hz1 hz2 rfl (by decide) _ 0 [] rfl HO.out ad l.length c (l.flatMap ftCells) rfl HL.out HN2.out H1.out (by unfold maxLen; omega) (by omega) (by simp) ?_; intro v' w1 hown hg hnil; go_frame)
      | go_in)
    rw [Nat.zero_add, List.nil_append] at hown
    have hp := plan_of_row hown
    obtain ⟨a', n', c', hv⟩ : ∃ a n c, v' = .slice a n c := by
      rcases hown.2 with ⟨e, _⟩ | ⟨g, cap, cur, e, _⟩
      · exact ⟨_, _, _, e⟩
      · exact ⟨_, _, _, e⟩
    subst hv
    have hfr : ∀ ad, a' = some ad → w.heap.size ≤ ad.block := by
      rintro ad rfl
      rcases hown.2 with ⟨e, _⟩ | ⟨g, cap, cur, e, hb, _⟩
      · cases e
      · injection e with e1 e2 e3
        injection e1 with e4
        rw [e4]
        exact hb
    have HFR := hid_of hfr
    clear hfr
    have HP := hid_of (And.intro hp (HB.out.grown hg HB.out.size (fun k hk => by cases hk; exact Nat.le_refl _)))
    clear hown hg hnil hp
    go_wp2_with fail
    go_ret
    exact ⟨a', n', c', rfl, HP.out.1, HP.out.2, Or.inr HFR.out⟩
set_option maxHeartbeats 2000000 in
set_option maxRecDepth 100000 in
theorem plan2_call (base b : Nat) (y : Lay) (d : Dk) (w : World) (h : DK base b y d w) (v : Value) (l : List Ft) (hv : FtSl w v l) (hw : ∀ f ∈ l, -9223372036854775808 ≤ f.step ∧ f.step ≤ 9223372036854775807 ∧ f.n ≤ 9223372036854775807) :
    Calls Try.prog 22 #[ptr b, v] w fun e w' => e = .returned (.int .i64 (setS d l).2) ∧ (∃ y', DK base b y' (setS d l).1 w' ∧ ∀ g, g < w.heap.size → PNot y d g → PNot y' (setS d l).1 g) ∧ Ev DT base w w' := by
  have H := hid_of h
  have HV := hid_of hv
  have hv' := hv
  obtain ⟨a, c, rfl, -⟩ := hv'
  have c4 : w.cell? ⟨b, 4, none⟩ = some (.int .i64 d.steps) := h.cell 4
  by_cases h1 : 1024 < l.length
  · have e1 : setS d l = (d, 54) := if_pos (Or.inl h1)
    rw [e1]
    have g1 : (1024 : Int) < (l.length : Int) := by omega
    clear h hv e1 h1
    unfold ptr
    go_enter Try.func22, Try.ntmps22
    go_wp2_with fail
    go_ret
    exact ⟨rfl, ⟨_, H.out, fun _ _ h => h⟩, Ev.refl _ _ _⟩
  · have g1 : ¬ (1024 : Int) < (l.length : Int) := by omega
    have HR := hid_of (rise_call (.slice a l.length c) l d.steps w hv (by omega))
    have HC := hid_of (fun W (hb : Below w.heap.size w W) => contains_call (.slice a l.length c) l W (ft_below HV.out hb) (by omega))
    have HK := hid_of (fun W (hb : Below w.heap.size w W) => clone2_call (.slice a l.length c) l W (ft_below HV.out hb) (by omega))
    cases hr : risesB l d.steps with
    | false =>
      have e1 : setS d l = (d, 54) := if_pos (Or.inr (Or.inl hr))
      rw [e1]
      rw [hr] at HR
      clear h hv e1 h1 hr HC HK
      unfold ptr
      go_enter Try.func22, Try.ntmps22
      go_wp2_with fail
      refine HR.out.mono ?_
      rintro e w1 ⟨rfl, b1⟩
      have B1 := hid_of b1
      clear b1
      go_wp2_with fail
      go_ret
      exact ⟨rfl, ⟨_, H.out.below B1.out, fun _ _ h => h⟩, Ev.of_below B1.out⟩
    | true =>
      rw [hr] at HR
      cases hi : l.any imp with
      | true =>
        have e1 : setS d l = (d, 54) := if_pos (Or.inr (Or.inr hi))
        rw [e1]
        rw [hi] at HC
        clear h hv e1 h1 hr hi HK
        unfold ptr
        go_enter Try.func22, Try.ntmps22
        go_wp2_with fail
        refine HR.out.mono ?_
        rintro e w1 ⟨rfl, b1⟩
        have B1 := hid_of b1
        clear b1
        go_wp2_with fail
        refine (HC.out w1 B1.out).mono ?_
        rintro e w2 ⟨rfl, b2⟩
        have B2 := hid_of (B1.out.trans (b2.mono B1.out.size))
        clear b2
        go_wp2_with fail
        go_ret
        exact ⟨rfl, ⟨_, H.out.below B2.out, fun _ _ h => h⟩, Ev.of_below B2.out⟩
      | false =>
        have e1 : setS d l = ({ d with plan := l }, 0) := if_neg (by rw [hr, hi]; simp; omega)
        have HOk : Hid (Ok { d with plan := l }) := by
          have ok := h.ok
          refine ⟨ok.names, ok.last, ok.opens, ok.nlen, ok.llen, fun f hf => ?_⟩
          have h2 : imp f = false := by
            cases hq : imp f with
            | false => rfl
            | true => exact absurd (List.any_eq_true.2 ⟨f, hf, hq⟩) (by rw [hi]; decide)
          have h3 := imp_ok h2
          have h4 := hw f hf
          exact ⟨h4.1, h4.2.1, h3.1, h3.2.1, h3.2.2, h4.2.2⟩
        rw [e1]
        rw [hi] at HC
        clear h hv e1 h1 hr hi hw
        unfold ptr
        go_enter Try.func22, Try.ntmps22
        go_wp2_with fail
        refine HR.out.mono ?_
        rintro e w1 ⟨rfl, b1⟩
        have B1 := hid_of b1
        clear b1
        go_wp2_with fail
        refine (HC.out w1 B1.out).mono ?_
        rintro e w2 ⟨rfl, b2⟩
        have B2 := hid_of (B1.out.trans (b2.mono B1.out.size))
        clear b2
        go_wp2_with fail
        refine (HK.out w2 B2.out).mono ?_
        rintro e w3 ⟨na, nn, nc, rfl, hp, b3, hfr⟩
        have HFR := hid_of hfr
        clear hfr
        have B3 := hid_of (B2.out.trans (b3.mono B2.out.size))
        have HP := hid_of hp
        have k3 := H.out.below B3.out
        have d3 : w3.cell? ⟨b, 3, none⟩ = some y.pv := k3.cell 3
        have z3 : w3.frozen? ⟨b, 3, none⟩ = false := k3.frozen 3
        have K3 := hid_of k3
        clear b3 hp k3
        go_wp2_with fail
        go_ret
        have hd := set_at (i := 3) K3.out.disk (.slice na nn nc)
        have hk : ∀ k, k ≠ b → (w3.setCell ⟨b, 3, none⟩ (.slice na nn nc)).heap[k]? = w3.heap[k]? := fun k hk => set_ne hk _
        refine ⟨rfl, ⟨{ y with pv := .slice na nn nc }, ?_, fun g hg _ => ?_⟩, (Ev.of_below B3.out).trans (Ev.set K3.out.disk K3.out.bb rfl _)⟩
        rotate_left
        · rcases HFR.out with h | h
          · exact Or.inl h
          · refine Or.inr fun a n c e => ?_
            injection e with e1 e2 e3
            have := h a e1
            have := B2.out.size
            omega
        refine K3.out.own (fun k hk2 hne _ => hk k hne) (by rw [size_set]; exact Nat.le_refl _) rfl rfl rfl rfl hd rfl rfl rfl (row_later K3.out.op fun q hq => hk q (fun e => ?_)) ?_ HOk.out
        · obtain ⟨q1, _, _⟩ := row_kd K3.out.op hq
          rw [e, kd_cells K3.out.disk] at q1
          cases q1
        · show PlanAt _ (.slice na nn nc) l
          refine plan_later HP.out (fun k _ e => hk k (fun e2 => ?_))
          rw [e2, kd_cells K3.out.disk] at e
          cases e
end Go.Proofs.Ytilbffbmpgebmaa.Plan3
