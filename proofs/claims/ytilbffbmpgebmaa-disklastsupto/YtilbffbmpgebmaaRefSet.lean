/- The document's own plan. -/
import Derived.Test.YtilbffbmpgebmaaRefFiles2
import Derived.Test.YtilbffbmpgebmaaPlan2
namespace Go.Proofs.Ytilbffbmpgebmaa.RefSet
open Go.RowKit Go.Maps
open Go.Proofs.Ytilbffbmpgebmaa.DiskMath
open Go.Proofs.Ytilbffbmpgebmaa.RefMath
open Go.Proofs.Ytilbffbmpgebmaa.Base
open Go.Proofs.Ytilbffbmpgebmaa.Small
open Go.Proofs.Ytilbffbmpgebmaa.Append
open Go.Proofs.Ytilbffbmpgebmaa.Plan
open Go.Proofs.Ytilbffbmpgebmaa.Plan2
open Go.Proofs.Ytilbffbmpgebmaa.RefNames
open Go.Proofs.Ytilbffbmpgebmaa.RefWith
open Go.Proofs.Ytilbffbmpgebmaa.RefBase
open Go.Proofs.Ytilbffbmpgebmaa.RefChange
open Go.Proofs.Ytilbffbmpgebmaa.RefFault
open Go.Proofs.Ytilbffbmpgebmaa.RefFiles
open Go.Proofs.Ytilbffbmpgebmaa.RefFiles2
set_option linter.unusedVariables false

def goodB (l : List Ft) (last : Int) : Bool := risesB l last && !(l.any imp)
theorem good_cons (f : Ft) (r : List Ft) (last : Int) : goodB (f :: r) last = (!decide (f.step ≤ last) && !imp f && goodB r f.step) := by
  unfold goodB
  show ((if f.step ≤ last then false else risesB r f.step) && !(imp f || r.any imp)) = _
  by_cases h : f.step ≤ last
  · simp [h]
  · simp [h]
    cases imp f <;> cases risesB r f.step <;> simp
theorem set_bad {d : Dk} {l : List Ft} (h : goodB l d.steps = false) : setS d l = (d, 54) := by
  unfold setS
  rw [if_pos]
  unfold goodB at h
  cases hr : risesB l d.steps with
  | false => exact Or.inr (Or.inl rfl)
  | true => rw [hr] at h; right; right; simpa using h
theorem set_good {d : Dk} {l : List Ft} (h : goodB l d.steps = true) (hl : ¬ 1024 < l.length) : setS d l = ({ d with plan := l }, 0) := by
  unfold setS
  unfold goodB at h
  rw [Bool.and_eq_true] at h
  rw [if_neg]
  rintro (q | q | q)
  · exact hl q
  · rw [h.1] at q; cases q
  · rw [q] at h; cases h.2
theorem rises_pair : ∀ (l : List Ft) (last : Int), risesB l last = true → l.Pairwise (fun a b => a.step < b.step) ∧ ∀ f ∈ l, last < f.step
  | [], _, _ => ⟨List.Pairwise.nil, fun f hf => by cases hf⟩
  | f :: r, last, h => by
    have h' : (if f.step ≤ last then false else risesB r f.step) = true := h
    by_cases hs : f.step ≤ last
    · rw [if_pos hs] at h'; cases h'
    · rw [if_neg hs] at h'
      obtain ⟨h1, h2⟩ := rises_pair r f.step h'
      refine ⟨List.pairwise_cons.2 ⟨h2, h1⟩, fun g hg => ?_⟩
      rcases List.mem_cons.1 hg with rfl | hg
      · omega
      · have := h2 g hg; omega
theorem left_new {l : List Ft} {steps : Nat} (h : goodB l steps = true) (hl : l.length ≤ 1048576) : PLeft l steps l := by
  unfold goodB at h
  rw [Bool.and_eq_true] at h
  obtain ⟨h1, h2⟩ := rises_pair l steps h.1
  refine ⟨⟨[], rfl, fun f hf => by cases hf⟩, h1, h2, fun f hf => ?_, hl⟩
  have h3 : l.any imp = false := by simpa using h.2
  rw [List.any_eq_false] at h3
  simpa using h3 f hf
set_option maxRecDepth 100000 in
theorem append_ft (base : Nat) (w : World) (v : Value) (l : List Ft) (g0 : Nat) (h : FtSl w v l) (hl : l.length ≤ 1048576) (hg : w.heap[g0]? = some (.cells #[] 58 (0, 0))) (hb : base ≤ g0) :
    ∃ a c w', (Builtin.append_ #[29, 29] 29 #[.slice (some ⟨g0, 0, none⟩) 0 0, v]).run Try.prog w = .ok (.slice a l.length c) w' ∧ w'.ownsRow base 58 3 (.slice a l.length c) l.length (l.flatMap ftCells) ∧ Below w.heap.size w w' := by
  obtain ⟨i, hi, hz0, hz1, hz2⟩ := parts info58
  obtain ⟨a, c, rfl, hc⟩ := h
  rcases hc with rfl | ⟨g, o, rfl, hc⟩
  · have hsrc : Src Try.prog i.size 29 (.slice a 0 c) 0 [] w := by
      cases a with
      | none => exact Src.ofNil w Try.underlying29 c
      | some a => exact Src.ofSlice w Try.underlying29 a 0 c [] (by simp) (fun j u hj => by simp at hj) (fun u hu => by cases hu)
    have hr := run_append_room_src (P := Try.prog) w 29 29 29 58 i Try.underlying29 hi g0 0 0 0 (.slice a 0 c) 0 [] hsrc (Nat.le_refl _) (fun j hj => by simp at hj) (fun j hj => by simp at hj)
    refine ⟨some ⟨g0, 0, none⟩, 0, w, ?_, ⟨rfl, Or.inr ⟨g0, 0, #[], rfl, hb, hg, Nat.le_refl _, by unfold maxLen; omega, rfl, rfl⟩⟩, Below.refl _ _⟩
    rw [show ([] : List Ft).length = 0 from rfl]
    rw [hr]
    simp [World.setCells]
  · by_cases h0 : l.length = 0
    · have : l = [] := List.length_eq_zero_iff.1 h0
      subst this
      have hsrc : Src Try.prog i.size 29 (.slice (some ⟨g, o, none⟩) 0 c) 0 [] w := Src.ofSlice w Try.underlying29 _ 0 c [] (by simp) (fun j u hj => by simp at hj) (fun u hu => by cases hu)
      have hr := run_append_room_src (P := Try.prog) w 29 29 29 58 i Try.underlying29 hi g0 0 0 0 (.slice (some ⟨g, o, none⟩) 0 c) 0 [] hsrc (Nat.le_refl _) (fun j hj => by simp at hj) (fun j hj => by simp at hj)
      refine ⟨some ⟨g0, 0, none⟩, 0, w, ?_, ⟨rfl, Or.inr ⟨g0, 0, #[], rfl, hb, hg, Nat.le_refl _, by unfold maxLen; omega, rfl, rfl⟩⟩, Below.refl _ _⟩
      rw [show ([] : List Ft).length = 0 from rfl]
      rw [hr]
      simp [World.setCells]
    · have hfl := Plan2.flat_len l
      have hone : ∀ u ∈ l.flatMap ftCells, u.oneCell' = true := fun u hu => by
        obtain ⟨f, _, hf⟩ := List.mem_flatMap.1 hu
        simp only [ftCells, List.mem_cons, List.not_mem_nil, or_false] at hf
        rcases hf with rfl | rfl | rfl <;> rfl
      have hsrc : Src Try.prog i.size 29 (.slice (some ⟨g, o, none⟩) l.length c) l.length (l.flatMap ftCells) w := Src.ofSlice w Try.underlying29 _ l.length c _ (by rw [hz1]; exact hfl) (ft_news hc) hone
      have hold : (Builtin.firstCells i.size 0 (.slice (some ⟨g0, 0, none⟩) 0 0)).run Try.prog w.drew = .ok ([] : List Value).toArray w.drew := run_firstCells_some w.drew i.size 0 ⟨g0, 0, none⟩ 0 0 [] (by simp) (fun j u hj => by simp at hj)
      have hr := run_append_grow_src (P := Try.prog) w 29 29 29 58 i _ Try.underlying29 hi hz0 (some ⟨g0, 0, none⟩) 0 0 [] hold (.slice (some ⟨g, o, none⟩) l.length c) l.length _ hsrc (by omega) (by omega) (growslice_fits (by omega) (by rw [hz2]; omega))
      have hbw : base ≤ w.heap.size := Nat.le_trans hb (Nat.le_of_lt (lt_of hg))
      rw [Nat.zero_add] at hr
      refine ⟨_, _, _, hr, ?_, (Below.refl _ w).drew.alloc (Nat.le_refl _) _⟩
      have hge := grownCap_ge w l.length 0 58
      refine ⟨hfl, .inr ⟨w.heap.size, _, _, rfl, hbw, heap_alloc_new w.drew _, hge, grownCap_le_maxLen w l.length 0 58 (by unfold maxLen; omega), ?_, ?_⟩⟩
      · rw [Array.size_append, List.size_toArray, List.nil_append, hfl, size_zeroCells]
        show l.length * 3 + (grownCap w l.length 0 58 - l.length) * 3 = _
        omega
      · rw [Array.toList_append, ← hfl]
        exact List.take_left
theorem rd_plan {base b : Nat} {r : Rl} {d : Dk} {w w1 w2 : World} {l : List Ft} {v : Value} (h : RD base b r d w) (hb : Below w.heap.size w w1) (h2 : Below w1.heap.size w1 w2) (ho : w2.ownsRow base 58 3 v l.length (l.flatMap ftCells)) (hl : PLeft l d.steps l) : RD base b { r with pv := v, P := l } { d with plan := l } (w2.setCell ⟨b, 4, none⟩ v) ∧ Ev ET base w (w2.setCell ⟨b, 4, none⟩ v) := by
  have h0 := hb.trans (h2.mono hb.size)
  have h1 := h.below h0
  have hk : ∀ k, k < w2.heap.size → k ≠ b → (w2.setCell ⟨b, 4, none⟩ v).heap[k]? = w2.heap[k]? := fun k _ hn => set_ne hn _
  exact ⟨rd_own h1 hk (Nat.le_of_eq (size_set _ _).symm) (set_at (i := 4) h1.disk _) rfl rfl (row_own h1 hk h1.nm (by decide)) (row_own h1 hk h1.ls (by decide)) (row_own h1 hk h1.op (by decide)) (row_own h1 hk ho (by decide)) hl h.rn h.rl, (Ev.of_below h0).trans (ev_disk h1 _)⟩
set_option maxHeartbeats 4000000 in
set_option maxRecDepth 100000 in
theorem rset_call (base b : Nat) (r : Rl) (d : Dk) (v : Value) (l : List Ft) (w : World) (h : RD base b r d w) (hv : FtSl w v l) (hl : l.length ≤ 1048576) :
    Calls Try.prog 23 #[ptr b, v] w fun e w' => e = .returned (.int .i64 (setS d l).2) ∧ RHas base b (setS d l).1 w' ∧ Ev ET base w w' := by
  have HD := hid_of h
  have HV := hid_of hv
  have c5 : w.cell? ⟨b, 5, none⟩ = some (.int .i64 (d.steps : Int)) := h.cell 5
  obtain ⟨a, c, rfl, hc⟩ := hv
  have HC := hid_of hc
  obtain ⟨n, hn⟩ : ∃ n, n = l.length := ⟨_, rfl⟩
  rw [← hn] at hl ⊢
  clear h hc
  unfold ptr
  by_cases h1 : 1024 < n
  · have HE : Hid (setS d l = (d, 54)) := by show _ = _; unfold setS; rw [if_pos (Or.inl (by omega))]
    have g1 : (1024 : Int) < (n : Int) := by omega
    go_enter Try.func23, Try.ntmps23
    go_wp2_with fail
    go_ret
    rw [HE.out]
    exact ⟨rfl, ⟨r, HD.out⟩, Ev.refl _ _ _⟩
  · have g1 : ¬ (1024 : Int) < (n : Int) := by omega
    go_enter Try.func23, Try.ntmps23
    go_wp2_with fail
    go_loopg [6, 5] n (fun g si sl wx => ∃ (k : Nat) (lst : Int), k ≤ n ∧ n ≤ k + g ∧ si = .int .i64 k ∧ sl = .int .i64 lst ∧ wx = w ∧ Hid (goodB l d.steps = goodB (l.drop k) lst))
    case atStart => exact ⟨0, d.steps, by omega, by omega, rfl, rfl, rfl, by rw [List.drop_zero]; exact hid_of rfl⟩
    case round =>
      obtain ⟨k, lst, hk, hg, rfl, rfl, hwx, HG⟩ := hrel
      subst hwx
      by_cases hlt : k < n
      · obtain ⟨g', rfl⟩ : ∃ g', gk = g' + 1 := ⟨gk - 1, by omega⟩
        have hltl : k < l.length := by omega
        obtain ⟨gb, o, rfl, hc⟩ : ∃ g o, a = some ⟨g, o, none⟩ ∧ ∀ k (h : k < l.length), wr.cell? ⟨g, o + k * 3, none⟩ = some (.int .i64 (l[k]'h).step) ∧ wr.cell? ⟨g, o + k * 3 + 1, none⟩ = some (.int .i64 (l[k]'h).kind) ∧ wr.cell? ⟨g, o + k * 3 + 2, none⟩ = some (.int .i64 (l[k]'h).n) := by
          rcases HC.out with h | h
          · subst h; simp at hltl
          · exact h
        obtain ⟨p0, p1, p2⟩ := hc k hltl
        have hd : l.drop k = l[k] :: l.drop (k + 1) := List.drop_eq_getElem_cons hltl
        have ew : IntKind.i64.wrap ((k : Int) + 1) = (k : Int) + 1 := IntWalk.i64_in _ (by omega)
        have gi : (k : Int) < (n : Int) := by omega
        obtain ⟨f, hf⟩ : ∃ f, f = l[k] := ⟨_, rfl⟩
        rw [← hf] at p0 p1 p2 hd
        have hgc := HG.out
        rw [hd, good_cons] at hgc
        have HGC := hid_of hgc
        clear hc hf hd hgc HG
        by_cases b1 : f.step ≤ lst
        · have HE : Hid (setS d l = (d, 54)) := set_bad (by rw [HGC.out, decide_eq_true b1]; rfl)
          clear HGC
          go_wp2_with fail
          go_ret
          rw [HE.out]
          exact ⟨rfl, ⟨r, HD.out⟩, Ev.refl _ _ _⟩
        · by_cases b2 : f.kind < 1
          · have HE : Hid (setS d l = (d, 54)) := set_bad (by rw [HGC.out, show imp f = true from (by unfold imp; rw [if_neg (by omega), if_neg (by omega)])]; simp)
            clear HGC
            go_wp2_with fail
            go_ret
            rw [HE.out]
            exact ⟨rfl, ⟨r, HD.out⟩, Ev.refl _ _ _⟩
          · by_cases b3 : 3 < f.kind
            · have HE : Hid (setS d l = (d, 54)) := set_bad (by rw [HGC.out, show imp f = true from (by unfold imp; rw [if_neg (by omega), if_neg (by omega)])]; simp)
              clear HGC
              go_wp2_with fail
              go_ret
              rw [HE.out]
              exact ⟨rfl, ⟨r, HD.out⟩, Ev.refl _ _ _⟩
            · by_cases b4 : f.n < 0
              · have hi : imp f = true := by
                  unfold imp
                  by_cases q : f.kind = 1 ∨ f.kind = 3
                  · rw [if_pos q]; exact decide_eq_true (by omega)
                  · rw [if_neg q, if_pos (by omega)]; exact decide_eq_true b4
                have HE : Hid (setS d l = (d, 54)) := set_bad (by rw [HGC.out, hi]; simp)
                clear hi
                clear HGC
                go_wp2_with fail
                go_ret
                rw [HE.out]
                exact ⟨rfl, ⟨r, HD.out⟩, Ev.refl _ _ _⟩
              · by_cases b5 : 0 < f.n
                · by_cases b6 : f.kind = 2
                  · have hi : imp f = false := by unfold imp; rw [if_neg (by omega), if_pos b6]; exact decide_eq_false b4
                    have HN : Hid (goodB l d.steps = goodB (l.drop (k + 1)) f.step) := by show _ = _; rw [HGC.out, hi, decide_eq_false b1]; rfl
                    have b6b : (f.kind == 2) = true := by rw [b6]; rfl
                    clear hi
                    clear HGC
                    go_wp2_with fail
                    go_roundg g'
                    case measure => omega
                    case rel => exact ⟨k + 1, f.step, by omega, by omega, by rw [show ((k + 1 : Nat) : Int) = (k : Int) + 1 from by omega], rfl, rfl, HN⟩
                  · have hi : imp f = true := by unfold imp; rw [if_pos (by omega)]; exact decide_eq_true (by omega)
                    have HE : Hid (setS d l = (d, 54)) := set_bad (by rw [HGC.out, hi]; simp)
                    have b6b : (f.kind == 2) = false := by rw [beq_eq_false_iff_ne]; exact b6
                    clear hi
                    clear HGC
                    go_wp2_with fail
                    go_ret
                    rw [HE.out]
                    exact ⟨rfl, ⟨r, HD.out⟩, Ev.refl _ _ _⟩
                · have hi : imp f = false := by
                    unfold imp
                    by_cases q : f.kind = 1 ∨ f.kind = 3
                    · rw [if_pos q]; exact decide_eq_false (by omega)
                    · rw [if_neg q, if_pos (by omega)]; exact decide_eq_false b4
                  have HN : Hid (goodB l d.steps = goodB (l.drop (k + 1)) f.step) := by show _ = _; rw [HGC.out, hi, decide_eq_false b1]; rfl
                  clear hi
                  clear HGC
                  go_wp2_with fail
                  go_roundg g'
                  case measure => omega
                  case rel => exact ⟨k + 1, f.step, by omega, by omega, by rw [show ((k + 1 : Nat) : Int) = (k : Int) + 1 from by omega], rfl, rfl, HN⟩
      · obtain rfl : k = n := by omega
        have gi : ¬ (k : Int) < (k : Int) := by omega
        have hgd : goodB l d.steps = true := by rw [HG.out, hn, List.drop_length]; rfl
        have HE := hid_of (set_good hgd (by omega))
        have hA : Below wr.heap.size wr (wr.alloc (.cells #[] 58)) := (Below.refl _ wr).alloc (Nat.le_refl _) _
        have hvA : FtSl (wr.alloc (.cells #[] 58)) (.slice a l.length c) l := by
          obtain ⟨a', c', e, hh⟩ := HV.out
          refine ⟨a, c, rfl, ?_⟩
          injection e with e1 e2 e3
          subst e1
          rcases hh with q | ⟨g, o, e4, q⟩
          · exact Or.inl q
          · exact Or.inr ⟨g, o, e4, fun j hj => ⟨cell_on hA (q j hj).1, cell_on hA (q j hj).2.1, cell_on hA (q j hj).2.2⟩⟩
        obtain ⟨a2, c2, w2, hr, ho, hb2⟩ := append_ft base (wr.alloc (.cells #[] 58)) _ l wr.heap.size hvA (by omega) (heap_alloc_new wr _) HD.out.hb
        have hRD := rd_plan HD.out hA hb2 ho (left_new hgd (by omega))
        have HRD := hid_of hRD
        have q4 : w2.cell? ⟨b, 4, none⟩ = some r.pv := (HD.out.below (hA.trans (hb2.mono hA.size))).cell 4
        have z4 : w2.frozen? ⟨b, 4, none⟩ = false := (HD.out.below (hA.trans (hb2.mono hA.size))).frozen 4
        clear hgd hA hvA ho hb2 hRD HG
        go_wp2_with (at_builtin; refine wpl_eq rfl _ _ 29 29 rfl (.slice (some ⟨wr.heap.size, 0, none⟩) 0 0) (.slice a l.length c) (.slice a2 l.length c2) (wr.alloc (.cells #[] 58)) w2 rfl rfl hr ?_)
        go_wp2_with fail
        go_ret
        rw [HE.out]
        exact ⟨rfl, ⟨_, HRD.out.1⟩, HRD.out.2⟩
end Go.Proofs.Ytilbffbmpgebmaa.RefSet
