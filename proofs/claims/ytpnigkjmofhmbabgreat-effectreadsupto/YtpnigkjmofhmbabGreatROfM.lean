/- The document's Of: each element put where it belongs. Whether a text, a list, a set, a hash may be. -/
import Derived.Test.YtpnigkjmofhmbabGreatFRowM
import Derived.Test.YtpnigkjmofhmbabGreatEqualM
section
namespace Go.Proofs.YtpnigkjmofhmbabGreat.ROf
open Go.RowKit Go.Sort
open Go.Proofs.YtpnigkjmofhmbabGreat.SetMath
open Go.Proofs.YtpnigkjmofhmbabGreat.Base
open Go.Proofs.YtpnigkjmofhmbabGreat.Small
set_option linter.unusedVariables false
set_option linter.unusedSimpArgs false
/-- a row that there is -/
def RW (B : Nat) (w : World) (g c : Nat) (l : List El) : Prop := B ≤ g ∧ ∃ cur, w.heap[g]? = some (.cells cur 9 (0, 0)) ∧ cur.size = c ∧ l.length ≤ c ∧ cur.toList.take l.length = l.map V
theorem NR.row {B : Nat} {w : World} {v : Value} {l : List El} (h : NR B w v l) (hl : 0 < l.length) : ∃ g c, v = .slice (some ⟨g, 0, none⟩) l.length c ∧ RW B w g c l := by
  rcases h with ⟨rfl, rfl⟩ | ⟨g, c, cur, rfl, r⟩
  · simp at hl
  · exact ⟨g, c, rfl, r.1, cur, r.2⟩
theorem RW.nr {B : Nat} {w : World} {g c : Nat} {l : List El} (h : RW B w g c l) : NR B w (.slice (some ⟨g, 0, none⟩) l.length c) l := by
  obtain ⟨h1, cur, h2⟩ := h
  exact .inr ⟨g, c, cur, rfl, h1, h2⟩
theorem RW.cell {B : Nat} {w : World} {g c : Nat} {l : List El} (h : RW B w g c l) {j : Nat} {x : El} (hj : l[j]? = some x) : w.cell? ⟨g, j, none⟩ = some (.string (mk x)) := by
  obtain ⟨h1, cur, h2, h3, h4, h5⟩ := h
  rw [Lib.cell_of_heap h2]
  exact row_at h5 hj
theorem RW.frozen {B : Nat} {w : World} {g c : Nat} {l : List El} (h : RW B w g c l) (j : Nat) : w.frozen? ⟨g, j, none⟩ = false := by
  obtain ⟨h1, cur, h2, _⟩ := h
  exact Lib.frozen_of_heap h2 j
theorem RW.drewN {B : Nat} {w : World} {g c : Nat} {l : List El} (h : RW B w g c l) (n : Nat) : RW B (w.drewN n) g c l := h
theorem RW.len {B : Nat} {w : World} {g c : Nat} {l : List El} (h : RW B w g c l) : l.length ≤ c := by
  obtain ⟨h1, cur, h2, h3, h4, h5⟩ := h
  exact h4
theorem RW.set {B : Nat} {w : World} {g c : Nat} {l : List El} (h : RW B w g c l) (j : Nat) (y : El) : RW B (w.setCell ⟨g, j, none⟩ (.string (mk y))) g c (l.set j y) := by
  obtain ⟨h1, cur, h2, h3, h4, h5⟩ := h
  refine ⟨h1, _, set_at h2 _, by simpa using h3, by simpa using h4, ?_⟩
  rw [Array.toList_setIfInBounds, List.length_set, List.map_set, ← h5, List.take_set]
theorem RW.set_below {B : Nat} {w : World} {g c : Nat} {l : List El} (h : RW B w g c l) (j : Nat) (v : Value) : Below B w (w.setCell ⟨g, j, none⟩ v) := (Below.refl B w).setCell h.1 v
theorem ins_pos (x : Bs) : ∀ {out : List Bs}, Ris out → ∃ P, P ≤ out.length ∧ (∀ j (h : j < out.length), j < P → ¬ x < out[j]) ∧ ∀ j (h : j < out.length), P ≤ j → x < out[j]
  | [], _ => ⟨0, by simp, fun j h => by simp at h, fun j h => by simp at h⟩
  | a :: r, hr => by
    by_cases q : x < a
    · refine ⟨0, by simp, fun j _ h => by omega, fun j h _ => ?_⟩
      cases j with
      | zero => exact q
      | succ j => exact List.lt_trans q (hr.head _ (List.getElem_mem (by simpa using h)))
    · obtain ⟨P, h1, h2, h3⟩ := ins_pos x hr.tail
      refine ⟨P + 1, by simp; omega, fun j h hj => ?_, fun j h hj => ?_⟩
      · cases j with
        | zero => exact q
        | succ j => exact h2 j (by simpa using h) (by omega)
      · cases j with
        | zero => omega
        | succ j => exact h3 j (by simpa using h) (by omega)
theorem ins_S {t out : List Bs} {x : Bs} {P : Nat} (ho : S t = out) (hP : P ≤ out.length) (h2 : ∀ j (h : j < out.length), j < P → ¬ x < out[j]) (h3 : ∀ j (h : j < out.length), P ≤ j → x < out[j]) (hn : ∀ (h : P - 1 < out.length), 0 < P → out[P - 1] ≠ x) : S (t ++ [x]) = out.take P ++ x :: out.drop P := by
  have hr : Ris out := ho ▸ ris_S t
  refine S_is ?_ fun z => ?_
  · refine List.pairwise_append.2 ⟨hr.sub (List.take_sublist _ _), List.pairwise_cons.2 ⟨fun z hz => ?_, hr.sub (List.drop_sublist _ _)⟩, fun u hu v hv => ?_⟩
    · obtain ⟨j, hj, rfl⟩ := List.getElem_of_mem hz
      rw [List.length_drop] at hj
      rw [List.getElem_drop]
      exact h3 _ (by omega) (by omega)
    · obtain ⟨j, hj, rfl⟩ := List.getElem_of_mem hu
      rw [List.length_take] at hj
      rw [List.getElem_take]
      have hjx : out[j] < x := by
        have q1 : ¬ x < out[j] := h2 j (by omega) (by omega)
        have q2 : out[j] ≠ x := by
          rcases Nat.lt_or_ge j (P - 1) with q | q
          · have q3 : ¬ x < out[P - 1] := h2 (P - 1) (by omega) (by omega)
            have q4 := ris_at hr q (by omega)
            intro e
            rw [e] at q4
            exact q3 q4
          · have := hn (by omega) (by omega)
            have e : j = P - 1 := by omega
            subst e
            exact this
        rcases lt_tot out[j] x with q | q | q
        · exact q
        · exact absurd q q2
        · exact absurd q q1
      rcases List.mem_cons.1 hv with rfl | hv
      · exact hjx
      · obtain ⟨i, hi, rfl⟩ := List.getElem_of_mem hv
        rw [List.length_drop] at hi
        rw [List.getElem_drop]
        exact List.lt_trans hjx (h3 _ (by omega) (by omega))
  · rw [List.mem_append, List.mem_cons, List.mem_append, List.mem_singleton, ← mem_S (l := t), ho]
    constructor
    · rintro (h | h | h)
      · exact .inl (List.mem_of_mem_take h)
      · exact .inr h
      · exact .inl (List.mem_of_mem_drop h)
    · rintro (h | h)
      · rw [← List.take_append_drop P out, List.mem_append] at h
        rcases h with h | h
        · exact .inl h
        · exact .inr (.inr h)
      · exact .inr (.inl h)
theorem has_S {t out : List Bs} {x : Bs} (ho : S t = out) (h : x ∈ out) : S (t ++ [x]) = out := by
  rw [← ho]
  refine S_ext fun z => ?_
  rw [List.mem_append, List.mem_singleton]
  constructor
  · rintro (q | rfl)
    · exact q
    · rw [← mem_S, ho]; exact h
  · exact .inl
theorem shift_set {out : List Bs} {q : Bs} {k : Nat} (h : k < out.length) : (out.take (k + 1) ++ q :: out.drop (k + 1)).set (k + 1) out[k] = out.take k ++ out[k] :: out.drop k := by
  have hl : (out.take (k + 1)).length = k + 1 := by rw [List.length_take]; omega
  rw [List.set_append_right _ _ (by omega), hl, Nat.sub_self, List.set_cons_zero, List.take_succ_eq_append_getElem h, List.append_assoc, List.drop_eq_getElem_cons h]
  rfl
theorem last_set {out : List Bs} {q x : Bs} {k : Nat} (h : k ≤ out.length) : (out.take k ++ q :: out.drop k).set k x = out.take k ++ x :: out.drop k := by
  have hl : (out.take k).length = k := by rw [List.length_take]; omega
  rw [List.set_append_right _ _ (by omega), hl, Nat.sub_self, List.set_cons_zero]
theorem at_low {out : List Bs} {q : Bs} {k : Nat} (h : k < out.length) : (out.take (k + 1) ++ q :: out.drop (k + 1))[k]? = some out[k] := by
  have hl : (out.take (k + 1)).length = k + 1 := by rw [List.length_take]; omega
  rw [List.getElem?_append_left (by omega), List.getElem?_take, if_pos (by omega), List.getElem?_eq_getElem h]
theorem mid_len {out : List Bs} {q : Bs} {k : Nat} (h : k ≤ out.length) : (out.take k ++ q :: out.drop k).length = out.length + 1 := by
  simp; omega
set_option maxHeartbeats 8000000 in
set_option maxRecDepth 100000 in
theorem rof_call {G : Nat → Prop} {w : World} {v : Value} {l : List El} (h : SL G w v l) (hb : l.length * 16 ≤ 140737488355328) :
    Calls Tryz.prog 108 #[v] w fun e w' => ∃ r, e = .returned r ∧ NR w.heap.size w' r (S l) ∧ Below w.heap.size w w' := by
  obtain ⟨a, c, rfl, hc, hr⟩ := h
  have H1 : Hid (∀ W, Below w.heap.size w W → ∀ j x, l[j]? = some x → ∃ g o, a = some ⟨g, o, none⟩ ∧ W.cell? ⟨g, o + j, none⟩ = some (.string (mk x))) := hid_of fun W hW j x hj => by
    obtain ⟨g, o, e, hg, q⟩ := Rd.get hr.lt (by have := (List.getElem?_eq_some_iff.1 hj).1; omega)
    exact ⟨g, o, e, (World.cell?_of_block (w := w) (hW.block g hg.2)).trans (q j x hj)⟩
  obtain ⟨L, HL⟩ : ∃ L, Hid (L = l.length) := ⟨_, hid_of rfl⟩
  rw [← HL.out] at hb ⊢
  clear hr hc
  go_enter Tryz.func108, Tryz.ntmps108
  go_wp2_with fail
  go_loopg [3, 4] L (fun g s3 s4 wx => ∃ (i : Nat) (ra : Option Addr) (rn rc : Nat), i ≤ L ∧ L ≤ i + g ∧ rn ≤ i ∧ s3 = .slice ra rn rc ∧ s4 = .int .i64 (i : Int) ∧ Hid (rn = (S (l.take i)).length ∧ NR w.heap.size wx (.slice ra rn rc) (S (l.take i)) ∧ Below w.heap.size w wx))
  case atStart => exact ⟨0, none, 0, 0, by omega, by omega, by omega, rfl, rfl, by simp [S_nil], .inl ⟨rfl, by simp [S_nil]⟩, Below.refl _ _⟩
  case round =>
    obtain ⟨i, ra, rn, rc, hi, hg, hrn, rfl, rfl, R⟩ := hrel
    by_cases hlt : i < L
    · obtain ⟨gO, rfl⟩ : ∃ g', gk = g' + 1 := ⟨gk - 1, by omega⟩
      obtain ⟨W1, rfl⟩ : ∃ W1, W1 = wr := ⟨_, rfl⟩
      have hil : i < l.length := by rw [← HL.out]; exact hlt
      obtain ⟨x, hx⟩ : ∃ x, l[i]? = some x := ⟨_, List.getElem?_eq_getElem hil⟩
      have ht : l.take (i + 1) = l.take i ++ [x] := by
        rw [List.take_succ_eq_append_getElem hil]
        rw [List.getElem?_eq_getElem hil] at hx
        cases hx
        rfl
      obtain ⟨out, ho⟩ : ∃ out, S (l.take i) = out := ⟨_, rfl⟩
      rw [ho] at R
      obtain ⟨hn0, nr0, bl0⟩ := R.out
      obtain ⟨gl, ol, rfl, cx⟩ := H1.out _ bl0 i x hx
      have HX := hid_of hx
      have HT := hid_of ht
      have HO := hid_of ho
      have hris : Ris out := ho ▸ ris_S _
      obtain ⟨P, hP, hP1, hP2⟩ := ins_pos x hris
      rw [← hn0] at hP
      have HP1 := hid_of hP1
      have HP2 := hid_of hP2
      have HN := hid_of hn0
      have NR0 := hid_of nr0
      have BL0 := hid_of bl0
      clear R hn0 nr0 bl0 hx ht ho hP1 hP2 hris hil
      have w2 : IntKind.i64.wrap ((i : Int) + 1) = (i : Int) + 1 := IntWalk.i64_in _ (by omega)
      go_wp2_with fail
      go_loopg [5] rn (fun g s5 wx => ∃ k : Nat, P ≤ k ∧ k ≤ rn ∧ k ≤ g + P ∧ s5 = .int .i64 (k : Int) ∧ Hid (∃ m, wx = W1.drewN m))
      case atStart => exact ⟨rn, hP, by omega, by omega, rfl, 0, rfl⟩
      case round =>
        obtain ⟨k, hk1, hk2, hk3, rfl, R⟩ := hrel
        by_cases hPk : P < k
        · obtain ⟨g', rfl⟩ : ∃ g', gk = g' + 1 := ⟨gk - 1, by omega⟩
          obtain ⟨j, rfl⟩ : ∃ j, k = j + 1 := ⟨k - 1, by omega⟩
          have hjo : j < out.length := by rw [← HN.out]; omega
          obtain ⟨gr, cr, e0, rw0⟩ := NR.row NR0.out (by omega)
          rw [← HN.out] at e0
          cases e0
          have c1 : wr.cell? ⟨gr, j, none⟩ = some (.string (mk out[j])) := by obtain ⟨m, rfl⟩ := R.out; exact rw0.cell (List.getElem?_eq_getElem hjo)
          have c2 : wr.cell? ⟨gl, ol + i, none⟩ = some (.string (mk x)) := by obtain ⟨m, rfl⟩ := R.out; exact cx
          have hq : x < out[j] := HP2.out j hjo (by omega)
          have h1 := str_lt out[j] x
          have h2 := str_eq out[j] x
          rw [decide_eq_false (lt_not hq)] at h1
          rw [decide_eq_false (lt_ne hq).symm] at h2
          generalize out[j] = y at *
          generalize mk x = X at *
          generalize mk y = Y at *
          have w3 : IntKind.i64.wrap ((j : Int) + 1 - 1) = (j : Int) := by rw [show (j : Int) + 1 - 1 = (j : Int) by omega]; exact IntWalk.i64_in _ (by omega)
          have d1 : (0 : Int) < (j : Int) + 1 := by omega
          have d2 : j < rn := by omega
          clear hq rw0
          go_wp2_with fail
          go_quiet (fail)
          go_wp2_with fail
          go_roundg g'
          case measure => omega
          case rel => exact ⟨j, by omega, by omega, by omega, by simp, by obtain ⟨m, e⟩ := R.out; exact ⟨m + nq, by rw [e, World.drewN_drewN]⟩⟩
        · obtain rfl : k = P := by omega
          clear hPk hk1 hk2 hk3
          by_cases hP0 : k = 0
          · subst hP0
            have HNI : Hid (∀ (h : 0 - 1 < out.length), 0 < 0 → out[0 - 1] ≠ x) := hid_of fun _ h => by omega
            have CZ : Hid True := trivial
            go_wp2_with fail
            go_quiet (fail)
            obtain ⟨nq1, rfl⟩ : ∃ n, n = nq := ⟨_, rfl⟩
            go_wp2_with fail
            go_quiet (fail)
            have NB : NR w.heap.size (wr.drewN (nq1 + nq)) (.slice ra rn rc) out ∧ Below w.heap.size w (wr.drewN (nq1 + nq)) := by
              obtain ⟨m, e⟩ := R.out
              rw [e]
              exact ⟨(NR0.out.drewN m).drewN _, ⟨BL0.out.os, BL0.out.tape, BL0.out.output, BL0.out.size, BL0.out.block⟩⟩
            obtain ⟨v3, W3, hrun, n3, b3⟩ := app_one [] NB.1 (by rw [← HN.out]; omega) NB.2.size 34
            obtain ⟨g3, c3, rfl, rw3⟩ := NR.row n3 (by simp)
            have e3 : (out ++ [[]]).length = rn + 1 := by rw [List.length_append, ← HN.out]; rfl
            rw [e3] at hrun
            have B3 := hid_of (NB.2.trans b3)
            have K3 : Hid (RW w.heap.size W3 g3 c3 (out.take rn ++ [] :: out.drop rn)) := hid_of (by
              rw [List.take_of_length_le (by rw [← HN.out]; exact Nat.le_refl _), List.drop_eq_nil_of_le (by rw [← HN.out]; exact Nat.le_refl _)]
              exact rw3)
            have w4 : IntKind.i64.wrap ((rn : Int) + 1 - 1) = (rn : Int) := by rw [show (rn : Int) + 1 - 1 = (rn : Int) by omega]; exact IntWalk.i64_in _ (by omega)
            have hV : mk [] = (⟨#[]⟩ : ByteArray) := rfl
            simp only [V, hV] at hrun
            have hPn : 0 ≤ rn := hP
            clear NB n3 b3 rw3 e3 R NR0 BL0 hV hP
            go_wp2_with (at_builtin; refine wpl_eq rfl _ _ 34 34 rfl (.slice ra rn rc) (.slice (some ⟨wr.heap.size, 0, none⟩) 1 1) (.slice (some ⟨g3, 0, none⟩) (rn + 1) c3) _ W3 rfl rfl hrun ?_; clear hrun)
            go_loopg [6] rn (fun g s6 wx => ∃ (k : Nat) (q : El), 0 ≤ k ∧ k ≤ rn ∧ k ≤ g + 0 ∧ s6 = .int .i64 (k : Int) ∧ Hid (RW w.heap.size wx g3 c3 (out.take k ++ q :: out.drop k) ∧ Below w.heap.size w wx))
            case atStart => exact ⟨rn, [], hPn, by omega, by omega, rfl, K3.out, B3.out⟩
            case round =>
              clear K3 B3
              obtain ⟨k, q, hk1, hk2, hk3, rfl, R⟩ := hrel
              by_cases hPk : 0 < k
              · obtain ⟨g', rfl⟩ : ∃ g', gk = g' + 1 := ⟨gk - 1, by omega⟩
                obtain ⟨t, rfl⟩ : ∃ t, k = t + 1 := ⟨k - 1, by omega⟩
                have hto : t < out.length := by rw [← HN.out]; omega
                obtain ⟨r1, r2⟩ := R.out
                have u1 : wr.cell? ⟨g3, t, none⟩ = some (.string (mk out[t])) := r1.cell (at_low hto)
                have u2 : wr.frozen? ⟨g3, t + 1, none⟩ = false := r1.frozen (t + 1)
                obtain ⟨u4, hu4⟩ : ∃ u4, wr.cell? ⟨g3, t + 1, none⟩ = some u4 := ⟨_, r1.cell (List.getElem?_eq_getElem (by rw [mid_len (by omega)]; omega))⟩
                have K := hid_of (show RW w.heap.size (wr.setCell ⟨g3, t + 1, none⟩ (.string (mk out[t]))) g3 c3 (out.take t ++ out[t] :: out.drop t) ∧ Below w.heap.size w (wr.setCell ⟨g3, t + 1, none⟩ (.string (mk out[t]))) from ⟨by
                  have := r1.set (t + 1) out[t]
                  rwa [shift_set hto] at this, r2.trans (r1.set_below _ _)⟩)
                have w5 : IntKind.i64.wrap ((t : Int) + 1 - 1) = (t : Int) := by rw [show (t : Int) + 1 - 1 = (t : Int) by omega]; exact IntWalk.i64_in _ (by omega)
                have d5 : ((0 : Nat) : Int) < (t : Int) + 1 := by omega
                have d6 : t < rn + 1 := by omega
                have d7 : t + 1 < rn + 1 := by omega
                clear r1 r2 R
                generalize hyy : out[t] = yy at *
                generalize mk yy = YY at *
                go_wp2_with fail
                go_roundg g'
                case measure => omega
                case rel => exact ⟨t, yy, by omega, by omega, by omega, by simp, K⟩
              · obtain rfl : k = 0 := by omega
                obtain ⟨r1, r2⟩ := R.out
                obtain ⟨gl2, ol2, e2, c2⟩ := H1.out _ r2 i x HX.out
                cases e2
                have u2 : wr.frozen? ⟨g3, 0, none⟩ = false := r1.frozen 0
                obtain ⟨u4, hu4⟩ : ∃ u4, wr.cell? ⟨g3, 0, none⟩ = some u4 := ⟨_, r1.cell (List.getElem?_eq_getElem (by rw [mid_len (by rw [← HN.out]; omega)]; omega))⟩
                have K := hid_of (show rn + 1 = (S (l.take (i + 1))).length ∧ NR w.heap.size (wr.setCell ⟨g3, 0, none⟩ (.string (mk x))) (.slice (some ⟨g3, 0, none⟩) (rn + 1) c3) (S (l.take (i + 1))) ∧ Below w.heap.size w (wr.setCell ⟨g3, 0, none⟩ (.string (mk x))) from by
                  have e1 : S (l.take (i + 1)) = out.take (0) ++ x :: out.drop (0) := by
                    rw [HT.out]
                    exact ins_S HO.out (by rw [← HN.out]; omega) HP1.out HP2.out HNI.out
                  have e2 : (out.take (0) ++ x :: out.drop (0)).length = rn + 1 := by rw [mid_len (by rw [← HN.out]; omega), HN.out]
                  have q1 := r1.set (0) x
                  rw [last_set (by rw [← HN.out]; omega)] at q1
                  have q2 := q1.nr
                  rw [e2] at q2
                  rw [e1]
                  exact ⟨e2.symm, q2, r2.trans (r1.set_below _ _)⟩)
                have d5 : ¬ ((0 : Nat) : Int) < ((0 : Nat) : Int) := by omega
                have d6 : 0 < rn + 1 := by omega
                clear r1 r2 R hPk hk1 hk2 hk3
                generalize mk x = XX at *
                go_wp2_with fail
                go_roundg gO
                case measure => omega
                case rel => exact ⟨i + 1, some ⟨g3, 0, none⟩, rn + 1, c3, by omega, by omega, by omega, rfl, by simp, K⟩
          · obtain ⟨j, rfl⟩ : ∃ j, k = j + 1 := ⟨k - 1, by omega⟩
            have hjo : j < out.length := by rw [← HN.out]; omega
            obtain ⟨gr, cr, e0, rw0⟩ := NR.row NR0.out (by omega)
            rw [← HN.out] at e0
            cases e0
            have c1 : wr.cell? ⟨gr, j, none⟩ = some (.string (mk out[j])) := by obtain ⟨m, rfl⟩ := R.out; exact rw0.cell (List.getElem?_eq_getElem hjo)
            have c2 : wr.cell? ⟨gl, ol + i, none⟩ = some (.string (mk x)) := by obtain ⟨m, rfl⟩ := R.out; exact cx
            have hq : ¬ x < out[j] := HP1.out j hjo (by omega)
            have w3 : IntKind.i64.wrap ((j : Int) + 1 - 1) = (j : Int) := by rw [show (j : Int) + 1 - 1 = (j : Int) by omega]; exact IntWalk.i64_in _ (by omega)
            have d1 : (0 : Int) < (j : Int) + 1 := by omega
            have d2 : j < rn := by omega
            have h1 := str_lt out[j] x
            have h2 := str_eq out[j] x
            have HNI0 : Hid (out[j] ≠ x → ∀ (h : j + 1 - 1 < out.length), 0 < j + 1 → out[j + 1 - 1] ≠ x) := hid_of fun q _ _ => q
            have HIN : Hid (out[j] = x → x ∈ out) := hid_of fun q => by rw [← q]; exact List.getElem_mem hjo
            generalize out[j] = y at *
            clear rw0 hP0
            by_cases hyx : y = x
            · have HS : Hid (S (l.take (i + 1)) = out) := hid_of (by rw [HT.out]; exact has_S HO.out (HIN.out hyx))
              subst hyx
              rw [decide_eq_false (List.lt_irrefl y)] at h1
              rw [decide_eq_true rfl] at h2
              clear hq HIN HNI0
              generalize mk y = Y at *
              go_wp2_with fail
              go_quiet (fail)
              obtain ⟨nq1, rfl⟩ : ∃ n, n = nq := ⟨_, rfl⟩
              go_wp2_with fail
              go_quiet (fail)
              go_wp2_with fail
              go_roundg gO
              case measure => omega
              case rel => exact ⟨i + 1, some ⟨gr, 0, none⟩, rn, rc, by omega, by omega, by omega, rfl, by simp, by
                obtain ⟨m, e⟩ := R.out
                rw [HS.out, e]
                exact hid_of ⟨HN.out, (NR0.out.drewN m).drewN _, ⟨BL0.out.os, BL0.out.tape, BL0.out.output, BL0.out.size, BL0.out.block⟩⟩⟩
            · have hyl : y < x := by
                rcases lt_tot y x with q | q | q
                · exact q
                · exact absurd q hyx
                · exact absurd q hq
              rw [decide_eq_true hyl] at h1
              rw [decide_eq_false hyx] at h2
              have HNI := hid_of (HNI0.out hyx)
              clear hq HIN HNI0 hyx hyl
              obtain ⟨X, HXX⟩ : ∃ X, Hid (mk x = X) := ⟨_, hid_of rfl⟩
              rw [HXX.out] at h1 h2 c2
              generalize mk y = Y at *
              go_wp2_with fail
              go_quiet (fail)
              obtain ⟨nq1, rfl⟩ : ∃ n, n = nq := ⟨_, rfl⟩
              go_wp2_with fail
              go_quiet (fail)
              rw [← HXX.out] at c2
              have NB : NR w.heap.size (wr.drewN (nq1 + nq)) (.slice (some ⟨gr, 0, none⟩) rn rc) out ∧ Below w.heap.size w (wr.drewN (nq1 + nq)) := by
                obtain ⟨m, e⟩ := R.out
                rw [e]
                exact ⟨(NR0.out.drewN m).drewN _, ⟨BL0.out.os, BL0.out.tape, BL0.out.output, BL0.out.size, BL0.out.block⟩⟩
              obtain ⟨v3, W3, hrun, n3, b3⟩ := app_one [] NB.1 (by rw [← HN.out]; omega) NB.2.size 34
              obtain ⟨g3, c3, rfl, rw3⟩ := NR.row n3 (by simp)
              have e3 : (out ++ [[]]).length = rn + 1 := by rw [List.length_append, ← HN.out]; rfl
              rw [e3] at hrun
              have B3 := hid_of (NB.2.trans b3)
              have K3 : Hid (RW w.heap.size W3 g3 c3 (out.take rn ++ [] :: out.drop rn)) := hid_of (by
                rw [List.take_of_length_le (by rw [← HN.out]; exact Nat.le_refl _), List.drop_eq_nil_of_le (by rw [← HN.out]; exact Nat.le_refl _)]
                exact rw3)
              have w4 : IntKind.i64.wrap ((rn : Int) + 1 - 1) = (rn : Int) := by rw [show (rn : Int) + 1 - 1 = (rn : Int) by omega]; exact IntWalk.i64_in _ (by omega)
              have hV : mk [] = (⟨#[]⟩ : ByteArray) := rfl
              simp only [V, hV] at hrun
              have hPn : j + 1 ≤ rn := hP
              clear NB n3 b3 rw3 e3 R NR0 BL0 hV hP
              go_wp2_with (at_builtin; refine wpl_eq rfl _ _ 34 34 rfl (.slice (some ⟨gr, 0, none⟩) rn rc) (.slice (some ⟨wr.heap.size, 0, none⟩) 1 1) (.slice (some ⟨g3, 0, none⟩) (rn + 1) c3) _ W3 rfl rfl hrun ?_; clear hrun)
              go_loopg [6] rn (fun g s6 wx => ∃ (k : Nat) (q : El), j + 1 ≤ k ∧ k ≤ rn ∧ k ≤ g + j + 1 ∧ s6 = .int .i64 (k : Int) ∧ Hid (RW w.heap.size wx g3 c3 (out.take k ++ q :: out.drop k) ∧ Below w.heap.size w wx))
              case atStart => exact ⟨rn, [], hPn, by omega, by omega, rfl, K3.out, B3.out⟩
              case round =>
                clear K3 B3
                obtain ⟨k, q, hk1, hk2, hk3, rfl, R⟩ := hrel
                by_cases hPk : j + 1 < k
                · obtain ⟨g', rfl⟩ : ∃ g', gk = g' + 1 := ⟨gk - 1, by omega⟩
                  obtain ⟨t, rfl⟩ : ∃ t, k = t + 1 := ⟨k - 1, by omega⟩
                  have hto : t < out.length := by rw [← HN.out]; omega
                  obtain ⟨r1, r2⟩ := R.out
                  have u1 : wr.cell? ⟨g3, t, none⟩ = some (.string (mk out[t])) := r1.cell (at_low hto)
                  have u2 : wr.frozen? ⟨g3, t + 1, none⟩ = false := r1.frozen (t + 1)
                  obtain ⟨u4, hu4⟩ : ∃ u4, wr.cell? ⟨g3, t + 1, none⟩ = some u4 := ⟨_, r1.cell (List.getElem?_eq_getElem (by rw [mid_len (by omega)]; omega))⟩
                  have K := hid_of (show RW w.heap.size (wr.setCell ⟨g3, t + 1, none⟩ (.string (mk out[t]))) g3 c3 (out.take t ++ out[t] :: out.drop t) ∧ Below w.heap.size w (wr.setCell ⟨g3, t + 1, none⟩ (.string (mk out[t]))) from ⟨by
                    have := r1.set (t + 1) out[t]
                    rwa [shift_set hto] at this, r2.trans (r1.set_below _ _)⟩)
                  have w5 : IntKind.i64.wrap ((t : Int) + 1 - 1) = (t : Int) := by rw [show (t : Int) + 1 - 1 = (t : Int) by omega]; exact IntWalk.i64_in _ (by omega)
                  have d5 : ((j + 1 : Nat) : Int) < (t : Int) + 1 := by omega
                  have d6 : t < rn + 1 := by omega
                  have d7 : t + 1 < rn + 1 := by omega
                  clear r1 r2 R
                  generalize hyy : out[t] = yy at *
                  generalize mk yy = YY at *
                  go_wp2_with fail
                  go_roundg g'
                  case measure => omega
                  case rel => exact ⟨t, yy, by omega, by omega, by omega, by simp, K⟩
                · obtain rfl : k = j + 1 := by omega
                  obtain ⟨r1, r2⟩ := R.out
                  obtain ⟨gl2, ol2, e2, c2⟩ := H1.out _ r2 i x HX.out
                  cases e2
                  have u2 : wr.frozen? ⟨g3, j + 1, none⟩ = false := r1.frozen (j + 1)
                  obtain ⟨u4, hu4⟩ : ∃ u4, wr.cell? ⟨g3, j + 1, none⟩ = some u4 := ⟨_, r1.cell (List.getElem?_eq_getElem (by rw [mid_len (by rw [← HN.out]; omega)]; omega))⟩
                  have K := hid_of (show rn + 1 = (S (l.take (i + 1))).length ∧ NR w.heap.size (wr.setCell ⟨g3, j + 1, none⟩ (.string (mk x))) (.slice (some ⟨g3, 0, none⟩) (rn + 1) c3) (S (l.take (i + 1))) ∧ Below w.heap.size w (wr.setCell ⟨g3, j + 1, none⟩ (.string (mk x))) from by
                    have e1 : S (l.take (i + 1)) = out.take ((j + 1)) ++ x :: out.drop ((j + 1)) := by
                      rw [HT.out]
                      exact ins_S HO.out (by rw [← HN.out]; omega) HP1.out HP2.out HNI.out
                    have e2 : (out.take ((j + 1)) ++ x :: out.drop ((j + 1))).length = rn + 1 := by rw [mid_len (by rw [← HN.out]; omega), HN.out]
                    have q1 := r1.set ((j + 1)) x
                    rw [last_set (by rw [← HN.out]; omega)] at q1
                    have q2 := q1.nr
                    rw [e2] at q2
                    rw [e1]
                    exact ⟨e2.symm, q2, r2.trans (r1.set_below _ _)⟩)
                  have d5 : ¬ (((j + 1) : Nat) : Int) < (((j + 1) : Nat) : Int) := by omega
                  have d6 : (j + 1) < rn + 1 := by omega
                  clear r1 r2 R hPk hk1 hk2 hk3
                  generalize mk x = XX at *
                  go_wp2_with fail
                  go_roundg gO
                  case measure => omega
                  case rel => exact ⟨i + 1, some ⟨g3, 0, none⟩, rn + 1, c3, by omega, by omega, by omega, rfl, by simp, K⟩
    · have HE : Hid (S (l.take i) = S l) := hid_of (by rw [List.take_of_length_le (by have := HL.out; omega)])
      have R2 := hid_of R.out
      clear R
      go_wp2_with fail
      go_ret
      obtain ⟨r1, r2, r3⟩ := R2.out
      rw [HE.out] at r2
      exact ⟨_, rfl, r2, r3⟩
end Go.Proofs.YtpnigkjmofhmbabGreat.ROf
end
section
namespace Go.Proofs.YtpnigkjmofhmbabGreat.May
open Go.RowKit Go.Maps
open Go.Proofs.YtpnigkjmofhmbabGreat.SetMath
open Go.Proofs.YtpnigkjmofhmbabGreat.ValueMath
open Go.Proofs.YtpnigkjmofhmbabGreat.Base
open Go.Proofs.YtpnigkjmofhmbabGreat.Vals
open Go.Proofs.YtpnigkjmofhmbabGreat.ROf (RW)
set_option linter.unusedVariables false

set_option maxRecDepth 100000 in
theorem text_call (t : Bs) (w : World) (hl : t.length ≤ 140737488355328) : Calls Tryz.prog 174 #[.string (mk t)] w fun e w' => e = .returned (.bool (tOk t)) ∧ w' = w := by
  have hs := mk_size t
  unfold tOk
  rw [← hs] at hl ⊢
  generalize mk t = X at *
  clear hs
  by_cases h : X.size ≤ 1048576
  · go_enter Tryz.func174, Tryz.ntmps174
    go_wp2
    go_ret
    exact ⟨ret_b (by simp; omega), rfl⟩
  · go_enter Tryz.func174, Tryz.ntmps174
    go_wp2
    go_ret
    exact ⟨ret_b (by simp; omega), rfl⟩
theorem all_take {α : Type} {p : α → Bool} {l : List α} {k : Nat} (hk : k < l.length) (h : (l.take k).all p = true) (hp : p l[k] = true) : (l.take (k + 1)).all p = true := by
  rw [List.take_succ_eq_append_getElem hk, List.all_append, h]
  simp [hp]
theorem all_no {α : Type} {p : α → Bool} {l : List α} {k : Nat} (hk : k < l.length) (hp : p l[k] = false) : l.all p = false := by
  cases e : l.all p
  · rfl
  · rw [List.all_eq_true.1 e _ (List.getElem_mem hk)] at hp
    cases hp
def Sml (l : List Bs) : Prop := ∀ x ∈ l, x.length ≤ 140737488355328
set_option maxHeartbeats 1000000 in
set_option maxRecDepth 100000 in
theorem list_call {G : Nat → Prop} {w : World} {v : Value} {l : List El} (h : SL G w v l) (hb : l.length ≤ 140737488355328) (hs : Sml l) :
    Calls Tryz.prog 178 #[v] w fun e w' => e = .returned (.bool (lOk l)) ∧ w' = w := by
  obtain ⟨a, c, rfl, hc, hr⟩ := h
  have H1 := hid_of hr
  have HS := hid_of hs
  obtain ⟨L, HL⟩ : ∃ L, Hid (L = l.length) := ⟨_, hid_of rfl⟩
  rw [← HL.out] at hb ⊢
  clear hr hc hs
  go_enter Tryz.func178, Tryz.ntmps178
  go_wp2_with fail
  go_loopg [7] L (fun g s3 wx => ∃ j : Nat, j ≤ L ∧ L ≤ j + g ∧ s3 = .int .i64 (j : Int) ∧ Hid ((l.take j).all tOk = true) ∧ wx = w)
  case atStart => exact ⟨0, by omega, by omega, rfl, hid_of rfl, rfl⟩
  case round =>
    obtain ⟨j, hj, hg, rfl, HA, hwx⟩ := hrel
    subst hwx
    by_cases hlt : j < L
    · obtain ⟨g', rfl⟩ : ∃ g', gk = g' + 1 := ⟨gk - 1, by omega⟩
      have hjl : j < l.length := by rw [← HL.out]; exact hlt
      obtain ⟨g1, o1, rfl, _, q1⟩ := Rd.get H1.out (by omega)
      have c1 : wr.cell? ⟨g1, o1 + j, none⟩ = some (.string (mk l[j])) := q1 j _ (List.getElem?_eq_getElem hjl)
      have HN := hid_of (fun q => all_take (p := tOk) hjl HA.out q)
      have HF := hid_of (fun q => all_no (p := tOk) hjl q)
      have HC := hid_of (text_call l[j] wr (HS.out _ (List.getElem_mem hjl)))
      generalize l[j] = x at *
      have w1 : IntKind.i64.wrap ((j : Int) + 1) = (j : Int) + 1 := IntWalk.i64_in _ (by omega)
      have d1 : (j : Int) < (L : Int) := by omega
      clear q1
      generalize mk x = X at *
      generalize tOk x = b at *
      go_wp2_with fail
      refine HC.out.mono ?_
      rintro e w2 ⟨rfl, hw2⟩
      rw [hw2]
      clear hw2 HC
      cases b
      · have HZ := hid_of (HF.out rfl)
        clear HF HN
        go_wp2_with fail
        go_ret
        exact ⟨ret_b (by unfold lOk; rw [HZ.out]; rfl), rfl⟩
      · have HZ := hid_of (HN.out rfl)
        clear HF HN
        go_wp2_with fail
        go_roundg g'
        case measure => omega
        case rel => exact ⟨j + 1, by omega, by omega, by simp, HZ, rfl⟩
    · have d1 : ¬ (j : Int) < (L : Int) := by omega
      have HT : Hid (lOk l = decide (0 < L)) := hid_of (by
        have := HA.out
        rw [List.take_of_length_le (by have := HL.out; omega)] at this
        unfold lOk
        rw [this, HL.out, Bool.true_and])
      go_wp2_with fail
      go_ret
      exact ⟨ret_b (by rw [HT.out]), rfl⟩
set_option maxRecDepth 100000 in
theorem set_call {G : Nat → Prop} {w : World} {v : Value} {l : List El} (h : SL G w v l) (hb : l.length ≤ 140737488355328) (hs : Sml l) :
    Calls Tryz.prog 184 #[v] w fun e w' => e = .returned (.bool (setOk l)) ∧ Below w.heap.size w w' := by
  have HC := hid_of (list_call h hb hs)
  have HV := hid_of (Small.valid_call h hb)
  unfold setOk
  obtain ⟨a, c, rfl, _, _⟩ := h
  generalize lOk l = b at *
  generalize decide (Ris l) = d at *
  go_enter Tryz.func184, Tryz.ntmps184
  go_wp2_with fail
  refine HC.out.mono ?_
  rintro e w1 ⟨rfl, hw1⟩
  rw [hw1]
  clear hw1
  cases b
  · go_wp2_with fail
    go_ret
    exact ⟨rfl, Below.refl _ _⟩
  · go_wp2_with fail
    refine HV.out.mono ?_
    rintro e w2 ⟨rfl, m, hm⟩
    rw [hm]
    clear hm
    go_wp2_with fail
    go_ret
    exact ⟨rfl, bel_drewN _ _⟩
/- the names of the first k, then nothing -/
def pnm {α : Type} (f : α → Bs) (l : List α) (k : Nat) : List Bs := (l.take k).map f ++ List.replicate (l.length - k) []
theorem pnm_len {α : Type} (f : α → Bs) (l : List α) (k : Nat) (h : k ≤ l.length) : (pnm f l k).length = l.length := by simp [pnm]; omega
theorem pnm_set {α : Type} (f : α → Bs) (l : List α) (k : Nat) (h : k < l.length) : (pnm f l k).set k (f l[k]) = pnm f l (k + 1) := by
  unfold pnm
  rw [List.set_append_right _ _ (by simp; omega)]
  have e : k - ((l.take k).map f).length = 0 := by simp; omega
  rw [e, show l.length - k = (l.length - (k + 1)) + 1 by omega, List.replicate_succ, List.set_cons_zero, List.take_succ_eq_append_getElem h, List.map_append, List.append_assoc]
  rfl
theorem pnm_zero {α : Type} (f : α → Bs) (l : List α) : pnm f l 0 = List.replicate l.length [] := by simp [pnm]
theorem pnm_all {α : Type} (f : α → Bs) (l : List α) : pnm f l l.length = l.map f := by simp [pnm]
theorem made_rw {w w0 : World} {n : Nat} (h : w0.ownsRow w.heap.size 9 1 (.slice (some ⟨w.heap.size, 0, none⟩) n n) n (madeCells #[.string ⟨#[]⟩] n).toList) : RW w.heap.size w0 w.heap.size n (List.replicate n []) := by
  rw [toList_madeCells_one] at h
  rcases h.2 with ⟨e, _⟩ | ⟨g, c, cur, e, hb, hr, h1, h2, h3, h4⟩
  · cases e
  · injection e with e1 e2 e3
    injection e1 with e1
    injection e1 with e1
    subst e1
    subst e3
    refine ⟨Nat.le_refl _, cur, hr, by simpa using h3, by simp, ?_⟩
    rw [List.length_replicate]
    rw [Nat.mul_one] at h4
    rw [h4]
    simp [V, mk]
theorem info9' : (Tryz.prog.info? 9).map (fun i => (i.zero, i.size, i.bytes)) = some (some (.string ⟨#[]⟩), 1, 16) := by kernel_rfl
theorem rw_below {B : Nat} {w w' : World} {g c : Nat} {l : List El} (h : RW B w g c l) (hb : Below w.heap.size w w') : RW B w' g c l := by
  obtain ⟨h1, cur, h2, h3⟩ := h
  exact ⟨h1, cur, (hb.block g (lt_of h2)).trans h2, h3⟩
structure Fok (l : FL) : Prop where
  n : ∀ p ∈ l, p.1.length ≤ 140737488355328
  v : ∀ p ∈ l, p.2.length ≤ 140737488355328
set_option maxHeartbeats 4000000 in
set_option maxRecDepth 100000 in
theorem hash_call {w : World} {v : Value} {l : FL} (h : FRow.FS w v l) (hb : l.length ≤ FRow.big) (hs : Fok l) :
    Calls Tryz.prog 181 #[v] w fun e w' => e = .returned (.bool (hashOk l)) ∧ Below w.heap.size w w' := by
  obtain ⟨i0, hi, hz0, hz1, hz2⟩ := info_parts info9'
  have HF := hid_of h
  have HS := hid_of hs
  obtain ⟨a, c, rfl, hc, hr⟩ := h
  obtain ⟨L, HL⟩ : ∃ L, Hid (L = List.length l) := ⟨_, hid_of rfl⟩
  unfold FRow.big at hb
  rw [← HL.out] at hb hc HF ⊢
  clear hr hs hc
  go_enter Tryz.func181, Tryz.ntmps181
  go_wp2_with (at_make; refine wpList_make_full _ rfl _ _ 34 rfl w.heap.size 9 i0 (.string ⟨#[]⟩) 1 Tryz.underlying34 hi hz0 hz1 _ _ _ _ L rfl rfl rfl rfl ?b2 ?b3 (Nat.le_refl _) ?_)
  case b2 => rw [hz2]; omega
  case b3 => unfold maxLen; omega
  intro w0 hown0 hgrow0
  have R0 : Hid (RW w.heap.size w0 w.heap.size L (pnm (·.1) l 0) ∧ Below w.heap.size w w0) := hid_of ⟨by rw [pnm_zero, ← HL.out]; exact made_rw hown0, (Below.refl _ _).grown hgrow0 (Nat.le_refl _) (fun k h => by cases h)⟩
  clear hown0 hgrow0
  go_wp2_with fail
  go_loopg [11] L (fun g s3 wx => ∃ j : Nat, j ≤ L ∧ L ≤ j + g ∧ s3 = .int .i64 (j : Int) ∧ Hid ((l.take j).all (fun p => tOk p.2) = true) ∧ Hid (RW w.heap.size wx w.heap.size L (pnm (·.1) l j) ∧ Below w.heap.size w wx))
  case atStart => exact ⟨0, by omega, by omega, rfl, hid_of rfl, R0⟩
  case round =>
    obtain ⟨j, hj, hg, rfl, HA, R⟩ := hrel
    by_cases hlt : j < L
    · obtain ⟨g', rfl⟩ : ∃ g', gk = g' + 1 := ⟨gk - 1, by omega⟩
      have hjl : j < List.length l := by rw [← HL.out]; exact hlt
      obtain ⟨ga, oa, rfl, ha⟩ := FRow.FS.at (HF.out.below R.out.2) hjl
      obtain ⟨a0, a1⟩ := ha j hjl
      clear ha
      have HN := hid_of (fun q => all_take (p := fun p : Bs × Bs => tOk p.2) hjl HA.out q)
      have HX := hid_of (fun q => all_no (p := fun p : Bs × Bs => tOk p.2) hjl q)
      have HC := hid_of (fun W => text_call l[j].2 W (HS.out.v _ (List.getElem_mem hjl)))
      have rb := R.out.1.set j l[j].1
      rw [pnm_set (·.1) l j hjl] at rb
      have rs := rw_below rb (FRow.bnew _ (.cells #[.string (mk l[j].1), .string (mk l[j].2)] 118))
      have hw2 : Below w.heap.size w ((wr.setCell ⟨w.heap.size, j, none⟩ (.string (mk l[j].1))).alloc (.cells #[.string (mk l[j].1), .string (mk l[j].2)] 118)) := (bset R.out.2 (Nat.le_refl _) _).alloc (by rw [size_set]; exact R.out.2.size) _
      have hfz := R.out.1.frozen j
      obtain ⟨y, hy⟩ : ∃ y, (pnm (·.1) l j)[j]? = some y := ⟨_, List.getElem?_eq_getElem (by rw [pnm_len _ _ _ (by omega)]; exact hjl)⟩
      have hcl := R.out.1.cell hy
      have RS := hid_of (And.intro rs hw2)
      have hlt2 : w.heap.size < wr.heap.size := by
        obtain ⟨_, cur, h2, _⟩ := R.out.1
        exact lt_of h2
      clear rb rs hw2 hy
      generalize l[j] = x at *
      obtain ⟨x1, x2⟩ := x
      simp only at a0 a1 HN HX HC RS
      have w1 : IntKind.i64.wrap ((j : Int) + 1) = (j : Int) + 1 := IntWalk.i64_in _ (by omega)
      have d1 : (j : Int) < (L : Int) := by omega
      generalize mk x1 = X1 at *
      generalize mk x2 = X2 at *
      generalize mk y = Y at *
      generalize tOk x2 = b at *
      go_wp2_with fail
      refine (HC.out _).mono ?_
      rintro e w2 ⟨rfl, hw2⟩
      rw [hw2]
      clear hw2 HC
      cases b
      · have HZ := hid_of (HX.out rfl)
        clear HX HN
        go_wp2_with fail
        go_ret
        exact ⟨ret_b (by unfold hashOk; rw [HZ.out]; rfl), R.out.2.alloc R.out.2.size _⟩
      · have HZ := hid_of (HN.out rfl)
        clear HX HN
        go_wp2_with fail
        go_roundg g'
        case measure => omega
        case rel => exact ⟨j + 1, by omega, by omega, by simp, HZ, RS⟩
    · obtain rfl : j = L := by omega
      have d1 : ¬ (j : Int) < (j : Int) := by omega
      have rl : RW w.heap.size wr w.heap.size j (fnames l) := by
        have := R.out.1
        rw [HL.out, pnm_all, ← HL.out] at this
        exact this
      have hfl : (fnames l).length = j := by rw [HL.out]; exact List.length_map _
      have nl := rl.nr
      rw [hfl] at nl
      have HC := hid_of (set_call nl.sl (by rw [hfl]; omega) (fun x hx => by obtain ⟨p, hp, rfl⟩ := List.mem_map.1 hx; exact HS.out.n p hp))
      have HT : Hid (hashOk l = setOk (fnames l)) := hid_of (by
        have := HA.out
        rw [List.take_of_length_le (by have := HL.out; omega)] at this
        unfold hashOk
        rw [this]; rfl)
      clear rl nl hfl HA
      generalize setOk (fnames l) = b at *
      go_wp2_with fail
      refine HC.out.mono ?_
      rintro e w2 ⟨rfl, b2⟩
      have B2 := hid_of (FRow.bel R.out.2 b2 (Nat.le_refl _))
      clear b2
      go_wp2_with fail
      go_ret
      exact ⟨ret_b HT.out.symm, B2.out⟩
end Go.Proofs.YtpnigkjmofhmbabGreat.May
end
