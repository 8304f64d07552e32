/- The document's Remove and Insert. -/
import Derived.Test.YtdmjfmojacnbeaaRFind
import Derived.Test.YtdmjfmojacnbeaaRemM
import Derived.Test.YtdmjfmojacnbeaaInsert
namespace Go.Proofs.Ytdmjfmojacnbeaa.RefC
open Go.RowKit
open Go.Proofs.Ytdmjfmojacnbeaa.Base
open Go.Proofs.Ytdmjfmojacnbeaa.Held
open Go.Proofs.Ytdmjfmojacnbeaa.Lay
open Go.Proofs.Ytdmjfmojacnbeaa.Free
open Go.Proofs.Ytdmjfmojacnbeaa.Keep
open Go.Proofs.Ytdmjfmojacnbeaa.FindMath
open Go.Proofs.Ytdmjfmojacnbeaa.Find
open Go.Proofs.Ytdmjfmojacnbeaa.SortC
open Go.Proofs.Ytdmjfmojacnbeaa.DropC
open Go.Proofs.Ytdmjfmojacnbeaa.Remove
open Go.Proofs.Ytdmjfmojacnbeaa.Insert
open Go.Proofs.Ytdmjfmojacnbeaa.App
open Go.Proofs.Ytdmjfmojacnbeaa.Same
open Go.Proofs.Ytdmjfmojacnbeaa.Ref
open Go.Proofs.Ytdmjfmojacnbeaa.RFind
open Go.Proofs.Ytdmjfmojacnbeaa.RemM
set_option linter.unusedVariables false
set_option linter.unusedSimpArgs false
theorem dropS_len (l : List El) (i : Nat) (ps : List Nat) : (dropS l i ps).length ≤ l.length := by
  induction l generalizing i ps with
  | nil => cases ps <;> simp [dropS]
  | cons x r ih =>
    cases ps with
    | nil => rw [dropS, List.length_cons, List.length_cons]; have := ih (i + 1) []; omega
    | cons p ps =>
      rw [dropS]
      split
      · have := ih (i + 1) ps; rw [List.length_cons]; omega
      · have := ih (i + 1) (p :: ps); rw [List.length_cons, List.length_cons]; omega
theorem fn_lt {l : List El} {v : El} {c : Int} {i p : Nat} (h : p ∈ findN l v 1 false c i) : p < i := by
  have h1 := ((takeC_sub c _).trans (List.drop_sublist _ _)).subset h
  unfold hits at h1
  obtain ⟨k, hk, e⟩ := List.mem_map.1 (List.mem_filter.1 h1).1
  have := List.mem_range.1 hk
  rw [← e]; exact this
theorem take_len {l : List El} {i : Nat} (h : i < l.length) : (l.take i).length = i := by rw [List.length_take]; omega
theorem step_keep {l : List El} {v : El} {c : Int} {i : Nat} (h : i < l.length) (e : findN l v 1 false c (i + 1) = findN l v 1 false c i) : dropS (l.take (i + 1)) 0 (findN l v 1 false c (i + 1)) = dropS (l.take i) 0 (findN l v 1 false c i) ++ [l[i]] := by
  rw [e, List.take_succ_eq_append_getElem h]
  exact (drop_snoc (l.take i) _ _ (up_find _ _ _ _ _) fun p hp => by rw [take_len h]; exact fn_lt hp).1
theorem step_drop {l : List El} {v : El} {c : Int} {i : Nat} (h : i < l.length) (e : findN l v 1 false c (i + 1) = findN l v 1 false c i ++ [i]) : dropS (l.take (i + 1)) 0 (findN l v 1 false c (i + 1)) = dropS (l.take i) 0 (findN l v 1 false c i) := by
  rw [e, List.take_succ_eq_append_getElem h]
  have := (drop_snoc (l.take i) (findN l v 1 false c i) l[i] (up_find _ _ _ _ _) fun p hp => by rw [take_len h]; exact fn_lt hp).2
  rwa [take_len h] at this
set_option maxHeartbeats 4000000 in
set_option maxRecDepth 100000 in
theorem rrem_call {G : Nat → Prop} {w : World} {u : Value} {l : List El} (h : SL G w u l) (C : Int) (v : El) (hC : C ≤ 0) (hb : l.length * 8 ≤ 140737488355328) :
    Calls Try.prog 59 #[u, .int .i64 C, V v] w fun e w' => ∃ r, e = .returned (.tuple #[r, .int .i64 ((findN l v 1 false (-C) l.length).length : Int)]) ∧ NR w.heap.size w' r (dropS l 0 (findN l v 1 false (-C) l.length)) ∧ Below w.heap.size w w' := by
  obtain ⟨a, c, rfl, hc, hrd⟩ := h
  have HR := hid_of hrd
  obtain ⟨L, HL⟩ : ∃ L, Hid (L = l.length) := ⟨_, hid_of rfl⟩
  rw [← HL.out] at hb hc ⊢
  clear hrd hc
  go_enter Try.func59, Try.ntmps59
  go_wp2_with fail
  go_loopg [8, 9, 10] L (fun g s8 s9 s10 wx => ∃ (i n : Nat) (ra : Option Addr) (rn rc : Nat), i ≤ L ∧ L ≤ i + g ∧ n ≤ i ∧ s8 = .slice ra rn rc ∧ s9 = .int .i64 (n : Int) ∧ s10 = .int .i64 (i : Int) ∧ Hid (n = (findN l v 1 false (-C) i).length ∧ NR w.heap.size wx (.slice ra rn rc) (dropS (l.take i) 0 (findN l v 1 false (-C) i)) ∧ Below w.heap.size w wx))
  case atStart => exact ⟨0, 0, none, 0, 0, by omega, by omega, by omega, rfl, rfl, rfl, ⟨by rw [fn_zero]; rfl, .inl ⟨rfl, by rw [fn_zero]; rfl⟩, Below.refl _ _⟩⟩
  case round =>
    obtain ⟨i, n, ra, rn, rc, hi, hg, hni, rfl, rfl, rfl, R⟩ := hrel
    by_cases hlt : i < L
    · obtain ⟨g', rfl⟩ : ∃ g', gk = g' + 1 := ⟨gk - 1, by omega⟩
      have hil : i < l.length := by rw [← HL.out]; exact hlt
      obtain ⟨e1, nr, bl⟩ := R.out
      obtain ⟨g0, o0, rfl, _, hc0⟩ := Rd.get (HR.out.keep (w' := wr) fun j hj _ => bl.block j hj) (by omega)
      have cx := hc0 i _ (List.getElem?_eq_getElem hil)
      have hdl := dropS_len (l.take i) 0 (findN l v 1 false (-C) i)
      rw [take_len hil] at hdl
      have nW : IntKind.i64.wrap (-(n : Int)) = -(n : Int) := IntWalk.i64_in _ (by omega)
      by_cases hrm : l[i] = v ∧ (C = 0 ∨ C < -(n : Int))
      · obtain ⟨hv, hq⟩ := hrm
        have hh : l[way l.length false i]? = some v := by show l[i]? = _; rw [List.getElem?_eq_getElem hil, hv]
        have hfa := fn_add (r := 1) (c := -C) hh (by omega) (by rw [← e1]; omega)
        have HX := hid_of (show n + 1 = (findN l v 1 false (-C) (i + 1)).length ∧ NR w.heap.size wr (.slice ra rn rc) (dropS (l.take (i + 1)) 0 (findN l v 1 false (-C) (i + 1))) ∧ Below w.heap.size w wr by
          rw [step_drop hil hfa]
          exact ⟨by rw [hfa, List.length_append, ← e1]; rfl, nr, bl⟩)
        rw [hv] at cx
        clear R e1 nr bl hh hfa hv hdl hc0
        rcases hq with q1 | q1
        · have q2 : (C == 0) = true := by rw [beq_iff_eq]; exact q1
          clear q1
          go_wp2_with fail
          go_roundg g'
          case measure => omega
          case rel => exact ⟨i + 1, n + 1, ra, rn, rc, by omega, by omega, by omega, rfl, by simp, by simp, HX⟩
        · have q2 : (C == 0) = false := by rw [beq_eq_false_iff_ne]; omega
          have q3 : decide (C < -(n : Int)) = true := by simpa using q1
          go_wp2_with fail
          go_roundg g'
          case measure => omega
          case rel => exact ⟨i + 1, n + 1, ra, rn, rc, by omega, by omega, by omega, rfl, by simp, by simp, HX⟩
      · have hfs : findN l v 1 false (-C) (i + 1) = findN l v 1 false (-C) i := by
          by_cases hv : l[i] = v
          · have hq : ¬ (C = 0 ∨ C < -(n : Int)) := fun e => hrm ⟨hv, e⟩
            exact fn_full (by show l[i]? = _; rw [List.getElem?_eq_getElem hil, hv]) (by omega) (by rw [← e1]; omega)
          · exact fn_no (by show ¬ l[i]? = _; rw [List.getElem?_eq_getElem hil]; exact fun e => hv (Option.some.inj e))
        obtain ⟨v2, w2, hrun, n2, b2⟩ := app_one l[i] nr (by omega) bl.size 22
        obtain ⟨a2, m2, c2, rfl⟩ : ∃ a2 m2 c2, v2 = .slice a2 m2 c2 := by
          obtain ⟨a2, c2, e, _, _⟩ := NR.shape n2
          exact ⟨a2, _, c2, e⟩
        have HX := hid_of (show n = (findN l v 1 false (-C) (i + 1)).length ∧ NR w.heap.size w2 (.slice a2 m2 c2) (dropS (l.take (i + 1)) 0 (findN l v 1 false (-C) (i + 1))) ∧ Below w.heap.size w w2 by
          rw [step_keep hil hfs]
          exact ⟨by rw [hfs]; exact e1, n2, bl.trans b2⟩)
        by_cases hv : l[i] = v
        · have hq : ¬ (C = 0 ∨ C < -(n : Int)) := fun e => hrm ⟨hv, e⟩
          have q2 : (C == 0) = false := by rw [beq_eq_false_iff_ne]; omega
          have q3 : decide (C < -(n : Int)) = false := by simp; omega
          rw [hv] at cx hrun
          clear R e1 nr bl hfs n2 b2 hdl hc0 hv hrm hq
          go_wp2_with (at_builtin; refine wpl_eq rfl _ _ 22 22 rfl (.slice ra rn rc) (.slice (some ⟨wr.heap.size, 0, none⟩) 1 1) (.slice a2 m2 c2) _ w2 rfl rfl hrun ?_)
          go_roundg g'
          case measure => omega
          case rel => exact ⟨i + 1, n, a2, m2, c2, by omega, by omega, by omega, rfl, rfl, by simp, HX⟩
        · have hvv : (l[i] == v) = false := by rw [beq_eq_false_iff_ne]; exact hv
          generalize l[i] = x at *
          clear R e1 nr bl hfs n2 b2 hdl hc0 hv hrm
          go_wp2_with (at_builtin; refine wpl_eq rfl _ _ 22 22 rfl (.slice ra rn rc) (.slice (some ⟨wr.heap.size, 0, none⟩) 1 1) (.slice a2 m2 c2) _ w2 rfl rfl hrun ?_)
          go_roundg g'
          case measure => omega
          case rel => exact ⟨i + 1, n, a2, m2, c2, by omega, by omega, by omega, rfl, rfl, by simp, HX⟩
    · have hiL : i = L := by omega
      have HN := hid_of R.out
      rw [hiL, HL.out, List.take_of_length_le (Nat.le_refl _), ← HL.out] at HN
      clear R
      go_wp2_with fail
      go_ret2
      exact ⟨_, by rw [← HN.out.1]; rfl, HN.out.2.1, HN.out.2.2⟩
set_option maxHeartbeats 1000000 in
set_option maxRecDepth 100000 in
theorem rremove_call {G : Nat → Prop} {w : World} {u : Value} {l : List El} (h : SL G w u l) (count : Int) (v : El) (hc1 : -9223372036854775808 ≤ count) (hc2 : count ≤ 9223372036854775807) (hb : l.length * 8 ≤ 140737488355328) :
    Calls Try.prog 26 #[u, .int .i64 count, V v] w fun e w' => ∃ r, e = .returned (.tuple #[r, .int .i64 ((remP l count v).length : Int)]) ∧ NR w.heap.size w' r (dropS l 0 (remP l count v)) ∧ Below w.heap.size w w' := by
  by_cases h0 : count < 0
  · obtain ⟨r1, r2⟩ := rem_back l count v h0 hc1 (by omega)
    rw [show absC count = -count by unfold absC; rw [if_pos h0]] at r1 r2
    have HT := hid_of (turned_call h hb)
    have HRl := hid_of (And.intro r1 r2)
    have hbb := hid_of hb
    clear r1 r2 hb h
    go_enter Try.func26, Try.ntmps26
    go_wp2_with fail
    refine HT.out.mono ?_
    rintro e w1 ⟨v1, rfl, n1, k1⟩
    have HR1 := hid_of (rrem_call n1.sl count v (by omega) (by rw [List.length_reverse]; exact hbb.out))
    have K1 := hid_of k1
    clear n1 k1
    go_wp2_with fail
    refine HR1.out.mono ?_
    rintro e w2 ⟨v2, rfl, n2, k2⟩
    have HT2 := hid_of (turned_call n2.sl (by have := dropS_len l.reverse 0 (findN l.reverse v 1 false (-count) l.reverse.length); have := hbb.out; simp only [List.length_reverse] at *; omega))
    rw [← HRl.out.1] at HT2
    have K2 := hid_of (K1.out.trans (k2.mono K1.out.size))
    clear n2 k2
    go_wp2_with fail
    refine HT2.out.mono ?_
    rintro e w3 ⟨v3, rfl, n3, k3⟩
    have K3 := hid_of (And.intro n3 k3)
    clear n3 k3
    go_wp2_with fail
    go_ret2
    exact ⟨v3, by rw [HRl.out.2, List.length_reverse]; rfl, K3.out.1.mono K2.out.size, K2.out.trans (K3.out.2.mono K2.out.size)⟩
  · have e0 := rem_front l count v h0
    rw [show absC count = count by unfold absC; rw [if_neg h0]] at e0
    have HR1 := hid_of (rrem_call h (-count) v (by omega) hb)
    rw [Int.neg_neg, ← e0] at HR1
    have nW : IntKind.i64.wrap (-count) = -count := IntWalk.i64_in _ (by omega)
    clear e0 hb h
    go_enter Try.func26, Try.ntmps26
    go_wp2_with fail
    refine HR1.out.mono ?_
    rintro e w2 ⟨v2, rfl, n2, k2⟩
    have K2 := hid_of (And.intro n2 k2)
    clear n2 k2
    go_wp2_with fail
    go_ret2
    exact ⟨v2, rfl, K2.out⟩
theorem none_yet {l : List El} {p : El} {i : Nat} (h : hits l p false i = []) (hi : l.length ≤ i) : findN l p 1 false 1 l.length = [] := by
  obtain ⟨rest, hr⟩ := hits_pre l p false l.length i hi
  rw [h] at hr
  have : hits l p false l.length = [] := (List.append_eq_nil_iff.1 hr.symm).1
  unfold findN takeC
  rw [this]; rfl
theorem first_at {l : List El} {p : El} {i : Nat} (h : hits l p false i = []) (hi : i < l.length) (hp : l[i] = p) : findN l p 1 false 1 l.length = [i] := by
  obtain ⟨rest, hr⟩ := hits_pre l p false (i + 1) l.length (by omega)
  have := hit (l := l) (v := p) (back := false) (k := i) (by show l[i]? = _; rw [List.getElem?_eq_getElem hi, hp])
  rw [this, h] at hr
  unfold findN takeC
  rw [hr]; rfl
theorem ret_vi (v : Value) {a : Int} (b : Int) (h : a = b) : Ending.returned (.tuple #[v, .int .i64 a]) = .returned (.tuple #[v, .int .i64 b]) := by rw [h]
/-- what the document's Insert answers -/
def RIns (l : List El) (before : Bool) (p v : El) (u : Value) (w : World) (e : Ending) (w' : World) : Prop := (findN l p 1 false 1 l.length = [] ∧ e = .returned (.tuple #[u, .int .i64 (-1)]) ∧ w' = w) ∨ ∃ k r, k < l.length ∧ findN l p 1 false 1 l.length = [k] ∧ e = .returned (.tuple #[r, .int .i64 ((l.length + 1 : Nat) : Int)]) ∧ NR w.heap.size w' r (insS l (if before then k else k + 1) v) ∧ Below w.heap.size w w'
set_option maxHeartbeats 4000000 in
set_option maxRecDepth 100000 in
theorem rinsert_call {G : Nat → Prop} {w : World} {u : Value} {l : List El} (h : SL G w u l) (before : Bool) (p v : El) (hb : (l.length + 1) * 8 ≤ 140737488355328) :
    Calls Try.prog 29 #[u, .bool before, V p, V v] w (RIns l before p v u w) := by
  obtain ⟨a, c, rfl, hc, hrd⟩ := h
  have HR := hid_of hrd
  have HC := hid_of hc
  obtain ⟨L, HL⟩ : ∃ L, Hid (L = l.length) := ⟨_, hid_of rfl⟩
  have HJ1 := hid_of (fun (q : Nat) (hq : q ≤ l.length) => joined_call (SL.cut (w := w.drew.alloc (.cells #[V v] 3)) (hrd.keep fun j hj _ => ((Below.refl _ w).drew.alloc (Nat.le_refl _) (.cells #[V v] 3)).block j hj) HC.out q hq rfl).1 (sl_new w.drew [v]) (by rw [List.length_take]; simp; omega))
  have HJ2 := hid_of (fun (q : Nat) (hq : q ≤ l.length) (W : World) (r : Value) (b : Below w.heap.size w W) (n : NR w.heap.size W r (l.take q ++ [v])) => joined_call n.sl (SL.cut (n := l.length) (hrd.keep fun j hj _ => b.block j hj) HC.out q hq rfl).2 (by rw [List.length_append, List.length_take, List.length_drop]; simp; omega))
  rw [← HL.out] at hb hc HJ2 ⊢
  have b1 : L ≤ 35184372088832 := by omega
  clear hrd
  go_enter Try.func29, Try.ntmps29
  go_wp2_with fail
  go_loopg [10] L (fun g s10 wx => ∃ (i : Nat), i ≤ L ∧ L ≤ i + g ∧ s10 = .int .i64 (i : Int) ∧ Hid (hits l p false i = [] ∧ wx = w))
  case atStart => exact ⟨0, by omega, by omega, rfl, ⟨rfl, rfl⟩⟩
  case round =>
    obtain ⟨i, hi, hg, rfl, R⟩ := hrel
    obtain ⟨rh, rw0⟩ := R.out
    rw [rw0]
    by_cases hlt : i < L
    · obtain ⟨g', rfl⟩ : ∃ g', gk = g' + 1 := ⟨gk - 1, by omega⟩
      have hil : i < l.length := by rw [← HL.out]; exact hlt
      obtain ⟨g0, o0, rfl, _, hc0⟩ := Rd.get HR.out (by omega)
      have cx := hc0 i _ (List.getElem?_eq_getElem hil)
      clear hc0
      by_cases hv : l[i] = p
      · rw [hv] at cx
        have HF := hid_of (first_at rh hil hv)
        obtain ⟨q, HQ⟩ : ∃ q, Hid (q = if before then i else i + 1) := ⟨_, hid_of rfl⟩
        have hqL : q ≤ L := by rw [HQ.out]; split <;> omega
        have hcut1 := cut_hi (some ⟨g0, o0, none⟩) L c q (q : Int) rfl (by omega)
        have hcut2 := cut_lo (some ⟨g0, o0, none⟩) L c q (q : Int) rfl hqL
        have HA := hid_of (HJ1.out q (by rw [← HL.out]; exact hqL))
        have HB := hid_of (HJ2.out q hqL)
        have hcs : (before = true ∧ (i : Int) = (q : Int)) ∨ (before = false ∧ (i : Int) + 1 = (q : Int)) := by
          rw [HQ.out]
          cases before
          · exact .inr ⟨rfl, by simp⟩
          · exact .inl ⟨rfl, by simp⟩
        clear hv rh R rw0 HJ1 HJ2
        have wL : IntKind.i64.wrap ((L : Int) + 1) = (L : Int) + 1 := IntWalk.i64_in _ (by omega)
        have hcs2 : (before = true ∧ q = i) ∨ (before = false ∧ (i : Int) + 1 = (q : Int)) := hcs.imp (fun e => ⟨e.1, by have := e.2; omega⟩) id
        clear hcs
        rcases hcs2 with ⟨rfl, rfl⟩ | ⟨rfl, eA⟩
        all_goals
          go_wp2_with fail
          go_region_with (first
            | (go_at_call_of 20 (Value.slice (some ⟨g0, o0, none⟩) q c); refine HA.out.mono ?_; rintro e w1 ⟨v1, rfl, n1, k1⟩; have K1 : Hid (Below w.heap.size w w1) := ((Below.refl _ w).drew.alloc (Nat.le_refl _) (.cells #[V v] 3)).trans (k1.mono ((Below.refl w.heap.size w).drew.alloc (Nat.le_refl _) (.cells #[V v] 3)).size); have N1 : Hid (NR w.heap.size w1 v1 (l.take q ++ [v])) := n1.mono ((Below.refl w.heap.size w).drew.alloc (Nat.le_refl _) (.cells #[V v] 3)).size; clear n1 k1 HA)
            | (go_at_call 20; refine (HB.out _ _ K1.out N1.out).mono ?_; rintro e w2 ⟨v2, rfl, n2, k2⟩; have N2 := hid_of (And.intro n2 k2); clear n2 k2))
          all_goals
            go_wp2_with fail
            go_ret2
            refine .inr ⟨_, v2, hil, HF.out, by rw [← HL.out]; exact ret_vi v2 _ (by simp), ?_, K1.out.trans (N2.out.2.mono K1.out.size)⟩
            have := N2.out.1.mono K1.out.size
            rw [List.append_assoc] at this
            first
              | (rw [if_pos rfl]; exact this)
              | (rw [← HQ.out]; exact this)
      · have hvv : (l[i] != p) = true := by rw [bne_iff_ne]; exact hv
        have HX := hid_of (show hits l p false (i + 1) = [] by rw [no_hit (by show ¬ l[i]? = _; rw [List.getElem?_eq_getElem hil]; exact fun e => hv (Option.some.inj e))]; exact rh)
        generalize l[i] = x at *
        clear hv rh R rw0 HJ1 HJ2
        go_wp2_with fail
        go_roundg g'
        case measure => omega
        case rel => exact ⟨i + 1, by omega, by omega, by simp, ⟨HX.out, rfl⟩⟩
    · have HX := hid_of (none_yet rh (by rw [← HL.out]; omega))
      clear rh R rw0 HJ1 HJ2
      go_wp2_with fail
      go_ret2
      exact .inl ⟨HX.out, rfl, rfl⟩
end Go.Proofs.Ytdmjfmojacnbeaa.RefC
