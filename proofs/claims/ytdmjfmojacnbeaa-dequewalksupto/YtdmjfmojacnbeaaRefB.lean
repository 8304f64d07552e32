/- The document's place, At, Put, Piece. -/
import Derived.Test.YtdmjfmojacnbeaaRef
namespace Go.Proofs.Ytdmjfmojacnbeaa.RefB
open Go.RowKit
open Go.Proofs.Ytdmjfmojacnbeaa.Base
open Go.Proofs.Ytdmjfmojacnbeaa.Held
open Go.Proofs.Ytdmjfmojacnbeaa.Lay
open Go.Proofs.Ytdmjfmojacnbeaa.Free
open Go.Proofs.Ytdmjfmojacnbeaa.Keep
open Go.Proofs.Ytdmjfmojacnbeaa.Place
open Go.Proofs.Ytdmjfmojacnbeaa.Piece
open Go.Proofs.Ytdmjfmojacnbeaa.App
open Go.Proofs.Ytdmjfmojacnbeaa.Same
set_option linter.unusedVariables false
set_option linter.unusedSimpArgs false
def idxI (n : Nat) (i : Int) : Int := match idx n i with
  | some k => (k : Int)
  | none => -1
set_option maxRecDepth 100000 in
theorem rplace_call (a : Option Addr) (L c : Nat) (i : Int) (hi : -9223372036854775808 ≤ i) (hL : L ≤ 35184372088832) (w : World) :
    Calls Try.prog 64 #[.slice a L c, .int .i64 i] w fun e w' => e = .returned (.int .i64 (idxI L i)) ∧ w' = w := by
  by_cases h0 : i < 0
  · have e0 : IntKind.i64.wrap (i + (L : Int)) = i + (L : Int) := IntWalk.i64_in _ (by omega)
    by_cases h1 : i + (L : Int) < 0
    · have HI := hid_of (show idxI L i = -1 by unfold idxI idx; rw [if_pos h0, if_pos h1])
      go_enter Try.func64, Try.ntmps64
      go_wp2_with fail
      go_ret
      exact ⟨by rw [HI.out]; rfl, rfl⟩
    · have HI := hid_of (show idxI L i = i + L by unfold idxI idx; rw [if_pos h0, if_neg h1]; show (((i + (L : Int)).toNat : Nat) : Int) = _; omega)
      have h2 : ¬ (L : Int) ≤ i + (L : Int) := by omega
      go_enter Try.func64, Try.ntmps64
      go_wp2_with fail
      go_ret
      exact ⟨by rw [HI.out]; rfl, rfl⟩
  · by_cases h1 : i < (L : Int)
    · have HI := hid_of (show idxI L i = i by unfold idxI idx; rw [if_neg h0, if_pos h1]; show ((i.toNat : Nat) : Int) = _; omega)
      have h2 : ¬ (L : Int) ≤ i := by omega
      go_enter Try.func64, Try.ntmps64
      go_wp2_with fail
      go_ret
      exact ⟨by rw [HI.out]; rfl, rfl⟩
    · have HI := hid_of (show idxI L i = -1 by unfold idxI idx; rw [if_neg h0, if_neg h1])
      have h2 : (L : Int) ≤ i := by omega
      go_enter Try.func64, Try.ntmps64
      go_wp2_with fail
      go_ret
      exact ⟨by rw [HI.out]; rfl, rfl⟩
set_option maxRecDepth 100000 in
theorem rat_call {G : Nat → Prop} {w : World} {u : Value} {l : List El} (h : SL G w u l) (i : Int) (hi : -9223372036854775808 ≤ i) (hL : l.length ≤ 35184372088832) :
    Calls Try.prog 32 #[u, .int .i64 i] w fun e w' => e = .returned (.tuple #[V (atS l i).1, .bool (atS l i).2]) ∧ w' = w := by
  obtain ⟨a, c, rfl, hc, hr⟩ := h
  have HP := hid_of (rplace_call a l.length c i hi hL w)
  unfold atS
  unfold idxI at HP
  cases hI : idx l.length i with
  | none =>
    rw [hI] at HP
    dsimp only at HP ⊢
    clear hr hI
    go_enter Try.func32, Try.ntmps32
    go_wp2_with fail
    refine HP.out.mono ?_
    rintro e w1 ⟨rfl, rfl⟩
    go_wp2_with fail
    go_ret2
    exact ⟨rfl, rfl⟩
  | some k =>
    have hk := idx_lt hI
    rw [hI] at HP
    dsimp only at HP ⊢
    obtain ⟨g, o, rfl, _, q⟩ := Rd.get hr (by omega)
    have cx := q k _ (List.getElem?_eq_getElem hk)
    rw [List.getElem?_eq_getElem hk, Option.getD_some]
    have d0 : ¬ (k : Int) < 0 := by omega
    generalize l[k] = x at *
    clear hI q hr
    go_enter Try.func32, Try.ntmps32
    go_wp2_with fail
    refine HP.out.mono ?_
    rintro e w1 ⟨rfl, rfl⟩
    go_wp2_with fail
    go_ret2
    exact ⟨rfl, rfl⟩
set_option maxHeartbeats 1000000 in
set_option maxRecDepth 100000 in
theorem rput_call {G : Nat → Prop} {w : World} {u : Value} {l : List El} (h : SL G w u l) (i : Int) (hi : -9223372036854775808 ≤ i) (v : El) (hb : l.length * 8 ≤ 140737488355328) :
    Calls Try.prog 48 #[u, .int .i64 i, V v] w fun e w' => ∃ r, e = .returned (.tuple #[r, .bool (idx l.length i).isSome]) ∧ SL (fun k => G k ∨ w.heap.size ≤ k) w' r (putS l i v) ∧ Below w.heap.size w w' := by
  have HS := hid_of h
  obtain ⟨a, c, rfl, hc, hr⟩ := h
  have HP := hid_of (rplace_call a l.length c i hi (by omega) w)
  have HJ := hid_of (joined_call HS.out (SL.nil (fun _ => True) w) (by simpa using hb))
  rw [List.append_nil] at HJ
  unfold putS
  unfold idxI at HP
  cases hI : idx l.length i with
  | none =>
    rw [hI] at HP
    dsimp only [Option.isSome_none] at HP ⊢
    clear hr hI
    go_enter Try.func48, Try.ntmps48
    go_wp2_with fail
    refine HP.out.mono ?_
    rintro e w1 ⟨rfl, hw1⟩
    rw [hw1]
    clear hw1
    go_wp2_with fail
    go_ret2
    exact ⟨_, rfl, HS.out.mono fun k _ e => .inl e, Below.refl _ _⟩
  | some k =>
    have hk := idx_lt hI
    rw [hI] at HP
    dsimp only [Option.isSome_some] at HP ⊢
    have d0 : ¬ (k : Int) < 0 := by omega
    clear hI hr
    obtain ⟨L, HL⟩ : ∃ L, Hid (L = l.length) := ⟨_, hid_of rfl⟩
    rw [← HL.out] at HP HJ hk ⊢
    go_enter Try.func48, Try.ntmps48
    go_wp2_with fail
    refine HP.out.mono ?_
    rintro e w1 ⟨rfl, hw1⟩
    rw [hw1]
    clear hw1
    go_wp2_with fail
    refine HJ.out.mono ?_
    rintro e w2 ⟨v2, rfl, n2, k2⟩
    rcases n2 with ⟨_, e0⟩ | ⟨g, c2, xs, rfl, hB, hrow, hx, hlc, ht⟩
    · rw [e0] at HL; have := HL.out; simp at this; omega
    · rw [← HL.out] at hlc ht ⊢
      have cx : w2.cell? ⟨g, k, none⟩ = some (V (xs[k]?.getD Z)) := by rw [hrow.cell, List.getElem?_eq_getElem (by omega)]; rfl
      have zx : w2.frozen? ⟨g, k, none⟩ = false := hrow.frozen k
      have K := hid_of (show SL (fun j => G j ∨ w.heap.size ≤ j) (w2.setCell ⟨g, k, none⟩ (V v)) (.slice (some ⟨g, 0, none⟩) L c2) (l.set k v) ∧ Below w.heap.size w (w2.setCell ⟨g, k, none⟩ (V v)) from by
        refine ⟨?_, k2.trans ((Below.refl w.heap.size w2).setCell hB _)⟩
        have hn : NR w.heap.size (w2.setCell ⟨g, k, none⟩ (V v)) (.slice (some ⟨g, 0, none⟩) L c2) (l.set k v) := .inr ⟨g, c2, xs.set k v, by rw [List.length_set, ← HL.out], hB, hrow.set k v, by rw [List.length_set]; exact hx, by rw [List.length_set, ← HL.out]; exact hlc, by rw [List.length_set, ← HL.out, List.take_set, ht]⟩
        exact hn.sl.mono fun j _ e => .inr e)
      generalize xs[k]?.getD Z = y at *
      clear hrow ht k2
      go_wp2_with fail
      go_ret2
      exact ⟨_, rfl, K.out⟩
set_option maxHeartbeats 2000000 in
set_option maxRecDepth 100000 in
theorem rpiece_call {G : Nat → Prop} {w : World} {u : Value} {l : List El} (h : SL G w u l) (x y : Int) (hx : -9223372036854775808 ≤ x) (hy : -9223372036854775808 ≤ y) (hx2 : x ≤ 9223372036854775807) (hy2 : y ≤ 9223372036854775807) (hb : l.length * 8 ≤ 140737488355328) :
    Calls Try.prog 34 #[u, .int .i64 x, .int .i64 y] w fun e w' => ∃ r, e = .returned r ∧ NR w.heap.size w' r (pieceS l x y) ∧ Below w.heap.size w w' := by
  obtain ⟨a, c, rfl, hc, hr⟩ := h
  have HR := hid_of hr
  obtain ⟨L, HL⟩ : ∃ L, Hid (L = l.length) := ⟨_, hid_of rfl⟩
  obtain ⟨X, HX⟩ : ∃ X, Hid (X = ends L x) := ⟨_, hid_of rfl⟩
  obtain ⟨Y, HY⟩ : ∃ Y, Hid (Y = ends L y) := ⟨_, hid_of rfl⟩
  have HP := hid_of (show pieceS l x y = if max X 0 ≤ min Y ((L : Int) - 1) then (l.drop (max X 0).toNat).take ((min Y ((L : Int) - 1) + 1).toNat - (max X 0).toNat) else [] by
    unfold pieceS pcF pcT
    rw [HX.out, HY.out, HL.out]
    split
    · rfl
    · simp)
  rw [← HL.out] at hb hc ⊢
  have bX : X ≤ 9223372036854775807 ∧ -9223372036854775808 ≤ X := by rw [HX.out]; unfold ends; split <;> omega
  have bY : Y ≤ 9223372036854775807 ∧ -9223372036854775808 ≤ Y := by rw [HY.out]; unfold ends; split <;> omega
  obtain ⟨bX1, bX2⟩ := bX
  obtain ⟨bY1, bY2⟩ := bY
  have hxc : (x < 0 ∧ x + (L : Int) = X ∧ IntKind.i64.wrap X = X) ∨ (¬ x < 0 ∧ X = x) := by
    by_cases q : x < 0
    · exact .inl ⟨q, by rw [HX.out]; unfold ends; rw [if_pos q], IntWalk.i64_in _ (by omega)⟩
    · exact .inr ⟨q, by rw [HX.out]; unfold ends; rw [if_neg q]⟩
  have hyc : (y < 0 ∧ y + (L : Int) = Y ∧ IntKind.i64.wrap Y = Y) ∨ (¬ y < 0 ∧ Y = y) := by
    by_cases q : y < 0
    · exact .inl ⟨q, by rw [HY.out]; unfold ends; rw [if_pos q], IntWalk.i64_in _ (by omega)⟩
    · exact .inr ⟨q, by rw [HY.out]; unfold ends; rw [if_neg q]⟩
  obtain ⟨M, HM⟩ : ∃ M : Int, Hid (M = (L : Int) - 1) := ⟨_, hid_of rfl⟩
  have w1 : (L : Int) - 1 = M := HM.out.symm
  have w2 : IntKind.i64.wrap M = M := IntWalk.i64_in _ (by omega)
  clear hr HX HY
  rcases Int.lt_or_le X 0 with q1 | q1 <;> rcases Int.lt_or_le M Y with q2 | q2
  · rcases hxc with ⟨x1, x2, x3⟩ | ⟨x1, rfl⟩ <;> rcases hyc with ⟨y1, y2, y3⟩ | ⟨y1, rfl⟩
    all_goals (try (exfalso; omega))
    all_goals
      go_enter Try.func34, Try.ntmps34
      go_wp2_with fail
      go_loopg [7, 8] (M + 1).toNat (fun g s7 s8 wx => ∃ (i : Nat) (ra : Option Addr) (rn rc : Nat), 0 ≤ i ∧ (i : Int) ≤ max (0 : Int) (M + 1) ∧ (M + 1).toNat ≤ i + g ∧ s7 = .slice ra rn rc ∧ s8 = .int .i64 (i : Int) ∧ Hid (NR w.heap.size wx (.slice ra rn rc) ((l.drop (0)).take (i - 0)) ∧ Below w.heap.size w wx))
      case atStart => exact ⟨0, none, 0, 0, Nat.le_refl _, by omega, by omega, rfl, rfl, ⟨.inl ⟨rfl, by simp⟩, Below.refl _ _⟩⟩
      case round =>
        obtain ⟨i, ra, rn, rc, hi1, hi2, hg, rfl, rfl, R⟩ := hrel
        by_cases hlt : (i : Int) ≤ M
        · obtain ⟨g', rfl⟩ : ∃ g', gk = g' + 1 := ⟨gk - 1, by omega⟩
          have hil : i < l.length := by rw [← HL.out]; omega
          have hiL : i < L := by omega
          obtain ⟨nr, bl⟩ := R.out
          obtain ⟨g1, o1, rfl, _, q1'⟩ := Rd.get (HR.out.keep (w' := wr) fun k hk _ => bl.block k hk) (by omega)
          have c1 : wr.cell? ⟨g1, o1 + i, none⟩ = some (V l[i]) := q1' i _ (List.getElem?_eq_getElem hil)
          have hrl : ((l.drop (0)).take (i - 0)).length = i - 0 := by rw [List.length_take, List.length_drop, ← HL.out]; omega
          obtain ⟨v2, w2, hrun, n2, b2⟩ := app_one l[i] nr (by rw [hrl]; omega) bl.size 22
          obtain ⟨a2, m2, c2, rfl⟩ : ∃ a2 m2 c2, v2 = .slice a2 m2 c2 := by
            obtain ⟨a2, c2, e, _, _⟩ := NR.shape n2
            exact ⟨a2, _, c2, e⟩
          have K := hid_of (show NR w.heap.size w2 (.slice a2 m2 c2) ((l.drop (0)).take (i + 1 - 0)) ∧ Below w.heap.size w w2 from ⟨by
            rw [show i + 1 - 0 = (i - 0) + 1 by omega, List.take_succ_eq_append_getElem (by rw [List.length_drop]; omega)]
            have e1 : (l.drop (0))[i - 0]'(by rw [List.length_drop]; omega) = l[i] := by rw [List.getElem_drop]; congr 1; omega
            rw [e1]
            exact n2, bl.trans b2⟩)
          generalize l[i] = e at *
          clear R nr bl n2 b2 q1' hrl
          go_wp2_with (at_builtin; refine wpl_eq rfl _ _ 22 22 rfl (.slice ra rn rc) (.slice (some ⟨wr.heap.size, 0, none⟩) 1 1) (.slice a2 m2 c2) _ w2 rfl rfl hrun ?_)
          go_roundg g'
          case measure => omega
          case rel => exact ⟨i + 1, a2, m2, c2, by omega, by omega, by omega, rfl, by simp, K⟩
        · have R2 := hid_of R.out
          clear R
          go_wp2_with fail
          go_ret
          refine ⟨_, rfl, ?_, R2.out.2⟩
          rw [HP.out]
          split
          · rename_i hq
            have e1 : (max X 0).toNat = 0 := by omega
            have e2 : (min Y ((L : Int) - 1) + 1).toNat = i := by omega
            rw [e1, e2]
            exact R2.out.1
          · rename_i hq
            have e1 : i - 0 = 0 := by omega
            have := R2.out.1
            rw [e1, List.take_zero] at this
            exact this
  · have q3 : ¬ M < Y := by omega
    rcases hxc with ⟨x1, x2, x3⟩ | ⟨x1, rfl⟩ <;> rcases hyc with ⟨y1, y2, y3⟩ | ⟨y1, rfl⟩
    all_goals (try (exfalso; omega))
    all_goals
      go_enter Try.func34, Try.ntmps34
      go_wp2_with fail
      go_loopg [7, 8] (Y + 1).toNat (fun g s7 s8 wx => ∃ (i : Nat) (ra : Option Addr) (rn rc : Nat), 0 ≤ i ∧ (i : Int) ≤ max (0 : Int) (Y + 1) ∧ (Y + 1).toNat ≤ i + g ∧ s7 = .slice ra rn rc ∧ s8 = .int .i64 (i : Int) ∧ Hid (NR w.heap.size wx (.slice ra rn rc) ((l.drop (0)).take (i - 0)) ∧ Below w.heap.size w wx))
      case atStart => exact ⟨0, none, 0, 0, Nat.le_refl _, by omega, by omega, rfl, rfl, ⟨.inl ⟨rfl, by simp⟩, Below.refl _ _⟩⟩
      case round =>
        obtain ⟨i, ra, rn, rc, hi1, hi2, hg, rfl, rfl, R⟩ := hrel
        by_cases hlt : (i : Int) ≤ Y
        · obtain ⟨g', rfl⟩ : ∃ g', gk = g' + 1 := ⟨gk - 1, by omega⟩
          have hil : i < l.length := by rw [← HL.out]; omega
          have hiL : i < L := by omega
          obtain ⟨nr, bl⟩ := R.out
          obtain ⟨g1, o1, rfl, _, q1'⟩ := Rd.get (HR.out.keep (w' := wr) fun k hk _ => bl.block k hk) (by omega)
          have c1 : wr.cell? ⟨g1, o1 + i, none⟩ = some (V l[i]) := q1' i _ (List.getElem?_eq_getElem hil)
          have hrl : ((l.drop (0)).take (i - 0)).length = i - 0 := by rw [List.length_take, List.length_drop, ← HL.out]; omega
          obtain ⟨v2, w2, hrun, n2, b2⟩ := app_one l[i] nr (by rw [hrl]; omega) bl.size 22
          obtain ⟨a2, m2, c2, rfl⟩ : ∃ a2 m2 c2, v2 = .slice a2 m2 c2 := by
            obtain ⟨a2, c2, e, _, _⟩ := NR.shape n2
            exact ⟨a2, _, c2, e⟩
          have K := hid_of (show NR w.heap.size w2 (.slice a2 m2 c2) ((l.drop (0)).take (i + 1 - 0)) ∧ Below w.heap.size w w2 from ⟨by
            rw [show i + 1 - 0 = (i - 0) + 1 by omega, List.take_succ_eq_append_getElem (by rw [List.length_drop]; omega)]
            have e1 : (l.drop (0))[i - 0]'(by rw [List.length_drop]; omega) = l[i] := by rw [List.getElem_drop]; congr 1; omega
            rw [e1]
            exact n2, bl.trans b2⟩)
          generalize l[i] = e at *
          clear R nr bl n2 b2 q1' hrl
          go_wp2_with (at_builtin; refine wpl_eq rfl _ _ 22 22 rfl (.slice ra rn rc) (.slice (some ⟨wr.heap.size, 0, none⟩) 1 1) (.slice a2 m2 c2) _ w2 rfl rfl hrun ?_)
          go_roundg g'
          case measure => omega
          case rel => exact ⟨i + 1, a2, m2, c2, by omega, by omega, by omega, rfl, by simp, K⟩
        · have R2 := hid_of R.out
          clear R
          go_wp2_with fail
          go_ret
          refine ⟨_, rfl, ?_, R2.out.2⟩
          rw [HP.out]
          split
          · rename_i hq
            have e1 : (max X 0).toNat = 0 := by omega
            have e2 : (min Y ((L : Int) - 1) + 1).toNat = i := by omega
            rw [e1, e2]
            exact R2.out.1
          · rename_i hq
            have e1 : i - 0 = 0 := by omega
            have := R2.out.1
            rw [e1, List.take_zero] at this
            exact this
  · obtain ⟨n, rfl⟩ : ∃ n : Nat, X = (n : Int) := ⟨X.toNat, by omega⟩
    have q4 : ¬ (n : Int) < 0 := by omega
    rcases hxc with ⟨x1, x2, x3⟩ | ⟨x1, rfl⟩ <;> rcases hyc with ⟨y1, y2, y3⟩ | ⟨y1, rfl⟩
    all_goals (try (exfalso; omega))
    all_goals
      go_enter Try.func34, Try.ntmps34
      go_wp2_with fail
      go_loopg [7, 8] (M + 1).toNat (fun g s7 s8 wx => ∃ (i : Nat) (ra : Option Addr) (rn rc : Nat), n ≤ i ∧ (i : Int) ≤ max (n : Int) (M + 1) ∧ (M + 1).toNat ≤ i + g ∧ s7 = .slice ra rn rc ∧ s8 = .int .i64 (i : Int) ∧ Hid (NR w.heap.size wx (.slice ra rn rc) ((l.drop (n)).take (i - n)) ∧ Below w.heap.size w wx))
      case atStart => exact ⟨n, none, 0, 0, Nat.le_refl _, by omega, by omega, rfl, rfl, ⟨.inl ⟨rfl, by simp⟩, Below.refl _ _⟩⟩
      case round =>
        obtain ⟨i, ra, rn, rc, hi1, hi2, hg, rfl, rfl, R⟩ := hrel
        by_cases hlt : (i : Int) ≤ M
        · obtain ⟨g', rfl⟩ : ∃ g', gk = g' + 1 := ⟨gk - 1, by omega⟩
          have hil : i < l.length := by rw [← HL.out]; omega
          have hiL : i < L := by omega
          obtain ⟨nr, bl⟩ := R.out
          obtain ⟨g1, o1, rfl, _, q1'⟩ := Rd.get (HR.out.keep (w' := wr) fun k hk _ => bl.block k hk) (by omega)
          have c1 : wr.cell? ⟨g1, o1 + i, none⟩ = some (V l[i]) := q1' i _ (List.getElem?_eq_getElem hil)
          have hrl : ((l.drop (n)).take (i - n)).length = i - n := by rw [List.length_take, List.length_drop, ← HL.out]; omega
          obtain ⟨v2, w2, hrun, n2, b2⟩ := app_one l[i] nr (by rw [hrl]; omega) bl.size 22
          obtain ⟨a2, m2, c2, rfl⟩ : ∃ a2 m2 c2, v2 = .slice a2 m2 c2 := by
            obtain ⟨a2, c2, e, _, _⟩ := NR.shape n2
            exact ⟨a2, _, c2, e⟩
          have K := hid_of (show NR w.heap.size w2 (.slice a2 m2 c2) ((l.drop (n)).take (i + 1 - n)) ∧ Below w.heap.size w w2 from ⟨by
            rw [show i + 1 - n = (i - n) + 1 by omega, List.take_succ_eq_append_getElem (by rw [List.length_drop]; omega)]
            have e1 : (l.drop (n))[i - n]'(by rw [List.length_drop]; omega) = l[i] := by rw [List.getElem_drop]; congr 1; omega
            rw [e1]
            exact n2, bl.trans b2⟩)
          generalize l[i] = e at *
          clear R nr bl n2 b2 q1' hrl
          go_wp2_with (at_builtin; refine wpl_eq rfl _ _ 22 22 rfl (.slice ra rn rc) (.slice (some ⟨wr.heap.size, 0, none⟩) 1 1) (.slice a2 m2 c2) _ w2 rfl rfl hrun ?_)
          go_roundg g'
          case measure => omega
          case rel => exact ⟨i + 1, a2, m2, c2, by omega, by omega, by omega, rfl, by simp, K⟩
        · have R2 := hid_of R.out
          clear R
          go_wp2_with fail
          go_ret
          refine ⟨_, rfl, ?_, R2.out.2⟩
          rw [HP.out]
          split
          · rename_i hq
            have e1 : (max (n : Int) 0).toNat = n := by omega
            have e2 : (min Y ((L : Int) - 1) + 1).toNat = i := by omega
            rw [e1, e2]
            exact R2.out.1
          · rename_i hq
            have e1 : i - n = 0 := by omega
            have := R2.out.1
            rw [e1, List.take_zero] at this
            exact this
  · obtain ⟨n, rfl⟩ : ∃ n : Nat, X = (n : Int) := ⟨X.toNat, by omega⟩
    have q4 : ¬ (n : Int) < 0 := by omega
    have q3 : ¬ M < Y := by omega
    rcases hxc with ⟨x1, x2, x3⟩ | ⟨x1, rfl⟩ <;> rcases hyc with ⟨y1, y2, y3⟩ | ⟨y1, rfl⟩
    all_goals (try (exfalso; omega))
    all_goals
      go_enter Try.func34, Try.ntmps34
      go_wp2_with fail
      go_loopg [7, 8] (Y + 1).toNat (fun g s7 s8 wx => ∃ (i : Nat) (ra : Option Addr) (rn rc : Nat), n ≤ i ∧ (i : Int) ≤ max (n : Int) (Y + 1) ∧ (Y + 1).toNat ≤ i + g ∧ s7 = .slice ra rn rc ∧ s8 = .int .i64 (i : Int) ∧ Hid (NR w.heap.size wx (.slice ra rn rc) ((l.drop (n)).take (i - n)) ∧ Below w.heap.size w wx))
      case atStart => exact ⟨n, none, 0, 0, Nat.le_refl _, by omega, by omega, rfl, rfl, ⟨.inl ⟨rfl, by simp⟩, Below.refl _ _⟩⟩
      case round =>
        obtain ⟨i, ra, rn, rc, hi1, hi2, hg, rfl, rfl, R⟩ := hrel
        by_cases hlt : (i : Int) ≤ Y
        · obtain ⟨g', rfl⟩ : ∃ g', gk = g' + 1 := ⟨gk - 1, by omega⟩
          have hil : i < l.length := by rw [← HL.out]; omega
          have hiL : i < L := by omega
          obtain ⟨nr, bl⟩ := R.out
          obtain ⟨g1, o1, rfl, _, q1'⟩ := Rd.get (HR.out.keep (w' := wr) fun k hk _ => bl.block k hk) (by omega)
          have c1 : wr.cell? ⟨g1, o1 + i, none⟩ = some (V l[i]) := q1' i _ (List.getElem?_eq_getElem hil)
          have hrl : ((l.drop (n)).take (i - n)).length = i - n := by rw [List.length_take, List.length_drop, ← HL.out]; omega
          obtain ⟨v2, w2, hrun, n2, b2⟩ := app_one l[i] nr (by rw [hrl]; omega) bl.size 22
          obtain ⟨a2, m2, c2, rfl⟩ : ∃ a2 m2 c2, v2 = .slice a2 m2 c2 := by
            obtain ⟨a2, c2, e, _, _⟩ := NR.shape n2
            exact ⟨a2, _, c2, e⟩
          have K := hid_of (show NR w.heap.size w2 (.slice a2 m2 c2) ((l.drop (n)).take (i + 1 - n)) ∧ Below w.heap.size w w2 from ⟨by
            rw [show i + 1 - n = (i - n) + 1 by omega, List.take_succ_eq_append_getElem (by rw [List.length_drop]; omega)]
            have e1 : (l.drop (n))[i - n]'(by rw [List.length_drop]; omega) = l[i] := by rw [List.getElem_drop]; congr 1; omega
            rw [e1]
            exact n2, bl.trans b2⟩)
          generalize l[i] = e at *
          clear R nr bl n2 b2 q1' hrl
          go_wp2_with (at_builtin; refine wpl_eq rfl _ _ 22 22 rfl (.slice ra rn rc) (.slice (some ⟨wr.heap.size, 0, none⟩) 1 1) (.slice a2 m2 c2) _ w2 rfl rfl hrun ?_)
          go_roundg g'
          case measure => omega
          case rel => exact ⟨i + 1, a2, m2, c2, by omega, by omega, by omega, rfl, by simp, K⟩
        · have R2 := hid_of R.out
          clear R
          go_wp2_with fail
          go_ret
          refine ⟨_, rfl, ?_, R2.out.2⟩
          rw [HP.out]
          split
          · rename_i hq
            have e1 : (max (n : Int) 0).toNat = n := by omega
            have e2 : (min Y ((L : Int) - 1) + 1).toNat = i := by omega
            rw [e1, e2]
            exact R2.out.1
          · rename_i hq
            have e1 : i - n = 0 := by omega
            have := R2.out.1
            rw [e1, List.take_zero] at this
            exact this
end Go.Proofs.Ytdmjfmojacnbeaa.RefB
