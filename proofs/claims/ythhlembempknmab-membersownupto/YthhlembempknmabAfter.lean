/- After: the next ones behind a text; what every statement asks first. -/
import Derived.Test.YthhlembempknmabCode
namespace Go.Proofs.Ythhlembempknmab.After
open Go.RowKit Go.Sort
open Go.Proofs.Ythhlembempknmab.SetMath
open Go.Proofs.Ythhlembempknmab.Base
open Go.Proofs.Ythhlembempknmab.Small
open Go.Proofs.Ythhlembempknmab.Of
open Go.Proofs.Ythhlembempknmab.Merge
open Go.Proofs.Ythhlembempknmab.Lists
open Go.Proofs.Ythhlembempknmab.Code
set_option linter.unusedVariables false
set_option linter.unusedSimpArgs false
theorem bdrew {B : Nat} {w w' : World} (h : Below B w w') (n : Nat) : Below B w (w'.drewN n) := ⟨h.os, h.tape, h.output, h.size, h.block⟩
def fnd (T : List Bs) (m : Bs) : Bool := decide (pos T m < T.length ∧ T[pos T m]? = some m)
def frm (T : List Bs) (m : Bs) : Nat := if fnd T m = true then pos T m + 1 else pos T m
theorem frm_le (T : List Bs) (m : Bs) : frm T m ≤ T.length := by
  unfold frm
  have := pos_le T m
  split
  · rename_i h
    have := (of_decide_eq_true h).1
    omega
  · exact this
theorem frm_drop {T : List Bs} (hr : Ris T) (m : Bs) : T.drop (frm T m) = T.filter fun x => decide (m < x) := by
  rw [drop_beh hr]
  unfold frm fnd
  by_cases q : pos T m < T.length ∧ T[pos T m]? = some m
  · rw [if_pos q, if_pos (decide_eq_true q)]
  · rw [if_neg q, if_neg (by rw [decide_eq_false q]; simp)]
theorem bs_pos {T : List Bs} (hr : Ris T) (m : Bs) (n : Nat) (hn : n = T.length) : Lib.bsGo (fun t => Op.bytesLess (mk (T.getD t m)).toList (mk m).toList) n 0 n = pos T m := by
  refine Lib.bsGo_spec _ (pos T m) (fun t ht => ?_) (fun t ht => ?_) n 0 n (by omega) (by omega) (by rw [hn]; exact pos_le T m)
  · have hl : t < T.length := by have := pos_le T m; omega
    simp only [str_lt]
    rw [List.getD_eq_getElem?_getD, List.getElem?_eq_getElem hl]
    exact decide_eq_true (pos_below hl ht)
  · simp only [str_lt]
    refine decide_eq_false ?_
    by_cases hl : t < T.length
    · rw [List.getD_eq_getElem?_getD, List.getElem?_eq_getElem hl]
      exact pos_above hr hl ht
    · rw [List.getD_eq_getElem?_getD, List.getElem?_eq_none (by omega)]
      exact List.lt_irrefl m
theorem search_call {B : Nat} {w : World} {v : Value} {T : List El} (m : Bs) (h : NR B w v T) (hr : Ris T) (hb : T.length < 4611686018427387904) :
    Calls Try.prog 21 #[v, V m] w fun e w' => e = .returned (.tuple #[.int .i64 (pos T m : Nat), .bool (fnd T m)]) ∧ ∃ q, w' = w.drewN q := by
  by_cases h0 : T = []
  · subst h0
    obtain ⟨a, c, rfl, _⟩ := h.shape
    refine (Try.slices_BinarySearch_string_empty a c (mk m) w).mono ?_
    rintro e w' ⟨rfl, rfl⟩
    exact ⟨rfl, 0, rfl⟩
  · rcases h with ⟨_, h1⟩ | ⟨g, c, cur, rfl, hB, hh, hx, hl, ht⟩
    · exact absurd h1 h0
    · refine (Try.slices_BinarySearch_string g 0 T.length c (fun t => mk (T.getD t m)) (mk m) w hb (fun j hj => ?_)).mono ?_
      · rw [Lib.cell_of_heap hh, Nat.zero_add, row_at ht (List.getElem?_eq_getElem hj), List.getD_eq_getElem?_getD, List.getElem?_eq_getElem hj]
        rfl
      · rintro e w' ⟨rfl, q⟩
        refine ⟨?_, q⟩
        rw [bs_pos hr m T.length rfl]
        unfold fnd
        have hd : ∀ a b : Bool, a = b → Ending.returned (.tuple #[.int .i64 ((pos T m : Nat) : Int), .bool a]) = .returned (.tuple #[.int .i64 ((pos T m : Nat) : Int), .bool b]) := fun a b h => by rw [h]
        refine hd _ _ ?_
        rw [decide_eq_decide]
        constructor
        · rintro ⟨h1, h2⟩
          refine ⟨h1, ?_⟩
          have := mk_inj h2
          rw [List.getD_eq_getElem?_getD, List.getElem?_eq_getElem h1] at this
          rw [List.getElem?_eq_getElem h1]
          exact congrArg some this
        · rintro ⟨h1, h2⟩
          refine ⟨h1, ?_⟩
          rw [List.getD_eq_getElem?_getD, h2]
          rfl
set_option maxHeartbeats 1000000 in
set_option maxRecDepth 100000 in
theorem after_call {G : Nat → Prop} {w : World} {v : Value} {l : List El} (m : Bs) (most : Int) (h : SL G w v l) (hb : l.length * 16 ≤ 140737488355328) :
    Calls Try.prog 10 #[v, V m, .int .i64 most] w fun e w' => ∃ r, e = .returned r ∧ NR w.heap.size w' r (aft l m most.toNat) ∧ Below w.heap.size w w' := by
  have HO := hid_of (of_call h hb)
  have hlen := len_S l
  have HS := hid_of fun (W : World) (r : Value) (n : NR w.heap.size W r (S l)) => search_call m n (ris_S l) (by omega)
  obtain ⟨a, c, rfl, _⟩ := SL.len h
  obtain ⟨T, hT⟩ : ∃ T, S l = T := ⟨_, rfl⟩
  have hr : Ris T := hT ▸ ris_S l
  have hK := frm_le T m
  obtain ⟨K, hKd⟩ : ∃ K, K = frm T m := ⟨_, rfl⟩
  rw [← hKd] at hK
  obtain ⟨M, hM⟩ : ∃ M, M = T.length - K := ⟨_, rfl⟩
  obtain ⟨Q, hQ⟩ : ∃ Q, Q = min most.toNat M := ⟨_, rfl⟩
  have hR : aft l m most.toNat = (T.drop K).take Q := by
    unfold aft beh
    rw [hT, ← frm_drop hr m, ← hKd, hQ]
    rcases Nat.lt_or_ge M most.toNat with q | q
    · rw [Nat.min_eq_right (by omega), List.take_of_length_le (by rw [List.length_drop]; omega), List.take_of_length_le (by rw [List.length_drop]; omega)]
    · rw [Nat.min_eq_left (by omega)]
  have hC : ∀ (W : World) (A : Option Addr) (C : Nat), NR w.heap.size W (.slice A T.length C) T → Calls Try.prog 17 #[.slice (ca A C K) Q (C - K)] W fun e w' => ∃ r, e = .returned r ∧ NR W.heap.size w' r ((T.drop K).take Q) ∧ Below W.heap.size W w' := by
    intro W A C n
    have h1 := n.sl
    obtain ⟨a1, c1, e1, hc1, r1⟩ := h1
    cases e1
    have hlQ : ((T.drop K).take Q).length = Q := by rw [List.length_take, List.length_drop]; omega
    have r2 := (r1.drop hc1 K).take Q
    have := clone_call (v := .slice (ca A C K) Q (C - K)) (l := (T.drop K).take Q) (w := W) ⟨_, _, by rw [hlQ], by rw [hlQ]; omega, r2⟩ (by rw [hlQ]; rw [hT] at hlen; omega)
    exact this
  have HC := hid_of hC
  rw [hR]
  rw [hT] at HO HS hlen
  have hmin : min (max most 0) (M : Int) = (Q : Int) := by omega
  have hF : (fnd T m = true ∧ K = pos T m + 1) ∨ (fnd T m = false ∧ K = pos T m) := by
    rw [hKd]
    unfold frm
    cases e : fnd T m
    · exact .inr ⟨rfl, by simp⟩
    · exact .inl ⟨rfl, by simp⟩
  have hM2 : T.length - K = M := hM.symm
  have HR2 := hid_of hK
  generalize hN : T.length = N at *
  generalize hp : pos T m = p at *
  have cut1 : ∀ (A : Option Addr) (C : Nat) (W : World), (Instr.slice 22 (.slice A N C) (some (.int .i64 (K : Int))) none none).run Try.prog W = .ok (.slice (ca A C K) M (C - K)) W := fun A C W => by rw [← hM2]; exact cut_lo A N C K (K : Int) rfl hK W
  have cut2 : ∀ (A : Option Addr) (C : Nat) (W : World), N ≤ C → (Instr.slice 22 (.slice (ca A C K) M (C - K)) none (some (.int .i64 (Q : Int))) none).run Try.prog W = .ok (.slice (ca A C K) Q (C - K)) W := fun A C W hC => cut_hi _ M (C - K) Q (Q : Int) rfl (by omega) W
  have HC2 := hid_of cut2
  obtain ⟨MM, hMM⟩ : ∃ MM, mk m = MM := ⟨_, rfl⟩
  rw [show V m = .string MM from by rw [← hMM]] at HS ⊢
  generalize l.length = n0 at *
  have HN := hid_of hN
  clear hT hr hKd hQ hR hC hM hM2 hN hp h hMM cut2
  rcases hF with ⟨f1, f2⟩ | ⟨f1, f2⟩
  all_goals
    rw [f1] at HS
    have F2 := hid_of f2
    have wp : IntKind.i64.wrap ((p : Int) + 1) = (p : Int) + 1 := IntWalk.i64_in _ (by omega)
    have kp : (K : Int) = (p : Int) + 1 ∨ (K : Int) = (p : Int) := by omega
  · rw [show (K : Int) = (p : Int) + 1 by omega] at cut1
    clear f1 f2 hlen hK kp
    go_enter Try.func10, Try.ntmps10
    go_wp2_with fail
    refine HO.out.mono ?_
    rintro e w1 ⟨r1, rfl, q1, b1⟩
    have B1 := hid_of b1
    have HS1 := hid_of (HS.out _ _ q1)
    have Q1 := hid_of q1
    obtain ⟨ra1, rc1, rfl, hrc⟩ := q1.shape
    rw [HN.out] at HS1 Q1 hrc ⊢
    have cutb := fun W => HC2.out ra1 rc1 W hrc
    have cuta := cut1 ra1 rc1
    clear q1 b1 HO HS cut1
    go_wp2_with fail
    refine HS1.out.mono ?_
    rintro e w2 ⟨rfl, m2, rfl⟩
    have HC1 := hid_of (HC.out _ _ _ (Q1.out.drewN m2))
    clear HS1
    go_wp2_with fail
    refine HC1.out.mono ?_
    rintro e w3 ⟨r3, rfl, q3, b3⟩
    have K3 : Hid (NR w.heap.size w3 r3 ((T.drop K).take Q) ∧ Below w.heap.size w w3) := hid_of ⟨q3.mono B1.out.size, bel (bdrew B1.out m2) b3 (Nat.le_refl _)⟩
    obtain ⟨ra3, rc3, rfl, _⟩ := q3.shape
    generalize hrr : ((T.drop K).take Q).length = rr at *
    clear q3 b3 HC1 hrr
    go_wp2_with fail
    go_ret
    exact ⟨_, rfl, K3.out⟩
  · rw [show (K : Int) = (p : Int) by omega] at cut1
    clear f1 f2 hlen hK kp
    go_enter Try.func10, Try.ntmps10
    go_wp2_with fail
    refine HO.out.mono ?_
    rintro e w1 ⟨r1, rfl, q1, b1⟩
    have B1 := hid_of b1
    have HS1 := hid_of (HS.out _ _ q1)
    have Q1 := hid_of q1
    obtain ⟨ra1, rc1, rfl, hrc⟩ := q1.shape
    rw [HN.out] at HS1 Q1 hrc ⊢
    have cutb := fun W => HC2.out ra1 rc1 W hrc
    have cuta := cut1 ra1 rc1
    clear q1 b1 HO HS cut1
    go_wp2_with fail
    refine HS1.out.mono ?_
    rintro e w2 ⟨rfl, m2, rfl⟩
    have HC1 := hid_of (HC.out _ _ _ (Q1.out.drewN m2))
    clear HS1
    go_wp2_with fail
    refine HC1.out.mono ?_
    rintro e w3 ⟨r3, rfl, q3, b3⟩
    have K3 : Hid (NR w.heap.size w3 r3 ((T.drop K).take Q) ∧ Below w.heap.size w w3) := hid_of ⟨q3.mono B1.out.size, bel (bdrew B1.out m2) b3 (Nat.le_refl _)⟩
    obtain ⟨ra3, rc3, rfl, _⟩ := q3.shape
    generalize hrr : ((T.drop K).take Q).length = rr at *
    clear q3 b3 HC1 hrr
    go_wp2_with fail
    go_ret
    exact ⟨_, rfl, K3.out⟩
end Go.Proofs.Ythhlembempknmab.After
