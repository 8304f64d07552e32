/- The document's Add, Remove, Count, After. -/
import Derived.Test.YthhlembempknmaaRefJ
namespace Go.Proofs.Ythhlembempknmaa.RefK
open Go.RowKit Go.Sort
open Go.Proofs.Ythhlembempknmaa.SetMath
open Go.Proofs.Ythhlembempknmaa.Base
open Go.Proofs.Ythhlembempknmaa.Small
open Go.Proofs.Ythhlembempknmaa.Lists
open Go.Proofs.Ythhlembempknmaa.ROf
open Go.Proofs.Ythhlembempknmaa.Code
open Go.Proofs.Ythhlembempknmaa.After
open Go.Proofs.Ythhlembempknmaa.RefJ
set_option linter.unusedVariables false
set_option linter.unusedSimpArgs false
theorem diff_two (l m : List Bs) : diff [l, m] = dif l m := by
  show (S l).filter (fun x => [m].all fun m => decide (x ∉ m)) = _
  unfold dif
  congr 1
  funext x
  simp
theorem ll_new {G : Nat → Prop} {w : World} {us : List Value} {ls : List (List El)} (hl : us.length = ls.length) (h : ∀ (j : Nat) (u : Value) (l : List El), us[j]? = some u → ls[j]? = some l → SL G w u l) : LL (fun _ => True) (w.alloc (.cells us.toArray 22)) (some ⟨w.heap.size, 0, none⟩) ls us :=
  ⟨hl, .inr ⟨w.heap.size, 0, rfl, trivial, fun j u hj => by
    rw [Lib.cell_of_heap (heap_alloc_new w _), Nat.zero_add]
    simpa using hj⟩, fun j u l h1 h2 => ((h j u l h1 h2).below ((Below.refl _ w).alloc (Nat.le_refl _) _)).mono fun _ _ _ => trivial⟩
theorem ll_two {G G' : Nat → Prop} {w : World} {u v : Value} {l m : List El} (h : SL G w u l) (h' : SL G' w v m) : LL (fun _ => True) (w.alloc (.cells #[u, v] 22)) (some ⟨w.heap.size, 0, none⟩) [l, m] [u, v] :=
  ll_new (G := fun _ => True) rfl fun j x y h1 h2 => by
    match j with
    | 0 => cases h1; cases h2; exact h.mono fun _ _ _ => trivial
    | 1 => cases h1; cases h2; exact h'.mono fun _ _ _ => trivial
    | j + 2 => simp at h1
set_option maxHeartbeats 1000000 in
set_option maxRecDepth 100000 in
theorem radd_call {G G' : Nat → Prop} {w : World} {u v : Value} {l m : List El} (h : SL G w u l) (h' : SL G' w v m) (hb : (l.length + m.length) * 16 ≤ 140737488355328) :
    Calls Try.prog 21 #[u, v] w fun e w' => ∃ r, e = .returned (.tuple #[r, .int .i64 ((S (l ++ m)).length - (S l).length : Int)]) ∧ NR w.heap.size w' r (S (l ++ m)) ∧ Below w.heap.size w w' := by
  have HA := hid_of fun (W : World) (b : Below w.heap.size w W) => rof_call (h.below b) (by omega)
  have h1 := len_S l
  have h3 := len_S (l ++ m)
  rw [List.length_append] at h3
  obtain ⟨a, c, rfl, hc, hr⟩ := h
  obtain ⟨a', c', rfl, hc', hr'⟩ := h'
  obtain ⟨v1, w1, hrun1, q1, b1⟩ := app_any (l := []) (B := w.heap.size) (c := c) (.inl ⟨rfl, rfl⟩) hr (.inl (by simp; omega)) (Nat.le_refl _) 22
  rw [List.nil_append] at q1
  obtain ⟨v2, w2, hrun2, q2, b2⟩ := app_any (c := c') q1 (hr'.keep (w' := w1) fun k hk _ => b1.block k hk) (.inl hb) b1.size 22
  have HO := hid_of (rof_call q2.sl (by rw [List.length_append]; exact hb))
  have B2 := hid_of (b1.trans b2)
  have hs : IntKind.i64.wrap (((S (l ++ m)).length : Int) - ((S l).length : Int)) = ((S (l ++ m)).length : Int) - ((S l).length : Int) := IntWalk.i64_in _ (by omega)
  obtain ⟨ra1, rc1, rfl, _⟩ := q1.shape
  obtain ⟨ra2, rc2, rfl, _⟩ := q2.shape
  generalize hn2 : (l ++ m).length = n12 at *
  generalize l.length = n1 at *
  generalize m.length = n2 at *
  clear hr hr' q1 q2 b1 b2 hb hc hc' hn2
  go_enter Try.func21, Try.ntmps21
  go_wp2_with (first
    | (at_builtin; refine wpl_eq rfl _ _ 22 22 rfl (.slice none 0 0) (.slice a n1 c) (.slice ra1 n1 rc1) _ w1 rfl rfl hrun1 ?_; clear hrun1)
    | (at_builtin; refine wpl_eq rfl _ _ 22 22 rfl (.slice ra1 n1 rc1) (.slice a' n2 c') (.slice ra2 n12 rc2) _ w2 rfl rfl hrun2 ?_; clear hrun2))
  refine HO.out.mono ?_
  rintro e w3 ⟨r3, rfl, q3, b3⟩
  have B3 := hid_of (bel B2.out b3 (Nat.le_refl _))
  have Q3 := hid_of q3
  have HA3 := hid_of (HA.out _ B3.out)
  obtain ⟨ra3, rc3, rfl, _⟩ := q3.shape
  clear q3 b3 HO HA
  go_wp2_with fail
  refine HA3.out.mono ?_
  rintro e w4 ⟨r4, rfl, q4, b4⟩
  have K := hid_of (And.intro ((Q3.out.below b4).mono B2.out.size) (bel B3.out b4 (Nat.le_refl _)))
  obtain ⟨ra4, rc4, rfl, _⟩ := q4.shape
  clear q4 b4 HA3
  go_wp2_with fail
  go_ret2
  exact ⟨_, rfl, K.out⟩
set_option maxHeartbeats 1000000 in
set_option maxRecDepth 100000 in
theorem rremove_call {G G' : Nat → Prop} {w : World} {u v : Value} {l m : List El} (h : SL G w u l) (h' : SL G' w v m) (hb : (l.length + m.length) * 16 ≤ 140737488355328) :
    Calls Try.prog 22 #[u, v] w fun e w' => ∃ r, e = .returned (.tuple #[r, .int .i64 ((S l).length - (dif l m).length : Int)]) ∧ NR w.heap.size w' r (dif l m) ∧ Below w.heap.size w w' := by
  have HA := hid_of fun (W : World) (b : Below w.heap.size w W) => rof_call (h.below b) (by omega)
  have h1 := len_S l
  have h3 : (dif l m).length ≤ (S l).length := List.length_filter_le _ _
  have b1 := (Below.refl w.heap.size w).alloc (Nat.le_refl _) (.cells #[u, v] 22)
  have HD := hid_of (rdiff_call (c := 2) (ll_two h h') (by simp) (by simp) (by rw [tot_cons, tot_cons]; simp [tot]; omega))
  rw [diff_two] at HD
  have e2 : [l, m].length = 2 := rfl
  rw [e2] at HD
  have hs : IntKind.i64.wrap (((S l).length : Int) - ((dif l m).length : Int)) = ((S l).length : Int) - ((dif l m).length : Int) := IntWalk.i64_in _ (by omega)
  have B1 := hid_of b1
  obtain ⟨a, c, rfl, _⟩ := SL.len h
  obtain ⟨a', c', rfl, _⟩ := SL.len h'
  generalize l.length = n1 at *
  generalize m.length = n2 at *
  clear h h' hb b1 e2
  go_enter Try.func22, Try.ntmps22
  go_wp2_with fail
  refine HD.out.mono ?_
  rintro e w3 ⟨r3, rfl, q3, b3⟩
  have B3 := hid_of (bel B1.out b3 (Nat.le_refl _))
  have Q3 := hid_of (q3.mono B1.out.size)
  have HA3 := hid_of (HA.out _ B3.out)
  obtain ⟨ra3, rc3, rfl, _⟩ := q3.shape
  clear q3 b3 HD HA B1
  go_wp2_with fail
  refine HA3.out.mono ?_
  rintro e w4 ⟨r4, rfl, q4, b4⟩
  have K := hid_of (And.intro (Q3.out.below b4) (bel B3.out b4 (Nat.le_refl _)))
  obtain ⟨ra4, rc4, rfl, _⟩ := q4.shape
  clear q4 b4 HA3
  go_wp2_with fail
  go_ret2
  exact ⟨_, rfl, K.out⟩
set_option maxHeartbeats 1000000 in
set_option maxRecDepth 100000 in
theorem rcount_call {G : Nat → Prop} {w : World} {a : Option Addr} {c : Nat} {ls : List (List El)} {us : List Value} (most : Int) (h : LL G w a ls us) (hc : ls.length ≤ c) (hl : ls.length ≤ 140737488355328) (hb : tot ls * 16 ≤ 140737488355328) :
    Calls Try.prog 30 #[.int .i64 most, .slice a ls.length c] w fun e w' => e = .returned (.int .i64 (cnt most (inter ls).length)) ∧ Below w.heap.size w w' := by
  have HI := hid_of (rinter_call h hc hl hb)
  generalize ls.length = L at *
  clear h hb
  generalize hN : (inter ls).length = N at *
  have hcs : (¬ 0 < most ∧ cnt most N = N) ∨ (0 < most ∧ most < (N : Int) ∧ cnt most N = most) ∨ (0 < most ∧ ¬ most < (N : Int) ∧ cnt most N = N) := by
    unfold cnt
    by_cases h1 : most < 1
    · exact .inl ⟨by omega, by rw [if_pos h1]⟩
    · by_cases h2 : most < (N : Int)
      · exact .inr (.inl ⟨by omega, h2, by rw [if_neg h1]; omega⟩)
      · exact .inr (.inr ⟨by omega, h2, by rw [if_neg h1]; omega⟩)
  rcases hcs with ⟨h1, e⟩ | ⟨h1, h2, e⟩ | ⟨h1, h2, e⟩
  all_goals
    rw [e]
    clear e
    go_enter Try.func30, Try.ntmps30
    go_wp2_with fail
    refine HI.out.mono ?_
    rintro e w1 ⟨r1, rfl, q1, b1⟩
    have B1 := hid_of b1
    obtain ⟨ra1, rc1, rfl, _⟩ := q1.shape
    rw [hN]
    clear q1 b1 hN HI
    go_wp2_with fail
    go_ret
    exact ⟨rfl, B1.out⟩
set_option maxHeartbeats 2000000 in
set_option maxRecDepth 100000 in
theorem rafter_call {G : Nat → Prop} {w : World} {v : Value} {l : List El} (m : Bs) (most : Int) (h : SL G w v l) (hb : l.length * 16 ≤ 140737488355328) :
    Calls Try.prog 32 #[v, V m, .int .i64 most] w fun e w' => ∃ r, e = .returned r ∧ NR w.heap.size w' r (aft l m most.toNat) ∧ Below w.heap.size w w' := by
  have HO := hid_of (rof_call h hb)
  have hlen := len_S l
  obtain ⟨a, c, rfl, _⟩ := SL.len h
  obtain ⟨T, hT⟩ : ∃ T, S l = T := ⟨_, rfl⟩
  have hR : aft l m most.toNat = (T.filter fun x => decide (m < x)).take most.toNat := by unfold aft beh; rw [hT]
  rw [hR]
  rw [hT] at HO hlen
  obtain ⟨N, HN⟩ : ∃ N, Hid (N = T.length) := ⟨_, hid_of rfl⟩
  have hNl : N * 16 ≤ 140737488355328 := by rw [HN.out]; omega
  obtain ⟨M, HM⟩ : ∃ M, Hid (mk m = M) := ⟨_, hid_of rfl⟩
  rw [show V m = .string M from by rw [← HM.out]]
  generalize l.length = n0 at *
  clear h hT hR hlen
  go_enter Try.func32, Try.ntmps32
  go_wp2_with fail
  refine HO.out.mono ?_
  rintro e w1 ⟨r1, rfl, q1, b1⟩
  have S1 := hid_of q1.sl
  have B1 := hid_of b1
  obtain ⟨ra1, rc1, rfl, hrc1⟩ := q1.shape
  rw [← HN.out] at S1 hrc1 ⊢
  clear q1 b1 HO
  go_wp2_with fail
  go_loopg [8, 9] N (fun g s8 s9 wx => ∃ (i : Nat) (ra : Option Addr) (rn rc : Nat), i ≤ N ∧ N ≤ i + g ∧ rn ≤ i ∧ (rn : Int) ≤ max most 0 ∧ s8 = .slice ra rn rc ∧ s9 = .int .i64 (i : Int) ∧ Hid (rn = ((T.take i).filter (fun x => decide (m < x))).length ∧ NR w1.heap.size wx (.slice ra rn rc) ((T.take i).filter (fun x => decide (m < x))) ∧ Below w1.heap.size w1 wx))
  case atStart => exact ⟨0, none, 0, 0, by omega, by omega, by omega, by omega, rfl, rfl, hid_of ⟨by simp, .inl ⟨rfl, by simp⟩, Below.refl _ _⟩⟩
  case round =>
    obtain ⟨i, ra, rn, rc, hi, hg, hrn, hrm, rfl, rfl, R⟩ := hrel
    by_cases hgo : i < N ∧ (rn : Int) < most
    · obtain ⟨hlt, hmo⟩ := hgo
      obtain ⟨g', rfl⟩ : ∃ g', gk = g' + 1 := ⟨gk - 1, by omega⟩
      have hil : i < T.length := by rw [← HN.out]; exact hlt
      obtain ⟨hn0, nr0, bl0⟩ := R.out
      obtain ⟨aS, cS, eS, _, rS⟩ := S1.out
      rw [← HN.out] at eS
      cases eS
      obtain ⟨gs, os, rfl, hgs, qs⟩ := Rd.get rS.lt (by omega)
      have cx : wr.cell? ⟨gs, os + i, none⟩ = some (.string (mk T[i])) := (World.cell?_of_block (w := w1) (bl0.block gs hgs.2)).trans (qs i _ (List.getElem?_eq_getElem hil))
      have HFS := hid_of (filt_snoc (p := fun x => decide (m < x)) hil)
      have h1 : Op.bytesLess (mk T[i]).toList M.toList = decide (T[i] < m) := by rw [← HM.out]; exact str_lt _ _
      have h2 : ((mk T[i]).toList == M.toList) = decide (T[i] = m) := by rw [← HM.out]; exact str_eq _ _
      generalize T[i] = x at *
      have w2 : IntKind.i64.wrap ((i : Int) + 1) = (i : Int) + 1 := IntWalk.i64_in _ (by omega)
      clear qs rS hil
      by_cases hx : m < x
      · rw [decide_eq_false (lt_not hx)] at h1
        rw [decide_eq_false (lt_ne hx).symm] at h2
        obtain ⟨v3, w3, hrun, n3, b3⟩ := app_one x nr0 (by rw [← hn0]; omega) bl0.size 22
        have ef : (T.take (i + 1)).filter (fun x => decide (m < x)) = (T.take i).filter (fun x => decide (m < x)) ++ [x] := by rw [HFS.out, if_pos (decide_eq_true hx)]
        rw [← ef] at n3
        obtain ⟨ra3, rc3, e3, _⟩ := n3.shape
        have hl3 : ((T.take (i + 1)).filter (fun x => decide (m < x))).length = rn + 1 := by rw [ef, List.length_append, ← hn0]; rfl
        rw [hl3] at e3
        subst e3
        have K : Hid (rn + 1 = ((T.take (i + 1)).filter (fun x => decide (m < x))).length ∧ NR w1.heap.size w3 (.slice ra3 (rn + 1) rc3) ((T.take (i + 1)).filter (fun x => decide (m < x))) ∧ Below w1.heap.size w1 w3) := hid_of ⟨hl3.symm, n3, bl0.trans b3⟩
        clear hn0 nr0 bl0 R n3 b3 ef hl3 hx HFS
        simp only [V] at hrun
        generalize mk x = XX at *
        go_wp2_with (at_builtin; refine wpl_eq rfl _ _ 22 22 rfl (.slice ra rn rc) (.slice (some ⟨wr.heap.size, 0, none⟩) 1 1) (.slice ra3 (rn + 1) rc3) _ w3 rfl rfl hrun ?_; clear hrun)
        go_roundg g'
        case measure => omega
        case rel => exact ⟨i + 1, ra3, rn + 1, rc3, by omega, by omega, by omega, by omega, rfl, by simp, K⟩
      · have K : Hid (rn = ((T.take (i + 1)).filter (fun x => decide (m < x))).length ∧ NR w1.heap.size wr (.slice ra rn rc) ((T.take (i + 1)).filter (fun x => decide (m < x))) ∧ Below w1.heap.size w1 wr) := hid_of (by
          rw [HFS.out, if_neg (by simpa using hx), List.append_nil]
          exact ⟨hn0, nr0, bl0⟩)
        clear hn0 nr0 bl0 R HFS
        rcases lt_tot x m with q | q | q
        · rw [decide_eq_true q] at h1
          clear h2 q hx
          generalize mk x = XX at *
          go_wp2_with fail
          go_roundg g'
          case measure => omega
          case rel => exact ⟨i + 1, ra, rn, rc, by omega, by omega, by omega, by omega, rfl, by simp, K⟩
        · rw [q, decide_eq_false (List.lt_irrefl m)] at h1
          rw [q, decide_eq_true rfl] at h2
          rw [q] at cx
          clear q hx
          generalize mk m = XX at *
          go_wp2_with fail
          go_roundg g'
          case measure => omega
          case rel => exact ⟨i + 1, ra, rn, rc, by omega, by omega, by omega, by omega, rfl, by simp, K⟩
        · exact absurd q hx
    · have HE : Hid ((T.filter fun x => decide (m < x)).take most.toNat = (T.take i).filter (fun x => decide (m < x))) := hid_of (by
        obtain ⟨hn0, _, _⟩ := R.out
        by_cases q : i < N
        · have hr : rn = most.toNat := by omega
          have e : T.filter (fun x => decide (m < x)) = (T.take i).filter (fun x => decide (m < x)) ++ (T.drop i).filter (fun x => decide (m < x)) := by rw [← List.filter_append, List.take_append_drop]
          rw [e, List.take_left' (by rw [← hn0, hr])]
        · have e : T.take i = T := List.take_of_length_le (by have := HN.out; omega)
          rw [e] at hn0 ⊢
          rw [List.take_of_length_le (by omega)])
      have dd : ¬ i < N ∨ (i < N ∧ ¬ (rn : Int) < most) := by omega
      have R2 := hid_of R.out
      clear R hgo
      rcases dd with z | ⟨z1, z2⟩
      all_goals
        go_wp2_with fail
        go_ret
        obtain ⟨r1, r2, r3⟩ := R2.out
        rw [← HE.out] at r2
        exact ⟨_, rfl, r2.mono B1.out.size, bel B1.out r3 (Nat.le_refl _)⟩
end Go.Proofs.Ythhlembempknmaa.RefK
