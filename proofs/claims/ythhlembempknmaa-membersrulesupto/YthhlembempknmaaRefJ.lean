/- The document's Union, Inter, Diff, Add, Remove, Count, After. -/
import Derived.Test.YthhlembempknmaaROf
import Derived.Test.YthhlembempknmaaAfter
namespace Go.Proofs.Ythhlembempknmaa.RefJ
open Go.RowKit Go.Sort
open Go.Proofs.Ythhlembempknmaa.SetMath
open Go.Proofs.Ythhlembempknmaa.Base
open Go.Proofs.Ythhlembempknmaa.Small
open Go.Proofs.Ythhlembempknmaa.Lists
open Go.Proofs.Ythhlembempknmaa.ROf
open Go.Proofs.Ythhlembempknmaa.Code
open Go.Proofs.Ythhlembempknmaa.After
set_option linter.unusedVariables false
set_option linter.unusedSimpArgs false
theorem flat_tot (ls : List (List El)) : ls.flatten.length = tot ls := by unfold tot; exact List.length_flatten
theorem flat_le {ls : List (List El)} {i : Nat} (h : i < ls.length) : (ls.take i).flatten.length + ls[i].length ≤ tot ls := by
  have h1 := tot_split ls i
  rw [flat_tot]
  rw [List.drop_eq_getElem_cons h, tot_cons] at h1
  omega
theorem flat_succ {ls : List (List El)} {i : Nat} (h : i < ls.length) : (ls.take (i + 1)).flatten = (ls.take i).flatten ++ ls[i] := by
  rw [List.take_succ_eq_append_getElem h, List.flatten_append]
  simp
set_option maxHeartbeats 1000000 in
set_option maxRecDepth 100000 in
theorem runion_call {G : Nat → Prop} {w : World} {a : Option Addr} {c : Nat} {ls : List (List El)} {us : List Value} (h : LL G w a ls us) (hc : ls.length ≤ c) (hl : ls.length ≤ 140737488355328) (hb : tot ls * 16 ≤ 140737488355328) :
    Calls Try.prog 24 #[.slice a ls.length c] w fun e w' => ∃ r, e = .returned r ∧ NR w.heap.size w' r (uni ls) ∧ Below w.heap.size w w' := by
  obtain ⟨L, HL⟩ : ∃ L, Hid (L = ls.length) := ⟨_, hid_of rfl⟩
  have HR := hid_of fun (W : World) (b : Below w.heap.size w W) => h.below b
  have HB := hid_of hb
  rw [← HL.out] at hl hc ⊢
  clear h hb
  go_enter Try.func24, Try.ntmps24
  go_wp2_with fail
  go_loopg [3, 4] L (fun g s3 s4 wx => ∃ (i : Nat) (ra : Option Addr) (rn rc : Nat), i ≤ L ∧ L ≤ i + g ∧ s3 = .slice ra rn rc ∧ s4 = .int .i64 (i : Int) ∧ Hid (NR w.heap.size wx (.slice ra rn rc) (ls.take i).flatten ∧ Below w.heap.size w wx))
  case atStart => exact ⟨0, none, 0, 0, by omega, by omega, rfl, rfl, hid_of ⟨.inl ⟨rfl, by simp⟩, Below.refl _ _⟩⟩
  case round =>
    obtain ⟨i, ra, rn, rc, hi, hg, rfl, rfl, R⟩ := hrel
    by_cases hlt : i < L
    · obtain ⟨g', rfl⟩ : ∃ g', gk = g' + 1 := ⟨gk - 1, by omega⟩
      have hil : i < ls.length := by rw [← HL.out]; exact hlt
      obtain ⟨nr, bl⟩ := R.out
      obtain ⟨g1, o1, u1, rfl, c1, sl1⟩ := (HR.out _ bl).get (j := i) (l := ls[i]) (List.getElem?_eq_getElem hil)
      obtain ⟨ua, uc, rfl, hc1, rd1⟩ := sl1
      obtain ⟨v2, w2, hrun, q2, b2⟩ := app_any (c := uc) nr rd1 (.inl (by have := flat_le hil; have := HB.out; omega)) bl.size 22
      rw [← flat_succ hil] at q2
      have K := hid_of (And.intro q2 (bl.trans b2))
      obtain ⟨ra2, rc2, rfl, _⟩ := q2.shape
      generalize hn2 : ((ls.take (i + 1)).flatten).length = rn2 at *
      generalize ls[i].length = n1 at *
      have w2' : IntKind.i64.wrap ((i : Int) + 1) = (i : Int) + 1 := IntWalk.i64_in _ (by omega)
      clear nr bl rd1 q2 b2 R hn2
      go_wp2_with (at_builtin; refine wpl_eq rfl _ _ 22 22 rfl (.slice ra rn rc) (.slice ua n1 uc) (.slice ra2 rn2 rc2) _ w2 rfl rfl hrun ?_; clear hrun)
      go_roundg g'
      case measure => omega
      case rel => exact ⟨i + 1, ra2, rn2, rc2, by omega, by omega, rfl, by simp, K⟩
    · have HE : Hid (ls.take i = ls) := hid_of (List.take_of_length_le (by have := HL.out; omega))
      obtain ⟨nr, bl⟩ := R.out
      rw [HE.out] at nr
      have HO := hid_of (rof_call nr.sl (by rw [flat_tot]; exact HB.out))
      have BL := hid_of bl
      clear nr bl R
      go_wp2_with fail
      refine HO.out.mono ?_
      rintro e w1 ⟨r1, rfl, q1, b1⟩
      have K := hid_of (And.intro (q1.mono BL.out.size) (bel BL.out b1 (Nat.le_refl _)))
      obtain ⟨ra1, rc1, rfl, _⟩ := q1.shape
      clear q1 b1 HO
      go_wp2_with fail
      go_ret
      exact ⟨_, rfl, K.out⟩
theorem filt_snoc {T : List Bs} {p : Bs → Bool} {i : Nat} (h : i < T.length) : (T.take (i + 1)).filter p = (T.take i).filter p ++ (if p T[i] = true then [T[i]] else []) := by
  rw [List.take_succ_eq_append_getElem h, List.filter_append]
  congr 1
  by_cases q : p T[i] = true <;> simp [q]
theorem all_snoc {lr : List (List El)} {q : List El → Bool} {j : Nat} (h : j < lr.length) : (lr.take (j + 1)).all q = ((lr.take j).all q && q lr[j]) := by
  rw [List.take_succ_eq_append_getElem h, List.all_append]
  simp
set_option maxHeartbeats 4000000 in
set_option maxRecDepth 100000 in
theorem rinter_call {G : Nat → Prop} {w : World} {a : Option Addr} {c : Nat} {ls : List (List El)} {us : List Value} (h : LL G w a ls us) (hc : ls.length ≤ c) (hl : ls.length ≤ 140737488355328) (hb : tot ls * 16 ≤ 140737488355328) :
    Calls Try.prog 26 #[.slice a ls.length c] w fun e w' => ∃ r, e = .returned r ∧ NR w.heap.size w' r (inter ls) ∧ Below w.heap.size w w' := by
  cases ls with
  | nil =>
    rw [List.length_nil]
    go_enter Try.func26, Try.ntmps26
    go_wp2_with fail
    go_ret
    exact ⟨_, rfl, .inl ⟨rfl, rfl⟩, Below.refl _ _⟩
  | cons l lr =>
    rw [tot_cons] at hb
    obtain ⟨g0, o0, u0, rfl, c0, sl0⟩ := h.get (j := 0) rfl
    rw [Nat.add_zero] at c0
    have HO := hid_of (rof_call sl0 (by omega))
    obtain ⟨ua, uc, rfl, _⟩ := SL.len sl0
    obtain ⟨L, HL⟩ : ∃ L, Hid (L = lr.length) := ⟨_, hid_of rfl⟩
    rw [List.length_cons, ← HL.out] at hl hc ⊢
    have HR := hid_of fun (W : World) (b : Below w.heap.size w W) => h.below b
    have HLT : Hid (∀ m ∈ lr, m.length ≤ 140737488355328) := hid_of fun m hm => by have := tot_mem hm; omega
    obtain ⟨T, hT⟩ : ∃ T, S l = T := ⟨_, rfl⟩
    have hTl : T.length * 16 ≤ 140737488355328 := by rw [← hT]; have := len_S l; omega
    rw [hT] at HO
    have HF : Hid (T.filter (fun x => lr.all fun m => decide (x ∈ m)) = inter (l :: lr)) := hid_of (by rw [← hT]; rfl)
    obtain ⟨N, HN⟩ : ∃ N, Hid (N = T.length) := ⟨_, hid_of rfl⟩
    rw [← HN.out] at hTl
    generalize l.length = n0 at *
    have g1 : ((L : Int) + 1 == 0) = false := by rw [beq_eq_false_iff_ne]; omega
    clear h sl0 hb hT
    go_enter Try.func26, Try.ntmps26
    go_wp2_with fail
    refine HO.out.mono ?_
    rintro e w1 ⟨r1, rfl, q1, b1⟩
    have S1 := hid_of q1.sl
    have B1 := hid_of b1
    obtain ⟨ra1, rc1, rfl, hrc1⟩ := q1.shape
    rw [← HN.out] at S1 hrc1 ⊢
    clear q1 b1 HO c0
    go_wp2_with fail
    go_loopg [3, 5] N (fun g s3 s5 wx => ∃ (i : Nat) (ra : Option Addr) (rn rc : Nat), i ≤ N ∧ N ≤ i + g ∧ rn ≤ i ∧ s3 = .slice ra rn rc ∧ s5 = .int .i64 (i : Int) ∧ Hid (rn = ((T.take i).filter (fun x => lr.all fun m => decide (x ∈ m))).length ∧ NR w1.heap.size wx (.slice ra rn rc) ((T.take i).filter (fun x => lr.all fun m => decide (x ∈ m))) ∧ Below w1.heap.size w1 wx))
    case atStart => exact ⟨0, none, 0, 0, by omega, by omega, by omega, rfl, rfl, hid_of ⟨by simp, .inl ⟨rfl, by simp⟩, Below.refl _ _⟩⟩
    case round =>
      obtain ⟨i, ra, rn, rc, hi, hg, hrn, rfl, rfl, R⟩ := hrel
      by_cases hlt : i < N
      · obtain ⟨gO, rfl⟩ : ∃ g', gk = g' + 1 := ⟨gk - 1, by omega⟩
        obtain ⟨W1, rfl⟩ : ∃ W1, W1 = wr := ⟨_, rfl⟩
        have hil : i < T.length := by rw [← HN.out]; exact hlt
        obtain ⟨aS, cS, eS, _, rS⟩ := S1.out
        rw [← HN.out] at eS
        cases eS
        obtain ⟨gs, os, rfl, hgs, qs⟩ := Rd.get rS.lt (by omega)
        have cx : Hid (∀ W, Below w1.heap.size w1 W → W.cell? ⟨gs, os + i, none⟩ = some (.string (mk T[i]))) := hid_of fun W b => (World.cell?_of_block (w := w1) (b.block gs hgs.2)).trans (qs i _ (List.getElem?_eq_getElem hil))
        have HFS := hid_of (filt_snoc (p := fun x => lr.all fun m => decide (x ∈ m)) hil)
        generalize T[i] = x at *
        have w2 : IntKind.i64.wrap ((i : Int) + 1) = (i : Int) + 1 := IntWalk.i64_in _ (by omega)
        clear qs rS hil
        go_wp2_with fail
        go_loopg [6, 7] L (fun g s6 s7 wx => ∃ (j : Nat) (A : Bool), j ≤ L ∧ L ≤ j + g ∧ s6 = .bool A ∧ s7 = .int .i64 ((j : Int) + 1) ∧ Hid (A = (lr.take j).all fun m => decide (x ∈ m)) ∧ Hid (∃ q, wx = W1.drewN q))
        case atStart => exact ⟨0, true, by omega, by omega, rfl, rfl, hid_of (by simp), 0, rfl⟩
        case round =>
          obtain ⟨j, A, hj, hgj, rfl, rfl, HA, RQ⟩ := hrel
          have BQ : Hid (Below w1.heap.size w1 wr) := hid_of (by obtain ⟨q, rfl⟩ := RQ.out; exact bdrew R.out.2.2 q)
          by_cases hjt : j < L
          · obtain ⟨g', rfl⟩ : ∃ g', gk = g' + 1 := ⟨gk - 1, by omega⟩
            have hjl : j < lr.length := by rw [← HL.out]; exact hjt
            have HAS := hid_of (all_snoc (q := fun m => decide (x ∈ m)) hjl)
            have wj : IntKind.i64.wrap ((j : Int) + 1 + 1) = (j : Int) + 1 + 1 := IntWalk.i64_in _ (by omega)
            have dj : (j : Int) + 1 < (L : Int) + 1 := by omega
            cases A with
            | false =>
              have HA2 : Hid (false = (lr.take (j + 1)).all fun m => decide (x ∈ m)) := hid_of (by rw [HAS.out, ← HA.out]; rfl)
              go_wp2_with fail
              go_quiet (fail)
              go_wp2_with fail
              go_roundg g'
              case measure => omega
              case rel => exact ⟨j + 1, false, by omega, by omega, rfl, by simp, HA2, by obtain ⟨q, e⟩ := RQ.out; exact ⟨q + nq, by rw [e, World.drewN_drewN]⟩⟩
            | true =>
              obtain ⟨g2, o2, u2, e2, c2, sl2⟩ := (HR.out _ (bel B1.out (BQ.out.mono (Nat.le_refl _)) (Nat.le_refl _))).get (j := j + 1) (l := lr[j]) (by rw [List.getElem?_cons_succ]; exact List.getElem?_eq_getElem hjl)
              cases e2
              have cxx := cx.out _ BQ.out
              have HH := hid_of fun (n : Nat) => rhas_call x (sl2.drewN n) (HLT.out _ (List.getElem_mem hjl))
              obtain ⟨ua2, uc2, rfl, _⟩ := SL.len sl2
              have HA2 : Hid (decide (x ∈ lr[j]) = (lr.take (j + 1)).all fun m => decide (x ∈ m)) := hid_of (by rw [HAS.out, ← HA.out]; simp)
              generalize lr[j].length = n2 at *
              generalize lr[j] = mm at *
              have d2 : j + 1 < L + 1 := by omega
              clear sl2
              go_wp2_with fail
              go_quiet ((go_at_call 16; exact Calls.quiet_of_same (HH.out _)))
              go_wp2_with fail
              go_roundg g'
              case measure => omega
              case rel => exact ⟨j + 1, decide (x ∈ mm), by omega, by omega, by simp, by simp, HA2, by obtain ⟨q, e⟩ := RQ.out; exact ⟨q + nq, by rw [e, World.drewN_drewN]⟩⟩
          · have HE : Hid (lr.take j = lr) := hid_of (List.take_of_length_le (by have := HL.out; omega))
            have HA2 : Hid (A = lr.all fun m => decide (x ∈ m)) := hid_of (by rw [HA.out, HE.out])
            have dj : ¬ (j : Int) + 1 < (L : Int) + 1 := by omega
            obtain ⟨hn0, nr0, bl0⟩ := R.out
            cases A with
            | false =>
              have K : Hid (rn = ((T.take (i + 1)).filter (fun x => lr.all fun m => decide (x ∈ m))).length ∧ NR w1.heap.size wr (.slice ra rn rc) ((T.take (i + 1)).filter (fun x => lr.all fun m => decide (x ∈ m))) ∧ Below w1.heap.size w1 wr) := hid_of (by
                rw [HFS.out, if_neg (by rw [← HA2.out]; simp), List.append_nil]
                obtain ⟨q, rfl⟩ := RQ.out
                exact ⟨hn0, nr0.drewN q, bdrew bl0 q⟩)
              clear hn0 nr0 bl0 R
              go_wp2_with fail
              go_roundg gO
              case measure => omega
              case rel => exact ⟨i + 1, ra, rn, rc, by omega, by omega, by omega, rfl, by simp, K⟩
            | true =>
              have nr1 : NR w1.heap.size wr (.slice ra rn rc) ((T.take i).filter (fun x => lr.all fun m => decide (x ∈ m))) := by
                obtain ⟨q, rfl⟩ := RQ.out
                exact nr0.drewN q
              obtain ⟨v3, w3, hrun, n3, b3⟩ := app_one x nr1 (by rw [← hn0]; omega) BQ.out.size 22
              have ef : (T.take (i + 1)).filter (fun x => lr.all fun m => decide (x ∈ m)) = (T.take i).filter (fun x => lr.all fun m => decide (x ∈ m)) ++ [x] := by
                rw [HFS.out, if_pos (by rw [← HA2.out])]
              rw [← ef] at n3
              obtain ⟨ra3, rc3, e3, _⟩ := n3.shape
              have hl3 : ((T.take (i + 1)).filter (fun x => lr.all fun m => decide (x ∈ m))).length = rn + 1 := by rw [ef, List.length_append, ← hn0]; rfl
              rw [hl3] at e3
              subst e3
              have K : Hid (rn + 1 = ((T.take (i + 1)).filter (fun x => lr.all fun m => decide (x ∈ m))).length ∧ NR w1.heap.size w3 (.slice ra3 (rn + 1) rc3) ((T.take (i + 1)).filter (fun x => lr.all fun m => decide (x ∈ m))) ∧ Below w1.heap.size w1 w3) := hid_of ⟨hl3.symm, n3, BQ.out.trans b3⟩
              have cxx := cx.out _ BQ.out
              clear hn0 nr0 bl0 R nr1 n3 b3 ef hl3
              simp only [V] at hrun
              generalize mk x = XX at *
              go_wp2_with (at_builtin; refine wpl_eq rfl _ _ 22 22 rfl (.slice ra rn rc) (.slice (some ⟨wr.heap.size, 0, none⟩) 1 1) (.slice ra3 (rn + 1) rc3) _ w3 rfl rfl hrun ?_; clear hrun)
              go_roundg gO
              case measure => omega
              case rel => exact ⟨i + 1, ra3, rn + 1, rc3, by omega, by omega, by omega, rfl, by simp, K⟩
      · have HE : Hid (T.take i = T) := hid_of (List.take_of_length_le (by have := HN.out; omega))
        have R2 := hid_of R.out
        clear R
        go_wp2_with fail
        go_ret
        obtain ⟨r1, r2, r3⟩ := R2.out
        rw [HE.out, HF.out] at r2
        exact ⟨_, rfl, r2.mono B1.out.size, bel B1.out r3 (Nat.le_refl _)⟩
set_option maxHeartbeats 4000000 in
set_option maxRecDepth 100000 in
theorem rdiff_call {G : Nat → Prop} {w : World} {a : Option Addr} {c : Nat} {ls : List (List El)} {us : List Value} (h : LL G w a ls us) (hc : ls.length ≤ c) (hl : ls.length ≤ 140737488355328) (hb : tot ls * 16 ≤ 140737488355328) :
    Calls Try.prog 28 #[.slice a ls.length c] w fun e w' => ∃ r, e = .returned r ∧ NR w.heap.size w' r (diff ls) ∧ Below w.heap.size w w' := by
  cases ls with
  | nil =>
    rw [List.length_nil]
    go_enter Try.func28, Try.ntmps28
    go_wp2_with fail
    go_ret
    exact ⟨_, rfl, .inl ⟨rfl, rfl⟩, Below.refl _ _⟩
  | cons l lr =>
    rw [tot_cons] at hb
    obtain ⟨g0, o0, u0, rfl, c0, sl0⟩ := h.get (j := 0) rfl
    rw [Nat.add_zero] at c0
    have HO := hid_of (rof_call sl0 (by omega))
    obtain ⟨ua, uc, rfl, _⟩ := SL.len sl0
    obtain ⟨L, HL⟩ : ∃ L, Hid (L = lr.length) := ⟨_, hid_of rfl⟩
    rw [List.length_cons, ← HL.out] at hl hc ⊢
    have HR := hid_of fun (W : World) (b : Below w.heap.size w W) => h.below b
    have HLT : Hid (∀ m ∈ lr, m.length ≤ 140737488355328) := hid_of fun m hm => by have := tot_mem hm; omega
    obtain ⟨T, hT⟩ : ∃ T, S l = T := ⟨_, rfl⟩
    have hTl : T.length * 16 ≤ 140737488355328 := by rw [← hT]; have := len_S l; omega
    rw [hT] at HO
    have HF : Hid (T.filter (fun x => lr.all fun m => decide (x ∉ m)) = diff (l :: lr)) := hid_of (by rw [← hT]; rfl)
    obtain ⟨N, HN⟩ : ∃ N, Hid (N = T.length) := ⟨_, hid_of rfl⟩
    rw [← HN.out] at hTl
    generalize l.length = n0 at *
    have g1 : ((L : Int) + 1 == 0) = false := by rw [beq_eq_false_iff_ne]; omega
    clear h sl0 hb hT
    go_enter Try.func28, Try.ntmps28
    go_wp2_with fail
    refine HO.out.mono ?_
    rintro e w1 ⟨r1, rfl, q1, b1⟩
    have S1 := hid_of q1.sl
    have B1 := hid_of b1
    obtain ⟨ra1, rc1, rfl, hrc1⟩ := q1.shape
    rw [← HN.out] at S1 hrc1 ⊢
    clear q1 b1 HO c0
    go_wp2_with fail
    go_loopg [3, 5] N (fun g s3 s5 wx => ∃ (i : Nat) (ra : Option Addr) (rn rc : Nat), i ≤ N ∧ N ≤ i + g ∧ rn ≤ i ∧ s3 = .slice ra rn rc ∧ s5 = .int .i64 (i : Int) ∧ Hid (rn = ((T.take i).filter (fun x => lr.all fun m => decide (x ∉ m))).length ∧ NR w1.heap.size wx (.slice ra rn rc) ((T.take i).filter (fun x => lr.all fun m => decide (x ∉ m))) ∧ Below w1.heap.size w1 wx))
    case atStart => exact ⟨0, none, 0, 0, by omega, by omega, by omega, rfl, rfl, hid_of ⟨by simp, .inl ⟨rfl, by simp⟩, Below.refl _ _⟩⟩
    case round =>
      obtain ⟨i, ra, rn, rc, hi, hg, hrn, rfl, rfl, R⟩ := hrel
      by_cases hlt : i < N
      · obtain ⟨gO, rfl⟩ : ∃ g', gk = g' + 1 := ⟨gk - 1, by omega⟩
        obtain ⟨W1, rfl⟩ : ∃ W1, W1 = wr := ⟨_, rfl⟩
        have hil : i < T.length := by rw [← HN.out]; exact hlt
        obtain ⟨aS, cS, eS, _, rS⟩ := S1.out
        rw [← HN.out] at eS
        cases eS
        obtain ⟨gs, os, rfl, hgs, qs⟩ := Rd.get rS.lt (by omega)
        have cx : Hid (∀ W, Below w1.heap.size w1 W → W.cell? ⟨gs, os + i, none⟩ = some (.string (mk T[i]))) := hid_of fun W b => (World.cell?_of_block (w := w1) (b.block gs hgs.2)).trans (qs i _ (List.getElem?_eq_getElem hil))
        have HFS := hid_of (filt_snoc (p := fun x => lr.all fun m => decide (x ∉ m)) hil)
        generalize T[i] = x at *
        have w2 : IntKind.i64.wrap ((i : Int) + 1) = (i : Int) + 1 := IntWalk.i64_in _ (by omega)
        clear qs rS hil
        go_wp2_with fail
        go_loopg [6, 7] L (fun g s6 s7 wx => ∃ (j : Nat) (A : Bool), j ≤ L ∧ L ≤ j + g ∧ s6 = .bool (!A) ∧ s7 = .int .i64 ((j : Int) + 1) ∧ Hid (A = (lr.take j).all fun m => decide (x ∉ m)) ∧ Hid (∃ q, wx = W1.drewN q))
        case atStart => exact ⟨0, true, by omega, by omega, rfl, rfl, hid_of (by simp), 0, rfl⟩
        case round =>
          obtain ⟨j, A, hj, hgj, rfl, rfl, HA, RQ⟩ := hrel
          have BQ : Hid (Below w1.heap.size w1 wr) := hid_of (by obtain ⟨q, rfl⟩ := RQ.out; exact bdrew R.out.2.2 q)
          by_cases hjt : j < L
          · obtain ⟨g', rfl⟩ : ∃ g', gk = g' + 1 := ⟨gk - 1, by omega⟩
            have hjl : j < lr.length := by rw [← HL.out]; exact hjt
            have HAS := hid_of (all_snoc (q := fun m => decide (x ∉ m)) hjl)
            have wj : IntKind.i64.wrap ((j : Int) + 1 + 1) = (j : Int) + 1 + 1 := IntWalk.i64_in _ (by omega)
            have dj : (j : Int) + 1 < (L : Int) + 1 := by omega
            cases A with
            | false =>
              have HA2 : Hid (false = (lr.take (j + 1)).all fun m => decide (x ∉ m)) := hid_of (by rw [HAS.out, ← HA.out]; rfl)
              rw [Bool.not_false]
              go_wp2_with fail
              go_quiet (fail)
              go_wp2_with fail
              go_roundg g'
              case measure => omega
              case rel => exact ⟨j + 1, false, by omega, by omega, rfl, by simp, HA2, by obtain ⟨q, e⟩ := RQ.out; exact ⟨q + nq, by rw [e, World.drewN_drewN]⟩⟩
            | true =>
              obtain ⟨g2, o2, u2, e2, c2, sl2⟩ := (HR.out _ (bel B1.out (BQ.out.mono (Nat.le_refl _)) (Nat.le_refl _))).get (j := j + 1) (l := lr[j]) (by rw [List.getElem?_cons_succ]; exact List.getElem?_eq_getElem hjl)
              cases e2
              have cxx := cx.out _ BQ.out
              have HH := hid_of fun (n : Nat) => rhas_call x (sl2.drewN n) (HLT.out _ (List.getElem_mem hjl))
              obtain ⟨ua2, uc2, rfl, _⟩ := SL.len sl2
              have HA2 : Hid ((!decide (x ∈ lr[j])) = (lr.take (j + 1)).all fun m => decide (x ∉ m)) := hid_of (by rw [HAS.out, ← HA.out]; simp)
              generalize lr[j].length = n2 at *
              generalize lr[j] = mm at *
              have d2 : j + 1 < L + 1 := by omega
              clear sl2
              rw [Bool.not_true]
              go_wp2_with fail
              go_quiet ((go_at_call 16; exact Calls.quiet_of_same (HH.out _)))
              go_wp2_with fail
              go_roundg g'
              case measure => omega
              case rel => exact ⟨j + 1, (!decide (x ∈ mm)), by omega, by omega, by simp, by simp, HA2, by obtain ⟨q, e⟩ := RQ.out; exact ⟨q + nq, by rw [e, World.drewN_drewN]⟩⟩
          · have HE : Hid (lr.take j = lr) := hid_of (List.take_of_length_le (by have := HL.out; omega))
            have HA2 : Hid (A = lr.all fun m => decide (x ∉ m)) := hid_of (by rw [HA.out, HE.out])
            have dj : ¬ (j : Int) + 1 < (L : Int) + 1 := by omega
            obtain ⟨hn0, nr0, bl0⟩ := R.out
            cases A with
            | false =>
              have K : Hid (rn = ((T.take (i + 1)).filter (fun x => lr.all fun m => decide (x ∉ m))).length ∧ NR w1.heap.size wr (.slice ra rn rc) ((T.take (i + 1)).filter (fun x => lr.all fun m => decide (x ∉ m))) ∧ Below w1.heap.size w1 wr) := hid_of (by
                rw [HFS.out, if_neg (by rw [← HA2.out]; simp), List.append_nil]
                obtain ⟨q, rfl⟩ := RQ.out
                exact ⟨hn0, nr0.drewN q, bdrew bl0 q⟩)
              clear hn0 nr0 bl0 R
              rw [Bool.not_false]
              go_wp2_with fail
              go_roundg gO
              case measure => omega
              case rel => exact ⟨i + 1, ra, rn, rc, by omega, by omega, by omega, rfl, by simp, K⟩
            | true =>
              have nr1 : NR w1.heap.size wr (.slice ra rn rc) ((T.take i).filter (fun x => lr.all fun m => decide (x ∉ m))) := by
                obtain ⟨q, rfl⟩ := RQ.out
                exact nr0.drewN q
              obtain ⟨v3, w3, hrun, n3, b3⟩ := app_one x nr1 (by rw [← hn0]; omega) BQ.out.size 22
              have ef : (T.take (i + 1)).filter (fun x => lr.all fun m => decide (x ∉ m)) = (T.take i).filter (fun x => lr.all fun m => decide (x ∉ m)) ++ [x] := by
                rw [HFS.out, if_pos (by rw [← HA2.out])]
              rw [← ef] at n3
              obtain ⟨ra3, rc3, e3, _⟩ := n3.shape
              have hl3 : ((T.take (i + 1)).filter (fun x => lr.all fun m => decide (x ∉ m))).length = rn + 1 := by rw [ef, List.length_append, ← hn0]; rfl
              rw [hl3] at e3
              subst e3
              have K : Hid (rn + 1 = ((T.take (i + 1)).filter (fun x => lr.all fun m => decide (x ∉ m))).length ∧ NR w1.heap.size w3 (.slice ra3 (rn + 1) rc3) ((T.take (i + 1)).filter (fun x => lr.all fun m => decide (x ∉ m))) ∧ Below w1.heap.size w1 w3) := hid_of ⟨hl3.symm, n3, BQ.out.trans b3⟩
              have cxx := cx.out _ BQ.out
              clear hn0 nr0 bl0 R nr1 n3 b3 ef hl3
              rw [Bool.not_true]
              simp only [V] at hrun
              generalize mk x = XX at *
              go_wp2_with (at_builtin; refine wpl_eq rfl _ _ 22 22 rfl (.slice ra rn rc) (.slice (some ⟨wr.heap.size, 0, none⟩) 1 1) (.slice ra3 (rn + 1) rc3) _ w3 rfl rfl hrun ?_; clear hrun)
              go_roundg gO
              case measure => omega
              case rel => exact ⟨i + 1, ra3, rn + 1, rc3, by omega, by omega, by omega, rfl, by simp, K⟩
      · have HE : Hid (T.take i = T) := hid_of (List.take_of_length_le (by have := HN.out; omega))
        have R2 := hid_of R.out
        clear R
        go_wp2_with fail
        go_ret
        obtain ⟨r1, r2, r3⟩ := R2.out
        rw [HE.out, HF.out] at r2
        exact ⟨_, rfl, r2.mono B1.out.size, bel B1.out r3 (Nat.le_refl _)⟩
end Go.Proofs.Ythhlembempknmaa.RefJ
