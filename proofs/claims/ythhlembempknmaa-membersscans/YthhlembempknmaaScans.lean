/- MembersScans, walked. -/
import Derived.Test.YthhlembempknmaaSets
import Derived.Test.YthhlembempknmaaAppF
namespace Go.Proofs.Ythhlembempknmaa.Scans
open Go.RowKit Go.Sort
open Go.Proofs.Ythhlembempknmaa.SetMath
open Go.Proofs.Ythhlembempknmaa.Base
open Go.Proofs.Ythhlembempknmaa.Small
open Go.Proofs.Ythhlembempknmaa.ROf
open Go.Proofs.Ythhlembempknmaa.Code
open Go.Proofs.Ythhlembempknmaa.After
open Go.Proofs.Ythhlembempknmaa.Awake
open Go.Proofs.Ythhlembempknmaa.Sets
open Go.Proofs.Ythhlembempknmaa.AppF
set_option linter.unusedVariables false
set_option linter.unusedSimpArgs false
theorem nil_lt {x : Bs} (h : x ≠ []) : ([] : Bs) < x := by
  cases x with
  | nil => exact absurd rfl h
  | cons a r => simp
theorem first_none {T : List Bs} (h : T[0]? ≠ some []) (hr : Ris T) : T.filter (fun x => decide ([] < x)) = T.drop 0 := by
  rw [List.drop_zero]
  refine List.filter_eq_self.2 fun x hx => decide_eq_true (nil_lt fun e => ?_)
  subst e
  cases T with
  | nil => cases hx
  | cons a r =>
    rcases List.mem_cons.1 hx with e | hx
    · exact h (by rw [← e]; rfl)
    · have := hr.head _ hx
      exact absurd this (by simp)
theorem first_one {T : List Bs} (h : T[0]? = some []) (hr : Ris T) : T.filter (fun x => decide ([] < x)) = T.drop 1 := by
  cases T with
  | nil => cases h
  | cons a r =>
    simp at h
    subst h
    rw [List.filter_cons, if_neg (by simp)]
    exact List.filter_eq_self.2 fun x hx => decide_eq_true (hr.head x hx)
theorem next_drop {T : List Bs} (hr : Ris T) {j : Nat} (h : j < T.length) : T.filter (fun x => decide (T[j] < x)) = T.drop (j + 1) := by
  have e : T = T.take (j + 1) ++ T.drop (j + 1) := (List.take_append_drop _ _).symm
  have h1 : (T.take (j + 1)).filter (fun x => decide (T[j] < x)) = [] := List.filter_eq_nil_iff.2 fun x hx => by
    obtain ⟨i, hi, rfl⟩ := List.getElem_of_mem hx
    rw [List.length_take] at hi
    rw [List.getElem_take]
    simp only [decide_eq_true_eq]
    rcases Nat.lt_or_eq_of_le (show i ≤ j by omega) with q | q
    · exact lt_not (ris_at hr q h)
    · subst q; exact List.lt_irrefl _
  have h2 : (T.drop (j + 1)).filter (fun x => decide (T[j] < x)) = T.drop (j + 1) := List.filter_eq_self.2 fun x hx => by
    obtain ⟨i, hi, rfl⟩ := List.getElem_of_mem hx
    rw [List.length_drop] at hi
    rw [List.getElem_drop]
    exact decide_eq_true (ris_at hr (by omega) (by omega))
  have h3 : (T.take (j + 1) ++ T.drop (j + 1)).filter (fun x => decide (T[j] < x)) = T.drop (j + 1) := by rw [List.filter_append, h1, h2, List.nil_append]
  rwa [← e] at h3
theorem aft_eq {l T : List Bs} (hT : S l = T) {x : Bs} {k : Nat} (h : T.filter (fun y => decide (x < y)) = T.drop k) (q : Nat) : aft l x q = (T.drop k).take q := by
  unfold aft beh
  rw [hT, h]
/-- how far a scan has come: k of the set T, the last one x -/
structure Sc (l T : List Bs) (k : Nat) (x : Bs) : Prop where
  le : k ≤ T.length
  eq : T.filter (fun y => decide (x < y)) = T.drop k
theorem Sc.next {l T : List Bs} (hr : Ris T) {k q : Nat} {x : Bs} (h : Sc l T k x) (hn : 0 < ((T.drop k).take q).length) : ∃ y, ((T.drop k).take q)[((T.drop k).take q).length - 1]? = some y ∧ Sc l T (k + ((T.drop k).take q).length) y ∧ T.take k ++ (T.drop k).take q = T.take (k + ((T.drop k).take q).length) := by
  have hl : ((T.drop k).take q).length ≤ T.length - k := by rw [List.length_take, List.length_drop]; omega
  obtain ⟨m, hm⟩ : ∃ m, m = ((T.drop k).take q).length := ⟨_, rfl⟩
  rw [← hm] at hn hl ⊢
  have hi : k + (m - 1) < T.length := by omega
  have hlen : m ≤ q := by rw [hm, List.length_take]; omega
  have e1 : ((T.drop k).take q)[m - 1]? = some T[k + (m - 1)] := by
    rw [List.getElem?_take, if_pos (by omega), List.getElem?_drop, List.getElem?_eq_getElem hi]
  refine ⟨_, e1, ⟨by omega, ?_⟩, ?_⟩
  · rw [next_drop hr hi]
    congr 1
    omega
  · rw [List.take_add]
    congr 1
    rcases Nat.lt_or_ge (T.drop k).length q with z | z
    · have : m = (T.drop k).length := by rw [hm, List.length_take]; omega
      rw [List.take_of_length_le (by omega), List.take_of_length_le (by omega)]
    · have : m = q := by rw [hm, List.length_take]; omega
      rw [this]
set_option maxHeartbeats 8000000 in
set_option maxRecDepth 100000 in
theorem scans_call {G : Nat → Prop} {w : World} {v : Value} {l : List El} (most : Int) (h : SL G w v l) (hb : l.length * 16 ≤ 140737488355328) :
    Calls Try.prog 8 #[v, .int .i64 most] w fun e w' => e = .returned (.bool true) ∧ Below w.heap.size w w' := by
  have HA := hid_of (awake_call w)
  have HO := hid_of fun (W : World) (o : On w W) => rof_call (h.below o.bl) hb
  have HF := hid_of fun (W : World) (o : On w W) (x : Bs) (q : Int) => after_call x q (h.below o.bl) hb
  obtain ⟨T, hT⟩ : ∃ T, S l = T := ⟨_, rfl⟩
  have hr : Ris T := hT ▸ ris_S l
  have hTl : T.length * 16 ≤ 140737488355328 := by rw [← hT]; have := len_S l; omega
  obtain ⟨a, c, rfl, _⟩ := SL.len h
  obtain ⟨n, HN⟩ : ∃ n, Hid (n = l.length) := ⟨_, hid_of rfl⟩
  rw [← HN.out] at HO HF ⊢
  rw [hT] at HO
  have HT := hid_of hT
  have HR := hid_of hr
  obtain ⟨N, HNN⟩ : ∃ N, Hid (N = T.length) := ⟨_, hid_of rfl⟩
  rw [← HNN.out] at hTl
  clear h hT hr hb
  by_cases hmost : most < 1
  · go_enter Try.func8, Try.ntmps8
    go_wp2_with fail
    refine HA.out.mono ?_
    rintro e w1 ⟨rfl, k1⟩
    have O1 := hid_of (⟨k1⟩ : On w w1)
    have HO1 := hid_of (HO.out w1 O1.out)
    clear k1 HA HO
    go_wp2_with fail
    refine HO1.out.mono ?_
    rintro e w2 ⟨r2, rfl, q2, k2⟩
    have O2 := hid_of (O1.out.go k2)
    have Q2 := hid_of q2.sl
    have NR2 := hid_of q2
    obtain ⟨ra2, rc2, rfl, hrc2⟩ := q2.shape
    rw [← HNN.out] at Q2 NR2 hrc2 ⊢
    clear q2 k2 HO1
    by_cases h0 : T[0]? = some []
    · have hN0 : 0 < N := by
        rw [HNN.out]
        exact (List.getElem?_eq_some_iff.1 h0).1
      obtain ⟨g0, o0, e0, _, qc⟩ : ∃ g o, ra2 = some ⟨g, o, none⟩ ∧ w1.heap.size ≤ g ∧ ∀ j x, T[j]? = some x → w2.cell? ⟨g, o + j, none⟩ = some (V x) := by
        obtain ⟨a', c', e', _, rd⟩ := Q2.out
        cases e'
        exact Rd.get rd (by rw [← HNN.out]; exact hN0)
      subst e0
      have c0 : w2.cell? ⟨g0, o0, none⟩ = some (.string ⟨#[]⟩) := by
        have := qc 0 [] h0
        rw [Nat.add_zero] at this
        exact this
      have hz : ((⟨#[]⟩ : ByteArray).toList == (⟨#[]⟩ : ByteArray).toList) = true := by kernel_rfl
      obtain ⟨v3, w3, hrun, n3, b3⟩ := app_one (B := w2.heap.size) (w := w2) (v := .slice none 0 0) (l := []) [] (.inl ⟨rfl, rfl⟩) (by simp) (Nat.le_refl _) 22
      rw [List.nil_append] at n3
      obtain ⟨ra3, rc3, rfl, _⟩ := n3.shape
      have e3 : ([[]] : List El).length = 1 := rfl
      rw [e3] at n3 hrun
      have hV : mk [] = (⟨#[]⟩ : ByteArray) := rfl
      simp only [V, hV] at hrun
      have K0 : Hid (NR w2.heap.size w3 (.slice ra3 1 rc3) (T.take 1) ∧ Sc l T 1 [] ∧ Below w2.heap.size w2 w3) := hid_of ⟨by
        have : T.take 1 = [[]] := by
          cases hTT : T with
          | nil => rw [hTT] at h0; cases h0
          | cons x r => rw [hTT] at h0; simp at h0; simp [h0]
        rw [this]
        exact n3, ⟨by rw [← HNN.out]; omega, first_one h0 HR.out⟩, b3⟩
      clear h0 qc n3 b3 e3 hV
      have d0 : (0 : Int) < (N : Int) := by omega
      go_wp2_with (at_builtin; refine wpl_eq rfl _ _ 22 22 rfl (.slice none 0 0) (.slice (some ⟨w2.heap.size, 0, none⟩) 1 1) (.slice ra3 1 rc3) _ w3 rfl rfl hrun ?_; clear hrun)
      have hk0 : (1 : Nat) ≤ N := hN0
      go_loopg [6, 7, 8] N (fun g s6 s7 s8 wx => ∃ (i k : Nat) (x : Bs) (ra : Option Addr) (rc : Nat), i ≤ k ∧ k ≤ N ∧ N ≤ k + g ∧ s6 = .slice ra k rc ∧ s7 = .string (mk x) ∧ s8 = .int .i64 (i : Int) ∧ Hid (NR w2.heap.size wx (.slice ra k rc) (T.take k) ∧ Sc l T k x ∧ Below w2.heap.size w2 wx))
      case atStart => exact ⟨0, 1, [], ra3, rc3, by omega, by omega, by omega, rfl, rfl, rfl, K0⟩
      case round =>
        clear K0
        obtain ⟨i, k, x, ra, rc, hik, hk, hg, rfl, rfl, rfl, R⟩ := hrel
        obtain ⟨nr, sc, bl⟩ := R.out
        have OW := hid_of (O2.out.go bl)
        have HF1 := hid_of (HF.out wr OW.out x 1)
        rw [aft_eq HT.out sc.eq] at HF1
        obtain ⟨X, hX⟩ : ∃ X, mk x = X := ⟨_, rfl⟩
        simp only [V] at HF1
        rw [hX] at HF1 ⊢
        have hlen : ((T.drop k).take (1 : Int).toNat).length ≤ N - k ∧ (((T.drop k).take (1 : Int).toNat).length : Int) ≤ 1 := by
          rw [List.length_take, List.length_drop, ← HNN.out]
          omega
        have hempty : ((T.drop k).take (1 : Int).toNat).length = 0 → k = N := by
          rw [List.length_take, List.length_drop, ← HNN.out]
          omega
        have HSN := hid_of (Sc.next HR.out (q := (1 : Int).toNat) sc)
        have hW2 : IntKind.i64.wrap ((i : Int) + 1) = (i : Int) + 1 := IntWalk.i64_in _ (by omega)
        have di : (i : Int) ≤ (N : Int) := by omega
        have NRk := hid_of nr
        have BLk := hid_of bl
        have HGN : Hid (∀ q, wr.heap.size ≤ q → ∀ g n' c', Value.slice ra k rc = .slice (some ⟨g, 0, none⟩) n' c' → q ≠ g) := hid_of fun q hq g n' c' e => by
          rcases nr with ⟨e2, _⟩ | ⟨g2, c2, cur, e2, _, hh, _⟩
          · rw [e2] at e; cases e
          · rw [e2] at e
            cases e
            have := lt_of hh
            omega
        clear nr bl sc R hX
        go_wp2_with fail
        refine HF1.out.mono ?_
        rintro e w4 ⟨r4, rfl, q4, k4⟩
        have B4 := hid_of (bel BLk.out k4 (Nat.le_refl _))
        have N4 := hid_of (NRk.out.below k4)
        have S4 := hid_of q4.sl
        obtain ⟨ra4, rc4, rfl, hrc4⟩ := q4.shape
        clear q4 k4 HF1
        obtain ⟨nx, hnx⟩ : ∃ nx, (T.drop k).take (1 : Int).toNat = nx := ⟨_, rfl⟩
        rw [hnx] at hlen hempty HSN S4 hrc4 ⊢
        obtain ⟨m, HM⟩ : ∃ m, Hid (m = nx.length) := ⟨_, hid_of rfl⟩
        rw [← HM.out] at hlen hempty hrc4 HSN S4 ⊢
        obtain ⟨hl1, hl2⟩ := hlen
        clear hnx
        by_cases hm0 : m = 0
        · have hkN := hempty hm0
          have HE : Hid (T.take k = T) := hid_of (List.take_of_length_le (by rw [← HNN.out]; omega))
          have HSm := hid_of (same_true N4.out.sl (Q2.out.below B4.out) HE.out (by rw [HE.out, ← HNN.out]; omega))
          have g0 : ((m : Int) == 0) = true := by rw [hm0]; rfl
          have hm2 : ¬ ((1 : Int) < (m : Int)) := by omega
          clear hempty HSN hkN hm0
          go_wp2_with fail
          refine HSm.out.mono ?_
          rintro e w5 ⟨rfl, m5, hw5⟩
          have K : Hid (Below w.heap.size w w5) := hid_of (by rw [hw5]; exact bdrew (bel O2.out.bl B4.out (Nat.le_refl _)) m5)
          clear hw5 HSm
          go_wp2_with fail
          go_ret
          exact ⟨rfl, K.out⟩
        · have hmp : 0 < m := by omega
          obtain ⟨y, hy, scy, htk⟩ := HSN.out hmp
          obtain ⟨ua, uc, eu, _, rd⟩ := S4.out
          rw [← HM.out] at eu
          cases eu
          obtain ⟨g4, o4, rfl, hg4, qc⟩ := Rd.get rd (by rw [← HM.out]; exact hmp)
          obtain ⟨p, rfl⟩ : ∃ p, m = p + 1 := ⟨m - 1, by omega⟩
          have cy : w4.cell? ⟨g4, o4 + p, none⟩ = some (.string (mk y)) := qc p y (by rw [← hy]; congr 1)
          have wpp : IntKind.i64.wrap ((p : Int) + 1 - 1) = (p : Int) := by rw [show (p : Int) + 1 - 1 = (p : Int) by omega]; exact IntWalk.i64_in _ (by omega)
          have gp0 : (((p : Int) + 1) == 0) = false := by rw [beq_eq_false_iff_ne]; omega
          have gp1 : ¬ ((1 : Int) < (p : Int) + 1) := by omega
          have gp2 : p < p + 1 := by omega
          obtain ⟨v5, w5, hrun, n5, b5, f5⟩ := app_fr (c := rc4) N4.out rd (.inl (by rw [List.length_take, ← HNN.out, ← HM.out]; omega)) B4.out.size 22
          rw [← HM.out] at hrun
          rw [htk] at n5
          obtain ⟨ra5, rc5, e5, _⟩ := n5.shape
          have hl5 : (T.take (k + (p + 1))).length = k + (p + 1) := by rw [List.length_take, ← HNN.out]; omega
          rw [hl5] at e5
          subst e5
          have HSC := hid_of scy
          have K : Hid (NR w2.heap.size w5 (.slice ra5 (k + (p + 1)) rc5) (T.take (k + (p + 1))) ∧ Sc l T (k + (p + 1)) y ∧ Below w2.heap.size w2 w5) := hid_of ⟨n5, scy, B4.out.trans b5⟩
          have cy5 : w5.cell? ⟨g4, o4 + p, none⟩ = some (.string (mk y)) := (World.cell?_of_block (w := w4) (f5 g4 (cell_lt cy) (fun g n' c' e => HGN.out g4 hg4 g n' c' e))).trans cy
          clear n5 b5 f5 hg4 rd qc hy scy htk hl5 N4 S4 B4 NRk BLk HSN hempty
          obtain ⟨g', rfl⟩ : ∃ g', gk = g' + 1 := ⟨gk - 1, by omega⟩
          go_wp2_with (at_builtin; refine wpl_eq rfl _ _ 22 22 rfl (.slice ra k rc) (.slice (some ⟨g4, o4, none⟩) (p + 1) rc4) (.slice ra5 (k + (p + 1)) rc5) _ w5 rfl rfl hrun ?_; clear hrun)
          go_roundg g'
          case measure => omega
          case rel => exact ⟨i + 1, k + (p + 1), y, ra5, rc5, by omega, by omega, by omega, rfl, rfl, by simp, K⟩
    · have K0 : Hid (NR w2.heap.size w2 (.slice none 0 0) (T.take 0) ∧ Sc l T 0 [] ∧ Below w2.heap.size w2 w2) := hid_of ⟨.inl ⟨rfl, by simp⟩, ⟨by omega, first_none h0 HR.out⟩, Below.refl _ _⟩
      have hcs : N = 0 ∨ ∃ g0 o0 y, 0 < N ∧ ra2 = some ⟨g0, o0, none⟩ ∧ w2.cell? ⟨g0, o0, none⟩ = some (.string (mk y)) ∧ y ≠ [] := by
        rcases Nat.eq_zero_or_pos N with z | z
        · exact .inl z
        · obtain ⟨a', c', e', _, rd⟩ := Q2.out
          cases e'
          obtain ⟨g, o, e, _, q⟩ := Rd.get rd (by rw [← HNN.out]; exact z)
          have hl : 0 < T.length := by rw [← HNN.out]; exact z
          have h1 := q 0 T[0] (List.getElem?_eq_getElem hl)
          rw [Nat.add_zero] at h1
          exact .inr ⟨g, o, T[0], z, e, h1, fun e => h0 (by rw [List.getElem?_eq_getElem hl, e])⟩
      have hk0 : (0 : Nat) ≤ N := Nat.zero_le _
      rcases hcs with z | ⟨g0, o0, y, z, e0, c0, hy⟩
      rotate_left
      · subst e0
        have hz : ((mk y).toList == (⟨#[]⟩ : ByteArray).toList) = false := by
          have := str_eq y []
          rw [decide_eq_false hy] at this
          exact this
        have hz2 : (mk y).toList.isEmpty = false := by
          rw [mk_list]
          cases y with
          | nil => exact absurd rfl hy
          | cons => rfl
        clear h0 hy
        generalize mk y = Y at *
        have d0 : (0 : Int) < (N : Int) := by omega
        go_wp2_with fail
        go_loopg [6, 7, 8] N (fun g s6 s7 s8 wx => ∃ (i k : Nat) (x : Bs) (ra : Option Addr) (rc : Nat), i ≤ k ∧ k ≤ N ∧ N ≤ k + g ∧ s6 = .slice ra k rc ∧ s7 = .string (mk x) ∧ s8 = .int .i64 (i : Int) ∧ Hid (NR w2.heap.size wx (.slice ra k rc) (T.take k) ∧ Sc l T k x ∧ Below w2.heap.size w2 wx))
        case atStart => exact ⟨0, 0, [], none, 0, by omega, by omega, by omega, rfl, rfl, rfl, K0⟩
        case round =>
          clear K0
          obtain ⟨i, k, x, ra, rc, hik, hk, hg, rfl, rfl, rfl, R⟩ := hrel
          obtain ⟨nr, sc, bl⟩ := R.out
          have OW := hid_of (O2.out.go bl)
          have HF1 := hid_of (HF.out wr OW.out x 1)
          rw [aft_eq HT.out sc.eq] at HF1
          obtain ⟨X, hX⟩ : ∃ X, mk x = X := ⟨_, rfl⟩
          simp only [V] at HF1
          rw [hX] at HF1 ⊢
          have hlen : ((T.drop k).take (1 : Int).toNat).length ≤ N - k ∧ (((T.drop k).take (1 : Int).toNat).length : Int) ≤ 1 := by
            rw [List.length_take, List.length_drop, ← HNN.out]
            omega
          have hempty : ((T.drop k).take (1 : Int).toNat).length = 0 → k = N := by
            rw [List.length_take, List.length_drop, ← HNN.out]
            omega
          have HSN := hid_of (Sc.next HR.out (q := (1 : Int).toNat) sc)
          have hW2 : IntKind.i64.wrap ((i : Int) + 1) = (i : Int) + 1 := IntWalk.i64_in _ (by omega)
          have di : (i : Int) ≤ (N : Int) := by omega
          have NRk := hid_of nr
          have BLk := hid_of bl
          have HGN : Hid (∀ q, wr.heap.size ≤ q → ∀ g n' c', Value.slice ra k rc = .slice (some ⟨g, 0, none⟩) n' c' → q ≠ g) := hid_of fun q hq g n' c' e => by
            rcases nr with ⟨e2, _⟩ | ⟨g2, c2, cur, e2, _, hh, _⟩
            · rw [e2] at e; cases e
            · rw [e2] at e
              cases e
              have := lt_of hh
              omega
          clear nr bl sc R hX
          go_wp2_with fail
          refine HF1.out.mono ?_
          rintro e w4 ⟨r4, rfl, q4, k4⟩
          have B4 := hid_of (bel BLk.out k4 (Nat.le_refl _))
          have N4 := hid_of (NRk.out.below k4)
          have S4 := hid_of q4.sl
          obtain ⟨ra4, rc4, rfl, hrc4⟩ := q4.shape
          clear q4 k4 HF1
          obtain ⟨nx, hnx⟩ : ∃ nx, (T.drop k).take (1 : Int).toNat = nx := ⟨_, rfl⟩
          rw [hnx] at hlen hempty HSN S4 hrc4 ⊢
          obtain ⟨m, HM⟩ : ∃ m, Hid (m = nx.length) := ⟨_, hid_of rfl⟩
          rw [← HM.out] at hlen hempty hrc4 HSN S4 ⊢
          obtain ⟨hl1, hl2⟩ := hlen
          clear hnx
          by_cases hm0 : m = 0
          · have hkN := hempty hm0
            have HE : Hid (T.take k = T) := hid_of (List.take_of_length_le (by rw [← HNN.out]; omega))
            have HSm := hid_of (same_true N4.out.sl (Q2.out.below B4.out) HE.out (by rw [HE.out, ← HNN.out]; omega))
            have g0 : ((m : Int) == 0) = true := by rw [hm0]; rfl
            have hm2 : ¬ ((1 : Int) < (m : Int)) := by omega
            clear hempty HSN hkN hm0
            go_wp2_with fail
            refine HSm.out.mono ?_
            rintro e w5 ⟨rfl, m5, hw5⟩
            have K : Hid (Below w.heap.size w w5) := hid_of (by rw [hw5]; exact bdrew (bel O2.out.bl B4.out (Nat.le_refl _)) m5)
            clear hw5 HSm
            go_wp2_with fail
            go_ret
            exact ⟨rfl, K.out⟩
          · have hmp : 0 < m := by omega
            obtain ⟨y, hy, scy, htk⟩ := HSN.out hmp
            obtain ⟨ua, uc, eu, _, rd⟩ := S4.out
            rw [← HM.out] at eu
            cases eu
            obtain ⟨g4, o4, rfl, hg4, qc⟩ := Rd.get rd (by rw [← HM.out]; exact hmp)
            obtain ⟨p, rfl⟩ : ∃ p, m = p + 1 := ⟨m - 1, by omega⟩
            have cy : w4.cell? ⟨g4, o4 + p, none⟩ = some (.string (mk y)) := qc p y (by rw [← hy]; congr 1)
            have wpp : IntKind.i64.wrap ((p : Int) + 1 - 1) = (p : Int) := by rw [show (p : Int) + 1 - 1 = (p : Int) by omega]; exact IntWalk.i64_in _ (by omega)
            have gp0 : (((p : Int) + 1) == 0) = false := by rw [beq_eq_false_iff_ne]; omega
            have gp1 : ¬ ((1 : Int) < (p : Int) + 1) := by omega
            have gp2 : p < p + 1 := by omega
            obtain ⟨v5, w5, hrun, n5, b5, f5⟩ := app_fr (c := rc4) N4.out rd (.inl (by rw [List.length_take, ← HNN.out, ← HM.out]; omega)) B4.out.size 22
            rw [← HM.out] at hrun
            rw [htk] at n5
            obtain ⟨ra5, rc5, e5, _⟩ := n5.shape
            have hl5 : (T.take (k + (p + 1))).length = k + (p + 1) := by rw [List.length_take, ← HNN.out]; omega
            rw [hl5] at e5
            subst e5
            have HSC := hid_of scy
            have K : Hid (NR w2.heap.size w5 (.slice ra5 (k + (p + 1)) rc5) (T.take (k + (p + 1))) ∧ Sc l T (k + (p + 1)) y ∧ Below w2.heap.size w2 w5) := hid_of ⟨n5, scy, B4.out.trans b5⟩
            have cy5 : w5.cell? ⟨g4, o4 + p, none⟩ = some (.string (mk y)) := (World.cell?_of_block (w := w4) (f5 g4 (cell_lt cy) (fun g n' c' e => HGN.out g4 hg4 g n' c' e))).trans cy
            clear n5 b5 f5 hg4 rd qc hy scy htk hl5 N4 S4 B4 NRk BLk HSN hempty
            obtain ⟨g', rfl⟩ : ∃ g', gk = g' + 1 := ⟨gk - 1, by omega⟩
            go_wp2_with (at_builtin; refine wpl_eq rfl _ _ 22 22 rfl (.slice ra k rc) (.slice (some ⟨g4, o4, none⟩) (p + 1) rc4) (.slice ra5 (k + (p + 1)) rc5) _ w5 rfl rfl hrun ?_; clear hrun)
            go_roundg g'
            case measure => omega
            case rel => exact ⟨i + 1, k + (p + 1), y, ra5, rc5, by omega, by omega, by omega, rfl, rfl, by simp, K⟩
      · have hN2 : ¬ 0 < N := by omega
        clear z h0
        go_wp2_with fail
        go_loopg [6, 7, 8] N (fun g s6 s7 s8 wx => ∃ (i k : Nat) (x : Bs) (ra : Option Addr) (rc : Nat), i ≤ k ∧ k ≤ N ∧ N ≤ k + g ∧ s6 = .slice ra k rc ∧ s7 = .string (mk x) ∧ s8 = .int .i64 (i : Int) ∧ Hid (NR w2.heap.size wx (.slice ra k rc) (T.take k) ∧ Sc l T k x ∧ Below w2.heap.size w2 wx))
        case atStart => exact ⟨0, 0, [], none, 0, by omega, by omega, by omega, rfl, rfl, rfl, K0⟩
        case round =>
          clear K0
          obtain ⟨i, k, x, ra, rc, hik, hk, hg, rfl, rfl, rfl, R⟩ := hrel
          obtain ⟨nr, sc, bl⟩ := R.out
          have OW := hid_of (O2.out.go bl)
          have HF1 := hid_of (HF.out wr OW.out x 1)
          rw [aft_eq HT.out sc.eq] at HF1
          obtain ⟨X, hX⟩ : ∃ X, mk x = X := ⟨_, rfl⟩
          simp only [V] at HF1
          rw [hX] at HF1 ⊢
          have hlen : ((T.drop k).take (1 : Int).toNat).length ≤ N - k ∧ (((T.drop k).take (1 : Int).toNat).length : Int) ≤ 1 := by
            rw [List.length_take, List.length_drop, ← HNN.out]
            omega
          have hempty : ((T.drop k).take (1 : Int).toNat).length = 0 → k = N := by
            rw [List.length_take, List.length_drop, ← HNN.out]
            omega
          have HSN := hid_of (Sc.next HR.out (q := (1 : Int).toNat) sc)
          have hW2 : IntKind.i64.wrap ((i : Int) + 1) = (i : Int) + 1 := IntWalk.i64_in _ (by omega)
          have di : (i : Int) ≤ (N : Int) := by omega
          have NRk := hid_of nr
          have BLk := hid_of bl
          have HGN : Hid (∀ q, wr.heap.size ≤ q → ∀ g n' c', Value.slice ra k rc = .slice (some ⟨g, 0, none⟩) n' c' → q ≠ g) := hid_of fun q hq g n' c' e => by
            rcases nr with ⟨e2, _⟩ | ⟨g2, c2, cur, e2, _, hh, _⟩
            · rw [e2] at e; cases e
            · rw [e2] at e
              cases e
              have := lt_of hh
              omega
          clear nr bl sc R hX
          go_wp2_with fail
          refine HF1.out.mono ?_
          rintro e w4 ⟨r4, rfl, q4, k4⟩
          have B4 := hid_of (bel BLk.out k4 (Nat.le_refl _))
          have N4 := hid_of (NRk.out.below k4)
          have S4 := hid_of q4.sl
          obtain ⟨ra4, rc4, rfl, hrc4⟩ := q4.shape
          clear q4 k4 HF1
          obtain ⟨nx, hnx⟩ : ∃ nx, (T.drop k).take (1 : Int).toNat = nx := ⟨_, rfl⟩
          rw [hnx] at hlen hempty HSN S4 hrc4 ⊢
          obtain ⟨m, HM⟩ : ∃ m, Hid (m = nx.length) := ⟨_, hid_of rfl⟩
          rw [← HM.out] at hlen hempty hrc4 HSN S4 ⊢
          obtain ⟨hl1, hl2⟩ := hlen
          clear hnx
          by_cases hm0 : m = 0
          · have hkN := hempty hm0
            have HE : Hid (T.take k = T) := hid_of (List.take_of_length_le (by rw [← HNN.out]; omega))
            have HSm := hid_of (same_true N4.out.sl (Q2.out.below B4.out) HE.out (by rw [HE.out, ← HNN.out]; omega))
            have g0 : ((m : Int) == 0) = true := by rw [hm0]; rfl
            have hm2 : ¬ ((1 : Int) < (m : Int)) := by omega
            clear hempty HSN hkN hm0
            go_wp2_with fail
            refine HSm.out.mono ?_
            rintro e w5 ⟨rfl, m5, hw5⟩
            have K : Hid (Below w.heap.size w w5) := hid_of (by rw [hw5]; exact bdrew (bel O2.out.bl B4.out (Nat.le_refl _)) m5)
            clear hw5 HSm
            go_wp2_with fail
            go_ret
            exact ⟨rfl, K.out⟩
          · exact absurd hm0 (by omega)
  · go_enter Try.func8, Try.ntmps8
    go_wp2_with fail
    refine HA.out.mono ?_
    rintro e w1 ⟨rfl, k1⟩
    have O1 := hid_of (⟨k1⟩ : On w w1)
    have HO1 := hid_of (HO.out w1 O1.out)
    clear k1 HA HO
    go_wp2_with fail
    refine HO1.out.mono ?_
    rintro e w2 ⟨r2, rfl, q2, k2⟩
    have O2 := hid_of (O1.out.go k2)
    have Q2 := hid_of q2.sl
    have NR2 := hid_of q2
    obtain ⟨ra2, rc2, rfl, hrc2⟩ := q2.shape
    rw [← HNN.out] at Q2 NR2 hrc2 ⊢
    clear q2 k2 HO1
    by_cases h0 : T[0]? = some []
    · have hN0 : 0 < N := by
        rw [HNN.out]
        exact (List.getElem?_eq_some_iff.1 h0).1
      obtain ⟨g0, o0, e0, _, qc⟩ : ∃ g o, ra2 = some ⟨g, o, none⟩ ∧ w1.heap.size ≤ g ∧ ∀ j x, T[j]? = some x → w2.cell? ⟨g, o + j, none⟩ = some (V x) := by
        obtain ⟨a', c', e', _, rd⟩ := Q2.out
        cases e'
        exact Rd.get rd (by rw [← HNN.out]; exact hN0)
      subst e0
      have c0 : w2.cell? ⟨g0, o0, none⟩ = some (.string ⟨#[]⟩) := by
        have := qc 0 [] h0
        rw [Nat.add_zero] at this
        exact this
      have hz : ((⟨#[]⟩ : ByteArray).toList == (⟨#[]⟩ : ByteArray).toList) = true := by kernel_rfl
      obtain ⟨v3, w3, hrun, n3, b3⟩ := app_one (B := w2.heap.size) (w := w2) (v := .slice none 0 0) (l := []) [] (.inl ⟨rfl, rfl⟩) (by simp) (Nat.le_refl _) 22
      rw [List.nil_append] at n3
      obtain ⟨ra3, rc3, rfl, _⟩ := n3.shape
      have e3 : ([[]] : List El).length = 1 := rfl
      rw [e3] at n3 hrun
      have hV : mk [] = (⟨#[]⟩ : ByteArray) := rfl
      simp only [V, hV] at hrun
      have K0 : Hid (NR w2.heap.size w3 (.slice ra3 1 rc3) (T.take 1) ∧ Sc l T 1 [] ∧ Below w2.heap.size w2 w3) := hid_of ⟨by
        have : T.take 1 = [[]] := by
          cases hTT : T with
          | nil => rw [hTT] at h0; cases h0
          | cons x r => rw [hTT] at h0; simp at h0; simp [h0]
        rw [this]
        exact n3, ⟨by rw [← HNN.out]; omega, first_one h0 HR.out⟩, b3⟩
      clear h0 qc n3 b3 e3 hV
      have d0 : (0 : Int) < (N : Int) := by omega
      go_wp2_with (at_builtin; refine wpl_eq rfl _ _ 22 22 rfl (.slice none 0 0) (.slice (some ⟨w2.heap.size, 0, none⟩) 1 1) (.slice ra3 1 rc3) _ w3 rfl rfl hrun ?_; clear hrun)
      have hk0 : (1 : Nat) ≤ N := hN0
      go_loopg [6, 7, 8] N (fun g s6 s7 s8 wx => ∃ (i k : Nat) (x : Bs) (ra : Option Addr) (rc : Nat), i ≤ k ∧ k ≤ N ∧ N ≤ k + g ∧ s6 = .slice ra k rc ∧ s7 = .string (mk x) ∧ s8 = .int .i64 (i : Int) ∧ Hid (NR w2.heap.size wx (.slice ra k rc) (T.take k) ∧ Sc l T k x ∧ Below w2.heap.size w2 wx))
      case atStart => exact ⟨0, 1, [], ra3, rc3, by omega, by omega, by omega, rfl, rfl, rfl, K0⟩
      case round =>
        clear K0
        obtain ⟨i, k, x, ra, rc, hik, hk, hg, rfl, rfl, rfl, R⟩ := hrel
        obtain ⟨nr, sc, bl⟩ := R.out
        have OW := hid_of (O2.out.go bl)
        have HF1 := hid_of (HF.out wr OW.out x most)
        rw [aft_eq HT.out sc.eq] at HF1
        obtain ⟨X, hX⟩ : ∃ X, mk x = X := ⟨_, rfl⟩
        simp only [V] at HF1
        rw [hX] at HF1 ⊢
        have hlen : ((T.drop k).take (most : Int).toNat).length ≤ N - k ∧ (((T.drop k).take (most : Int).toNat).length : Int) ≤ most := by
          rw [List.length_take, List.length_drop, ← HNN.out]
          omega
        have hempty : ((T.drop k).take (most : Int).toNat).length = 0 → k = N := by
          rw [List.length_take, List.length_drop, ← HNN.out]
          omega
        have HSN := hid_of (Sc.next HR.out (q := (most : Int).toNat) sc)
        have hW2 : IntKind.i64.wrap ((i : Int) + 1) = (i : Int) + 1 := IntWalk.i64_in _ (by omega)
        have di : (i : Int) ≤ (N : Int) := by omega
        have NRk := hid_of nr
        have BLk := hid_of bl
        have HGN : Hid (∀ q, wr.heap.size ≤ q → ∀ g n' c', Value.slice ra k rc = .slice (some ⟨g, 0, none⟩) n' c' → q ≠ g) := hid_of fun q hq g n' c' e => by
          rcases nr with ⟨e2, _⟩ | ⟨g2, c2, cur, e2, _, hh, _⟩
          · rw [e2] at e; cases e
          · rw [e2] at e
            cases e
            have := lt_of hh
            omega
        clear nr bl sc R hX
        go_wp2_with fail
        refine HF1.out.mono ?_
        rintro e w4 ⟨r4, rfl, q4, k4⟩
        have B4 := hid_of (bel BLk.out k4 (Nat.le_refl _))
        have N4 := hid_of (NRk.out.below k4)
        have S4 := hid_of q4.sl
        obtain ⟨ra4, rc4, rfl, hrc4⟩ := q4.shape
        clear q4 k4 HF1
        obtain ⟨nx, hnx⟩ : ∃ nx, (T.drop k).take (most : Int).toNat = nx := ⟨_, rfl⟩
        rw [hnx] at hlen hempty HSN S4 hrc4 ⊢
        obtain ⟨m, HM⟩ : ∃ m, Hid (m = nx.length) := ⟨_, hid_of rfl⟩
        rw [← HM.out] at hlen hempty hrc4 HSN S4 ⊢
        obtain ⟨hl1, hl2⟩ := hlen
        clear hnx
        by_cases hm0 : m = 0
        · have hkN := hempty hm0
          have HE : Hid (T.take k = T) := hid_of (List.take_of_length_le (by rw [← HNN.out]; omega))
          have HSm := hid_of (same_true N4.out.sl (Q2.out.below B4.out) HE.out (by rw [HE.out, ← HNN.out]; omega))
          have g0 : ((m : Int) == 0) = true := by rw [hm0]; rfl
          have hm2 : ¬ ((most : Int) < (m : Int)) := by omega
          clear hempty HSN hkN hm0
          go_wp2_with fail
          refine HSm.out.mono ?_
          rintro e w5 ⟨rfl, m5, hw5⟩
          have K : Hid (Below w.heap.size w w5) := hid_of (by rw [hw5]; exact bdrew (bel O2.out.bl B4.out (Nat.le_refl _)) m5)
          clear hw5 HSm
          go_wp2_with fail
          go_ret
          exact ⟨rfl, K.out⟩
        · have hmp : 0 < m := by omega
          obtain ⟨y, hy, scy, htk⟩ := HSN.out hmp
          obtain ⟨ua, uc, eu, _, rd⟩ := S4.out
          rw [← HM.out] at eu
          cases eu
          obtain ⟨g4, o4, rfl, hg4, qc⟩ := Rd.get rd (by rw [← HM.out]; exact hmp)
          obtain ⟨p, rfl⟩ : ∃ p, m = p + 1 := ⟨m - 1, by omega⟩
          have cy : w4.cell? ⟨g4, o4 + p, none⟩ = some (.string (mk y)) := qc p y (by rw [← hy]; congr 1)
          have wpp : IntKind.i64.wrap ((p : Int) + 1 - 1) = (p : Int) := by rw [show (p : Int) + 1 - 1 = (p : Int) by omega]; exact IntWalk.i64_in _ (by omega)
          have gp0 : (((p : Int) + 1) == 0) = false := by rw [beq_eq_false_iff_ne]; omega
          have gp1 : ¬ ((most : Int) < (p : Int) + 1) := by omega
          have gp2 : p < p + 1 := by omega
          obtain ⟨v5, w5, hrun, n5, b5, f5⟩ := app_fr (c := rc4) N4.out rd (.inl (by rw [List.length_take, ← HNN.out, ← HM.out]; omega)) B4.out.size 22
          rw [← HM.out] at hrun
          rw [htk] at n5
          obtain ⟨ra5, rc5, e5, _⟩ := n5.shape
          have hl5 : (T.take (k + (p + 1))).length = k + (p + 1) := by rw [List.length_take, ← HNN.out]; omega
          rw [hl5] at e5
          subst e5
          have HSC := hid_of scy
          have K : Hid (NR w2.heap.size w5 (.slice ra5 (k + (p + 1)) rc5) (T.take (k + (p + 1))) ∧ Sc l T (k + (p + 1)) y ∧ Below w2.heap.size w2 w5) := hid_of ⟨n5, scy, B4.out.trans b5⟩
          have cy5 : w5.cell? ⟨g4, o4 + p, none⟩ = some (.string (mk y)) := (World.cell?_of_block (w := w4) (f5 g4 (cell_lt cy) (fun g n' c' e => HGN.out g4 hg4 g n' c' e))).trans cy
          clear n5 b5 f5 hg4 rd qc hy scy htk hl5 N4 S4 B4 NRk BLk HSN hempty
          obtain ⟨g', rfl⟩ : ∃ g', gk = g' + 1 := ⟨gk - 1, by omega⟩
          go_wp2_with (at_builtin; refine wpl_eq rfl _ _ 22 22 rfl (.slice ra k rc) (.slice (some ⟨g4, o4, none⟩) (p + 1) rc4) (.slice ra5 (k + (p + 1)) rc5) _ w5 rfl rfl hrun ?_; clear hrun)
          go_roundg g'
          case measure => omega
          case rel => exact ⟨i + 1, k + (p + 1), y, ra5, rc5, by omega, by omega, by omega, rfl, rfl, by simp, K⟩
    · have K0 : Hid (NR w2.heap.size w2 (.slice none 0 0) (T.take 0) ∧ Sc l T 0 [] ∧ Below w2.heap.size w2 w2) := hid_of ⟨.inl ⟨rfl, by simp⟩, ⟨by omega, first_none h0 HR.out⟩, Below.refl _ _⟩
      have hcs : N = 0 ∨ ∃ g0 o0 y, 0 < N ∧ ra2 = some ⟨g0, o0, none⟩ ∧ w2.cell? ⟨g0, o0, none⟩ = some (.string (mk y)) ∧ y ≠ [] := by
        rcases Nat.eq_zero_or_pos N with z | z
        · exact .inl z
        · obtain ⟨a', c', e', _, rd⟩ := Q2.out
          cases e'
          obtain ⟨g, o, e, _, q⟩ := Rd.get rd (by rw [← HNN.out]; exact z)
          have hl : 0 < T.length := by rw [← HNN.out]; exact z
          have h1 := q 0 T[0] (List.getElem?_eq_getElem hl)
          rw [Nat.add_zero] at h1
          exact .inr ⟨g, o, T[0], z, e, h1, fun e => h0 (by rw [List.getElem?_eq_getElem hl, e])⟩
      have hk0 : (0 : Nat) ≤ N := Nat.zero_le _
      rcases hcs with z | ⟨g0, o0, y, z, e0, c0, hy⟩
      rotate_left
      · subst e0
        have hz : ((mk y).toList == (⟨#[]⟩ : ByteArray).toList) = false := by
          have := str_eq y []
          rw [decide_eq_false hy] at this
          exact this
        have hz2 : (mk y).toList.isEmpty = false := by
          rw [mk_list]
          cases y with
          | nil => exact absurd rfl hy
          | cons => rfl
        clear h0 hy
        generalize mk y = Y at *
        have d0 : (0 : Int) < (N : Int) := by omega
        go_wp2_with fail
        go_loopg [6, 7, 8] N (fun g s6 s7 s8 wx => ∃ (i k : Nat) (x : Bs) (ra : Option Addr) (rc : Nat), i ≤ k ∧ k ≤ N ∧ N ≤ k + g ∧ s6 = .slice ra k rc ∧ s7 = .string (mk x) ∧ s8 = .int .i64 (i : Int) ∧ Hid (NR w2.heap.size wx (.slice ra k rc) (T.take k) ∧ Sc l T k x ∧ Below w2.heap.size w2 wx))
        case atStart => exact ⟨0, 0, [], none, 0, by omega, by omega, by omega, rfl, rfl, rfl, K0⟩
        case round =>
          clear K0
          obtain ⟨i, k, x, ra, rc, hik, hk, hg, rfl, rfl, rfl, R⟩ := hrel
          obtain ⟨nr, sc, bl⟩ := R.out
          have OW := hid_of (O2.out.go bl)
          have HF1 := hid_of (HF.out wr OW.out x most)
          rw [aft_eq HT.out sc.eq] at HF1
          obtain ⟨X, hX⟩ : ∃ X, mk x = X := ⟨_, rfl⟩
          simp only [V] at HF1
          rw [hX] at HF1 ⊢
          have hlen : ((T.drop k).take (most : Int).toNat).length ≤ N - k ∧ (((T.drop k).take (most : Int).toNat).length : Int) ≤ most := by
            rw [List.length_take, List.length_drop, ← HNN.out]
            omega
          have hempty : ((T.drop k).take (most : Int).toNat).length = 0 → k = N := by
            rw [List.length_take, List.length_drop, ← HNN.out]
            omega
          have HSN := hid_of (Sc.next HR.out (q := (most : Int).toNat) sc)
          have hW2 : IntKind.i64.wrap ((i : Int) + 1) = (i : Int) + 1 := IntWalk.i64_in _ (by omega)
          have di : (i : Int) ≤ (N : Int) := by omega
          have NRk := hid_of nr
          have BLk := hid_of bl
          have HGN : Hid (∀ q, wr.heap.size ≤ q → ∀ g n' c', Value.slice ra k rc = .slice (some ⟨g, 0, none⟩) n' c' → q ≠ g) := hid_of fun q hq g n' c' e => by
            rcases nr with ⟨e2, _⟩ | ⟨g2, c2, cur, e2, _, hh, _⟩
            · rw [e2] at e; cases e
            · rw [e2] at e
              cases e
              have := lt_of hh
              omega
          clear nr bl sc R hX
          go_wp2_with fail
          refine HF1.out.mono ?_
          rintro e w4 ⟨r4, rfl, q4, k4⟩
          have B4 := hid_of (bel BLk.out k4 (Nat.le_refl _))
          have N4 := hid_of (NRk.out.below k4)
          have S4 := hid_of q4.sl
          obtain ⟨ra4, rc4, rfl, hrc4⟩ := q4.shape
          clear q4 k4 HF1
          obtain ⟨nx, hnx⟩ : ∃ nx, (T.drop k).take (most : Int).toNat = nx := ⟨_, rfl⟩
          rw [hnx] at hlen hempty HSN S4 hrc4 ⊢
          obtain ⟨m, HM⟩ : ∃ m, Hid (m = nx.length) := ⟨_, hid_of rfl⟩
          rw [← HM.out] at hlen hempty hrc4 HSN S4 ⊢
          obtain ⟨hl1, hl2⟩ := hlen
          clear hnx
          by_cases hm0 : m = 0
          · have hkN := hempty hm0
            have HE : Hid (T.take k = T) := hid_of (List.take_of_length_le (by rw [← HNN.out]; omega))
            have HSm := hid_of (same_true N4.out.sl (Q2.out.below B4.out) HE.out (by rw [HE.out, ← HNN.out]; omega))
            have g0 : ((m : Int) == 0) = true := by rw [hm0]; rfl
            have hm2 : ¬ ((most : Int) < (m : Int)) := by omega
            clear hempty HSN hkN hm0
            go_wp2_with fail
            refine HSm.out.mono ?_
            rintro e w5 ⟨rfl, m5, hw5⟩
            have K : Hid (Below w.heap.size w w5) := hid_of (by rw [hw5]; exact bdrew (bel O2.out.bl B4.out (Nat.le_refl _)) m5)
            clear hw5 HSm
            go_wp2_with fail
            go_ret
            exact ⟨rfl, K.out⟩
          · have hmp : 0 < m := by omega
            obtain ⟨y, hy, scy, htk⟩ := HSN.out hmp
            obtain ⟨ua, uc, eu, _, rd⟩ := S4.out
            rw [← HM.out] at eu
            cases eu
            obtain ⟨g4, o4, rfl, hg4, qc⟩ := Rd.get rd (by rw [← HM.out]; exact hmp)
            obtain ⟨p, rfl⟩ : ∃ p, m = p + 1 := ⟨m - 1, by omega⟩
            have cy : w4.cell? ⟨g4, o4 + p, none⟩ = some (.string (mk y)) := qc p y (by rw [← hy]; congr 1)
            have wpp : IntKind.i64.wrap ((p : Int) + 1 - 1) = (p : Int) := by rw [show (p : Int) + 1 - 1 = (p : Int) by omega]; exact IntWalk.i64_in _ (by omega)
            have gp0 : (((p : Int) + 1) == 0) = false := by rw [beq_eq_false_iff_ne]; omega
            have gp1 : ¬ ((most : Int) < (p : Int) + 1) := by omega
            have gp2 : p < p + 1 := by omega
            obtain ⟨v5, w5, hrun, n5, b5, f5⟩ := app_fr (c := rc4) N4.out rd (.inl (by rw [List.length_take, ← HNN.out, ← HM.out]; omega)) B4.out.size 22
            rw [← HM.out] at hrun
            rw [htk] at n5
            obtain ⟨ra5, rc5, e5, _⟩ := n5.shape
            have hl5 : (T.take (k + (p + 1))).length = k + (p + 1) := by rw [List.length_take, ← HNN.out]; omega
            rw [hl5] at e5
            subst e5
            have HSC := hid_of scy
            have K : Hid (NR w2.heap.size w5 (.slice ra5 (k + (p + 1)) rc5) (T.take (k + (p + 1))) ∧ Sc l T (k + (p + 1)) y ∧ Below w2.heap.size w2 w5) := hid_of ⟨n5, scy, B4.out.trans b5⟩
            have cy5 : w5.cell? ⟨g4, o4 + p, none⟩ = some (.string (mk y)) := (World.cell?_of_block (w := w4) (f5 g4 (cell_lt cy) (fun g n' c' e => HGN.out g4 hg4 g n' c' e))).trans cy
            clear n5 b5 f5 hg4 rd qc hy scy htk hl5 N4 S4 B4 NRk BLk HSN hempty
            obtain ⟨g', rfl⟩ : ∃ g', gk = g' + 1 := ⟨gk - 1, by omega⟩
            go_wp2_with (at_builtin; refine wpl_eq rfl _ _ 22 22 rfl (.slice ra k rc) (.slice (some ⟨g4, o4, none⟩) (p + 1) rc4) (.slice ra5 (k + (p + 1)) rc5) _ w5 rfl rfl hrun ?_; clear hrun)
            go_roundg g'
            case measure => omega
            case rel => exact ⟨i + 1, k + (p + 1), y, ra5, rc5, by omega, by omega, by omega, rfl, rfl, by simp, K⟩
      · have hN2 : ¬ 0 < N := by omega
        clear z h0
        go_wp2_with fail
        go_loopg [6, 7, 8] N (fun g s6 s7 s8 wx => ∃ (i k : Nat) (x : Bs) (ra : Option Addr) (rc : Nat), i ≤ k ∧ k ≤ N ∧ N ≤ k + g ∧ s6 = .slice ra k rc ∧ s7 = .string (mk x) ∧ s8 = .int .i64 (i : Int) ∧ Hid (NR w2.heap.size wx (.slice ra k rc) (T.take k) ∧ Sc l T k x ∧ Below w2.heap.size w2 wx))
        case atStart => exact ⟨0, 0, [], none, 0, by omega, by omega, by omega, rfl, rfl, rfl, K0⟩
        case round =>
          clear K0
          obtain ⟨i, k, x, ra, rc, hik, hk, hg, rfl, rfl, rfl, R⟩ := hrel
          obtain ⟨nr, sc, bl⟩ := R.out
          have OW := hid_of (O2.out.go bl)
          have HF1 := hid_of (HF.out wr OW.out x most)
          rw [aft_eq HT.out sc.eq] at HF1
          obtain ⟨X, hX⟩ : ∃ X, mk x = X := ⟨_, rfl⟩
          simp only [V] at HF1
          rw [hX] at HF1 ⊢
          have hlen : ((T.drop k).take (most : Int).toNat).length ≤ N - k ∧ (((T.drop k).take (most : Int).toNat).length : Int) ≤ most := by
            rw [List.length_take, List.length_drop, ← HNN.out]
            omega
          have hempty : ((T.drop k).take (most : Int).toNat).length = 0 → k = N := by
            rw [List.length_take, List.length_drop, ← HNN.out]
            omega
          have HSN := hid_of (Sc.next HR.out (q := (most : Int).toNat) sc)
          have hW2 : IntKind.i64.wrap ((i : Int) + 1) = (i : Int) + 1 := IntWalk.i64_in _ (by omega)
          have di : (i : Int) ≤ (N : Int) := by omega
          have NRk := hid_of nr
          have BLk := hid_of bl
          have HGN : Hid (∀ q, wr.heap.size ≤ q → ∀ g n' c', Value.slice ra k rc = .slice (some ⟨g, 0, none⟩) n' c' → q ≠ g) := hid_of fun q hq g n' c' e => by
            rcases nr with ⟨e2, _⟩ | ⟨g2, c2, cur, e2, _, hh, _⟩
            · rw [e2] at e; cases e
            · rw [e2] at e
              cases e
              have := lt_of hh
              omega
          clear nr bl sc R hX
          go_wp2_with fail
          refine HF1.out.mono ?_
          rintro e w4 ⟨r4, rfl, q4, k4⟩
          have B4 := hid_of (bel BLk.out k4 (Nat.le_refl _))
          have N4 := hid_of (NRk.out.below k4)
          have S4 := hid_of q4.sl
          obtain ⟨ra4, rc4, rfl, hrc4⟩ := q4.shape
          clear q4 k4 HF1
          obtain ⟨nx, hnx⟩ : ∃ nx, (T.drop k).take (most : Int).toNat = nx := ⟨_, rfl⟩
          rw [hnx] at hlen hempty HSN S4 hrc4 ⊢
          obtain ⟨m, HM⟩ : ∃ m, Hid (m = nx.length) := ⟨_, hid_of rfl⟩
          rw [← HM.out] at hlen hempty hrc4 HSN S4 ⊢
          obtain ⟨hl1, hl2⟩ := hlen
          clear hnx
          by_cases hm0 : m = 0
          · have hkN := hempty hm0
            have HE : Hid (T.take k = T) := hid_of (List.take_of_length_le (by rw [← HNN.out]; omega))
            have HSm := hid_of (same_true N4.out.sl (Q2.out.below B4.out) HE.out (by rw [HE.out, ← HNN.out]; omega))
            have g0 : ((m : Int) == 0) = true := by rw [hm0]; rfl
            have hm2 : ¬ ((most : Int) < (m : Int)) := by omega
            clear hempty HSN hkN hm0
            go_wp2_with fail
            refine HSm.out.mono ?_
            rintro e w5 ⟨rfl, m5, hw5⟩
            have K : Hid (Below w.heap.size w w5) := hid_of (by rw [hw5]; exact bdrew (bel O2.out.bl B4.out (Nat.le_refl _)) m5)
            clear hw5 HSm
            go_wp2_with fail
            go_ret
            exact ⟨rfl, K.out⟩
          · exact absurd hm0 (by omega)
end Go.Proofs.Ythhlembempknmaa.Scans
