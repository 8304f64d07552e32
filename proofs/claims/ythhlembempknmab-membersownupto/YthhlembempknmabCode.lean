/- Add, Remove, Inter, Diff, Count. -/
import Derived.Test.YthhlembempknmabLists
namespace Go.Proofs.Ythhlembempknmab.Code
open Go.RowKit Go.Sort
open Go.Proofs.Ythhlembempknmab.SetMath
open Go.Proofs.Ythhlembempknmab.Base
open Go.Proofs.Ythhlembempknmab.Of
open Go.Proofs.Ythhlembempknmab.Merge
open Go.Proofs.Ythhlembempknmab.Lists
set_option linter.unusedVariables false
set_option linter.unusedSimpArgs false
theorem bel {B : Nat} {a b c : World} (h : Below B a b) (k : Below b.heap.size b c) (hB : B ≤ a.heap.size) : Below B a c := h.trans (k.mono (Nat.le_trans hB h.size))
set_option maxHeartbeats 1000000 in
set_option maxRecDepth 100000 in
theorem add_call {G G' : Nat → Prop} {w : World} {u v : Value} {l m : List El} (h : SL G w u l) (h' : SL G' w v m) (hb : (l.length + m.length) * 16 ≤ 140737488355328) :
    Calls Try.prog 11 #[u, v] w fun e w' => ∃ r, e = .returned (.tuple #[r, .int .i64 ((S (l ++ m)).length - (S l).length : Int)]) ∧ NR w.heap.size w' r (S (l ++ m)) ∧ Below w.heap.size w w' := by
  have HA := hid_of (of_call h (by omega))
  have HB := hid_of fun (W : World) (b : Below w.heap.size w W) => of_call (h'.below b) (by omega)
  have h1 := len_S l
  have h2 := len_S m
  have h3 := len_S (l ++ m)
  rw [List.length_append] at h3
  have HM := hid_of fun (W : World) (x y : Value) (n1 : NR w.heap.size W x (S l)) (n2 : NR w.heap.size W y (S m)) => merge_call true true true n1.sl n2.sl (by omega)
  rw [add_is] at HM
  obtain ⟨a, c, rfl, _⟩ := SL.len h
  obtain ⟨a', c', rfl, _⟩ := SL.len h'
  have hs : IntKind.i64.wrap (((S (l ++ m)).length : Int) - ((S l).length : Int)) = ((S (l ++ m)).length : Int) - ((S l).length : Int) := IntWalk.i64_in _ (by omega)
  generalize l.length = n1 at *
  generalize m.length = n2 at *
  clear h h' hb
  go_enter Try.func11, Try.ntmps11
  go_wp2_with fail
  refine HA.out.mono ?_
  rintro e w1 ⟨r1, rfl, q1, b1⟩
  have Q1 := hid_of q1
  have B1 := hid_of b1
  have HB1 := hid_of (HB.out _ b1)
  obtain ⟨ra1, rc1, rfl, _⟩ := q1.shape
  clear q1 b1 HA HB
  go_wp2_with fail
  refine HB1.out.mono ?_
  rintro e w2 ⟨r2, rfl, q2, b2⟩
  have HM1 := hid_of (HM.out _ _ _ (Q1.out.below b2) (q2.mono B1.out.size))
  have B2 := hid_of (bel B1.out b2 (Nat.le_refl _))
  obtain ⟨ra2, rc2, rfl, _⟩ := q2.shape
  clear q2 b2 HB1 HM Q1
  go_wp2_with fail
  refine HM1.out.mono ?_
  rintro e w3 ⟨r3, rfl, q3, b3⟩
  have K := hid_of (And.intro (q3.mono B2.out.size) (bel B2.out b3 (Nat.le_refl _)))
  obtain ⟨ra3, rc3, rfl, _⟩ := q3.shape
  clear q3 b3 HM1
  go_wp2_with fail
  go_ret2
  exact ⟨_, rfl, K.out⟩
set_option maxHeartbeats 1000000 in
set_option maxRecDepth 100000 in
theorem remove_call {G G' : Nat → Prop} {w : World} {u v : Value} {l m : List El} (h : SL G w u l) (h' : SL G' w v m) (hb : (l.length + m.length) * 16 ≤ 140737488355328) :
    Calls Try.prog 12 #[u, v] w fun e w' => ∃ r, e = .returned (.tuple #[r, .int .i64 ((S l).length - (dif l m).length : Int)]) ∧ NR w.heap.size w' r (dif l m) ∧ Below w.heap.size w w' := by
  have HA := hid_of (of_call h (by omega))
  have HB := hid_of fun (W : World) (b : Below w.heap.size w W) => of_call (h'.below b) (by omega)
  have h1 := len_S l
  have h2 := len_S m
  have h3 : (dif l m).length ≤ (S l).length := List.length_filter_le _ _
  have HM := hid_of fun (W : World) (x y : Value) (n1 : NR w.heap.size W x (S l)) (n2 : NR w.heap.size W y (S m)) => merge_call true false false n1.sl n2.sl (by omega)
  rw [rem_is] at HM
  obtain ⟨a, c, rfl, _⟩ := SL.len h
  obtain ⟨a', c', rfl, _⟩ := SL.len h'
  have hs : IntKind.i64.wrap (((S l).length : Int) - ((dif l m).length : Int)) = ((S l).length : Int) - ((dif l m).length : Int) := IntWalk.i64_in _ (by omega)
  generalize l.length = n1 at *
  generalize m.length = n2 at *
  clear h h' hb
  go_enter Try.func12, Try.ntmps12
  go_wp2_with fail
  refine HA.out.mono ?_
  rintro e w1 ⟨r1, rfl, q1, b1⟩
  have Q1 := hid_of q1
  have B1 := hid_of b1
  have HB1 := hid_of (HB.out _ b1)
  obtain ⟨ra1, rc1, rfl, _⟩ := q1.shape
  clear q1 b1 HA HB
  go_wp2_with fail
  refine HB1.out.mono ?_
  rintro e w2 ⟨r2, rfl, q2, b2⟩
  have HM1 := hid_of (HM.out _ _ _ (Q1.out.below b2) (q2.mono B1.out.size))
  have B2 := hid_of (bel B1.out b2 (Nat.le_refl _))
  obtain ⟨ra2, rc2, rfl, _⟩ := q2.shape
  clear q2 b2 HB1 HM Q1
  go_wp2_with fail
  refine HM1.out.mono ?_
  rintro e w3 ⟨r3, rfl, q3, b3⟩
  have K := hid_of (And.intro (q3.mono B2.out.size) (bel B2.out b3 (Nat.le_refl _)))
  obtain ⟨ra3, rc3, rfl, _⟩ := q3.shape
  clear q3 b3 HM1
  go_wp2_with fail
  go_ret2
  exact ⟨_, rfl, K.out⟩
set_option maxHeartbeats 2000000 in
set_option maxRecDepth 100000 in
theorem inter_call {G : Nat → Prop} {w : World} {a : Option Addr} {c : Nat} {ls : List (List El)} {us : List Value} (h : LL G w a ls us) (hc : ls.length ≤ c) (hl : ls.length ≤ 140737488355328) (hb : tot ls * 16 ≤ 140737488355328) :
    Calls Try.prog 8 #[.slice a ls.length c] w fun e w' => ∃ r, e = .returned r ∧ NR w.heap.size w' r (inter ls) ∧ Below w.heap.size w w' := by
  cases ls with
  | nil =>
    rw [List.length_nil]
    go_enter Try.func8, Try.ntmps8
    go_wp2_with fail
    go_ret
    exact ⟨_, rfl, .inl ⟨rfl, rfl⟩, Below.refl _ _⟩
  | cons l lr =>
    rw [tot_cons] at hb
    obtain ⟨g0, o0, u0, rfl, c0, sl0⟩ := h.get (j := 0) rfl
    rw [Nat.add_zero] at c0
    have HO := hid_of (of_call sl0 (by omega))
    obtain ⟨ua, uc, rfl, _⟩ := SL.len sl0
    obtain ⟨L, HL⟩ : ∃ L, Hid (L = lr.length) := ⟨_, hid_of rfl⟩
    rw [List.length_cons, ← HL.out] at hl hc ⊢
    have HR := hid_of fun (W : World) (b : Below w.heap.size w W) => (h.below b).drop (c := c) (by rw [List.length_cons, ← HL.out]; exact hc) 1
    have cut1 := cutL_lo (some ⟨g0, o0, none⟩) (L + 1) c 1 1 rfl (by omega)
    rw [show L + 1 - 1 = L by omega] at cut1
    generalize hA1 : ca (some ⟨g0, o0, none⟩) c 1 = A1 at *
    have HLS : Hid ((l :: lr).drop 1 = lr) := rfl
    have HI0 : Hid (inter (l :: lr.take 0) = S l) := hid_of (by rw [List.take_zero]; exact inter_one l)
    have HLE : Hid (∀ i, (inter (l :: lr.take i)).length ≤ l.length) := hid_of fun i => len_inter _ _
    have HLT : Hid (∀ m ∈ lr, m.length ≤ tot lr) := hid_of fun m hm => tot_mem hm
    have HB16 := hid_of hb
    generalize l.length = n0 at *
    have g1 : ((L : Int) + 1 == 0) = false := by rw [beq_eq_false_iff_ne]; omega
    clear h sl0 hA1 hb
    go_enter Try.func8, Try.ntmps8
    go_wp2_with fail
    refine HO.out.mono ?_
    rintro e w1 ⟨r1, rfl, q1, b1⟩
    have Q1 := hid_of (And.intro q1 b1)
    obtain ⟨ra1, rc1, rfl, _⟩ := q1.shape
    generalize hn1 : (S l).length = rn1 at *
    clear q1 b1 HO c0 hn1
    go_wp2_with fail
    go_loopg [3, 16] L (fun g s3 s16 wx => ∃ (i : Nat) (ra : Option Addr) (rn rc : Nat), i ≤ L ∧ L ≤ i + g ∧ s3 = .slice ra rn rc ∧ s16 = .int .i64 (i : Int) ∧ Hid (NR w.heap.size wx (.slice ra rn rc) (inter (l :: lr.take i)) ∧ Below w.heap.size w wx))
    case atStart => exact ⟨0, ra1, rn1, rc1, by omega, by omega, rfl, rfl, by rw [HI0.out]; exact Q1⟩
    case round =>
      obtain ⟨i, ra, rn, rc, hi, hg, rfl, rfl, R⟩ := hrel
      by_cases hlt : i < L
      · obtain ⟨g', rfl⟩ : ∃ g', gk = g' + 1 := ⟨gk - 1, by omega⟩
        have hil : i < lr.length := by rw [← HL.out]; exact hlt
        have hm : lr[i]? = some lr[i] := List.getElem?_eq_getElem hil
        obtain ⟨g1, o1, u1, e1, c1, sl1⟩ := (HR.out _ R.out.2).get (j := i) (l := lr[i]) (by rw [HLS.out]; exact hm)
        subst e1
        have hlen := HLT.out lr[i] (List.getElem_mem hil)
        have hbb := HB16.out
        have HO1 := hid_of (of_call sl1 (by omega))
        have HM := hid_of fun (W : World) (x y : Value) (n1 : NR w.heap.size W x (inter (l :: lr.take i))) (n2 : NR w.heap.size W y (S lr[i])) => merge_call false false true n1.sl n2.sl (by have := HLE.out i; have := len_S lr[i]; omega)
        rw [int_is _ _ (ris_inter _), inter_snoc, ← List.take_succ_eq_append_getElem hil] at HM
        obtain ⟨ua1, uc1, rfl, _⟩ := SL.len sl1
        generalize lr[i].length = n1 at *
        have w2 : IntKind.i64.wrap ((i : Int) + 1) = (i : Int) + 1 := IntWalk.i64_in _ (by omega)
        clear hm sl1 hlen hbb
        go_wp2_with fail
        refine HO1.out.mono ?_
        rintro e w2' ⟨r2, rfl, q2, b2⟩
        have HM1 := hid_of (HM.out _ _ _ (R.out.1.below b2) (q2.mono R.out.2.size))
        have B2 := hid_of (bel R.out.2 b2 (Nat.le_refl _))
        obtain ⟨ra2, rc2, rfl, _⟩ := q2.shape
        clear q2 b2 HO1 HM R
        go_wp2_with fail
        refine HM1.out.mono ?_
        rintro e w3 ⟨r3, rfl, q3, b3⟩
        have K := hid_of (And.intro (q3.mono B2.out.size) (bel B2.out b3 (Nat.le_refl _)))
        obtain ⟨ra3, rc3, rfl, _⟩ := q3.shape
        generalize hn3 : (inter (l :: lr.take (i + 1))).length = rn3 at *
        clear q3 b3 HM1 hn3
        go_wp2_with fail
        go_roundg g'
        case measure => omega
        case rel => exact ⟨i + 1, ra3, rn3, rc3, by omega, by omega, rfl, by simp, K⟩
      · have HE : Hid (lr.take i = lr) := hid_of (List.take_of_length_le (by have := HL.out; omega))
        have R2 := hid_of R.out
        clear R
        go_wp2_with fail
        go_ret
        obtain ⟨r1, r2⟩ := R2.out
        rw [HE.out] at r1
        exact ⟨_, rfl, r1, r2⟩
set_option maxHeartbeats 2000000 in
set_option maxRecDepth 100000 in
theorem diff_call {G : Nat → Prop} {w : World} {a : Option Addr} {c : Nat} {ls : List (List El)} {us : List Value} (h : LL G w a ls us) (hc : ls.length ≤ c) (hl : ls.length ≤ 140737488355328) (hb : tot ls * 16 ≤ 140737488355328) :
    Calls Try.prog 9 #[.slice a ls.length c] w fun e w' => ∃ r, e = .returned r ∧ NR w.heap.size w' r (diff ls) ∧ Below w.heap.size w w' := by
  cases ls with
  | nil =>
    rw [List.length_nil]
    go_enter Try.func9, Try.ntmps9
    go_wp2_with fail
    go_ret
    exact ⟨_, rfl, .inl ⟨rfl, rfl⟩, Below.refl _ _⟩
  | cons l lr =>
    rw [tot_cons] at hb
    obtain ⟨g0, o0, u0, rfl, c0, sl0⟩ := h.get (j := 0) rfl
    rw [Nat.add_zero] at c0
    have HO := hid_of fun (W : World) (b : Below w.heap.size w W) => of_call (sl0.below b) (by omega)
    obtain ⟨ua, uc, rfl, _⟩ := SL.len sl0
    obtain ⟨L, HL⟩ : ∃ L, Hid (L = lr.length) := ⟨_, hid_of rfl⟩
    have hdr := h.drop (c := c) hc 1
    have HU := hid_of fun (W : World) (b : Below w.heap.size w W) => union_call (c := c - 1) (ls := lr) (us := us.drop 1) (hdr.below b) (by rw [List.length_cons] at hc; omega) (by rw [List.length_cons] at hl; omega) (by omega)
    rw [← HL.out] at HU
    rw [List.length_cons, ← HL.out] at hl hc ⊢
    have cut1 := cutL_lo (some ⟨g0, o0, none⟩) (L + 1) c 1 1 rfl (by omega)
    rw [show L + 1 - 1 = L by omega] at cut1
    have HC0 : Hid (∀ W, Below w.heap.size w W → W.cell? ⟨g0, o0, none⟩ = some (.slice ua l.length uc)) := hid_of fun W b => (World.cell?_of_block (w := w) (b.block g0 (cell_lt c0))).trans c0
    have HM := hid_of fun (W : World) (x y : Value) (n1 : NR w.heap.size W x (S l)) (n2 : NR w.heap.size W y (uni lr)) => merge_call true false false n1.sl n2.sl (by
      have h1 := len_S l
      have h2 : (uni lr).length ≤ tot lr := len_uni lr
      omega)
    rw [diff_is] at HM
    generalize hA1 : ca (some ⟨g0, o0, none⟩) c 1 = A1 at *
    generalize l.length = n0 at *
    have g1 : ((L : Int) + 1 == 0) = false := by rw [beq_eq_false_iff_ne]; omega
    have d1 : Hid (Below w.heap.size w w.drew) := bel_drewN w 1
    clear h sl0 hA1 hb hdr
    go_enter Try.func9, Try.ntmps9
    go_wp2_with fail
    go_region_with (first
      | (go_at_call 6; refine (HO.out _ (by first | exact d1.out | exact B2.out)).mono ?_; rintro e w1 ⟨v1, rfl, n1, k1⟩; have N1 := hid_of n1; have B1 : Hid (Below w.heap.size w w1) := (by first | exact B2.out.trans (k1.mono B2.out.size) | exact d1.out.trans k1); have K1 := hid_of k1; clear n1 k1 HO)
      | (go_at_call 7; refine (HU.out _ (by first | exact B1.out | exact d1.out)).mono ?_; rintro e w2 ⟨v2, rfl, n2, k2⟩; have N2 := hid_of n2; have B2 : Hid (Below w.heap.size w w2) := (by first | exact B1.out.trans (k2.mono B1.out.size) | exact d1.out.trans k2); have K2 := hid_of k2; have c2 := HC0.out _ B2.out; clear n2 k2 HU)
      | (go_at_call 20; refine (HM.out _ _ _ (by first | exact N1.out.below K2.out | exact N1.out.mono B2.out.size) (by first | exact N2.out.mono B1.out.size | exact N2.out.below K1.out)).mono ?_; rintro e w3 ⟨v3, rfl, n3, k3⟩; have K3 : Hid (NR w.heap.size w3 v3 (diff (l :: lr)) ∧ Below w.heap.size w w3) := (by first | exact ⟨n3.mono B2.out.size, B2.out.trans (k3.mono B2.out.size)⟩ | exact ⟨n3.mono B1.out.size, B1.out.trans (k3.mono B1.out.size)⟩); clear n3 k3))
    all_goals
      go_wp2_with fail
      go_ret
      exact ⟨v3, rfl, K3.out⟩
def cnt (most : Int) (n : Nat) : Int := if most < 1 then n else min (n : Int) most
end Go.Proofs.Ythhlembempknmab.Code
