/- DequeFinds, walked. -/
import Derived.Test.YtdmjfmojacnbeaaFindsM
namespace Go.Proofs.Ytdmjfmojacnbeaa.Finds
open Go.RowKit
open Go.Proofs.Ytdmjfmojacnbeaa.Base
open Go.Proofs.Ytdmjfmojacnbeaa.Held
open Go.Proofs.Ytdmjfmojacnbeaa.Lay
open Go.Proofs.Ytdmjfmojacnbeaa.Free
open Go.Proofs.Ytdmjfmojacnbeaa.Place
open Go.Proofs.Ytdmjfmojacnbeaa.App
open Go.Proofs.Ytdmjfmojacnbeaa.FindMath
open Go.Proofs.Ytdmjfmojacnbeaa.Find
open Go.Proofs.Ytdmjfmojacnbeaa.FindA
open Go.Proofs.Ytdmjfmojacnbeaa.DropC
open Go.Proofs.Ytdmjfmojacnbeaa.Remove
open Go.Proofs.Ytdmjfmojacnbeaa.Insert
open Go.Proofs.Ytdmjfmojacnbeaa.Same
open Go.Proofs.Ytdmjfmojacnbeaa.Awake
open Go.Proofs.Ytdmjfmojacnbeaa.Ends
open Go.Proofs.Ytdmjfmojacnbeaa.FindsM
set_option linter.unusedVariables false
set_option linter.unusedSimpArgs false
set_option maxHeartbeats 8000000 in
set_option maxRecDepth 100000 in
theorem finds_call {w : World} {u : Value} {l : List El} (h : SL (fun k => k < w.heap.size) w u l) (v : Int) (hv0 : -9223372036854775808 ≤ v ∧ v ≤ 9223372036854775807) (hb : l.length * 8 ≤ 140737488351232) :
    Calls Try.prog 7 #[u, .int .i64 v] w fun e w' => e = .returned (.bool true) ∧ Below w.heap.size w w' := by
  obtain ⟨B, hB⟩ : ∃ B, B = w.heap.size := ⟨_, rfl⟩
  rw [← hB] at h ⊢
  have HB := hid_of hB
  have HO := hid_of (of_call h (by omega))
  obtain ⟨a1, c1, rfl, hc1, hr1⟩ := h
  have HR := hid_of hr1
  have b1 : l.length ≤ 17592186043904 := by omega
  obtain ⟨L, HL⟩ : ∃ L, Hid (L = l.length) := ⟨_, hid_of rfl⟩
  have HFi := hid_of (fun (W : World) (b rank count most : Int) (x : Nat) (q : DQ (fun k => B ≤ k) x l W) (r1 : -9223372036854775808 ≤ rank) (r2 : rank ≤ 9223372036854775807) => find_call q v rank count most r1 r2 (by omega))
  have HP := hid_of (And.intro (find_all l v) (And.intro (find_back l v) (And.intro (find_no l v) (find_least l v b1))))
  rw [← HL.out] at HO b1 hc1 ⊢
  have HN := hid_of (show (allP l v).length ≤ L by rw [HL.out]; exact hits_len _ _ _ _)
  clear hB hr1 hb hv0
  go_enter Try.func7, Try.ntmps7
  go_wp2_with fail
  refine HO.out.mono ?_
  rintro e w1 ⟨b, rfl, q1, k1⟩
  have E1 : Hid (At B b l w w1) := At.of (w1 := w) q1 (Below.refl _ _) k1 (by rw [HB.out]; exact Nat.le_refl _)
  have HA := hid_of (awake_call w1)
  clear q1 k1
  go_wp2_with fail
  refine HA.out.mono ?_
  rintro e w2 ⟨rfl, k2⟩
  have E2 := hid_of (E1.out.read k2)
  have HF2 := hid_of (HFi.out w2 0 1 0 0 b E2.out.ud (by omega) (by omega))
  rw [HP.out.1] at HF2
  clear k2
  go_wp2_with fail
  refine HF2.out.mono ?_
  rintro e w3 ⟨v3, rfl, n3, k3⟩
  have E3 := hid_of (E2.out.read k3)
  have HF3 := hid_of (HFi.out w3 0 (-1) 0 0 b E3.out.ud (by omega) (by omega))
  rw [HP.out.2.1] at HF3
  obtain ⟨a3, c3, rfl, hc3, _⟩ := NR.shape n3
  rw [ints_len] at hc3 ⊢
  have N3 := hid_of n3
  rw [ints_len] at N3
  obtain ⟨N, HNN⟩ : ∃ N, Hid (N = (allP l v).length) := ⟨_, hid_of rfl⟩
  rw [← HNN.out] at hc3 N3 HN ⊢
  have hNL : N ≤ L := HN.out
  clear n3 k3
  go_wp2_with fail
  refine HF3.out.mono ?_
  rintro e w4 ⟨v4, rfl, n4, k4⟩
  have E4 := hid_of (E3.out.read k4)
  have N34 := hid_of (N3.out.below k4)
  have HT4 := hid_of (turned_call n4.sl (by rw [List.length_reverse, ints_len, ← HNN.out]; omega))
  rw [List.reverse_reverse] at HT4
  clear n4 k4
  go_wp2_with fail
  refine HT4.out.mono ?_
  rintro e w5 ⟨v5, rfl, n5, k5⟩
  have E5 := hid_of (E4.out.read k5)
  have N35 := hid_of (N34.out.below k5)
  have HS5 := hid_of (same_call N35.out.sl n5.sl rfl (by rw [ints_len, ← HNN.out]; omega))
  clear n5 k5
  go_wp2_with fail
  refine HS5.out.mono ?_
  rintro e w6 ⟨rfl, m6, rfl⟩
  have E6 := hid_of (E5.out.drewN m6)
  have HF6 := hid_of (HFi.out (w5.drewN m6) 0 0 0 0 b E6.out.ud (by omega) (by omega))
  rw [HP.out.2.2.1] at HF6
  go_wp2_with fail
  refine HF6.out.mono ?_
  rintro e w7 ⟨v7, rfl, n7, k7⟩
  obtain ⟨a7, c7, rfl, _, _⟩ := NR.shape n7
  rw [List.length_nil]
  have E7 := hid_of (E6.out.read k7)
  have N37 := hid_of ((Pop.NR.drewN N35.out m6).below k7)
  have HF7 := hid_of (HFi.out w7 0 (-9223372036854775808) 0 0 b E7.out.ud (by omega) (by omega))
  rw [HP.out.2.2.2] at HF7
  clear n7 k7
  go_wp2_with fail
  refine HF7.out.mono ?_
  rintro e w8 ⟨v8, rfl, n8, k8⟩
  obtain ⟨a8, c8, rfl, _, _⟩ := NR.shape n8
  rw [List.length_nil]
  have E8 := hid_of (E7.out.read k8)
  have N38 := hid_of (N37.out.below k8).sl
  clear n8 k8
  go_wp2_with fail
  go_loopg [8, 9, 10] L (fun g s8 s9 s10 wx => ∃ (i at' : Nat) (ra : Option Addr) (rn rc : Nat), i ≤ L ∧ L ≤ i + g ∧ at' ≤ i ∧ s8 = .int .i64 (at' : Int) ∧ s9 = .slice ra rn rc ∧ s10 = .int .i64 (i : Int) ∧ Hid (at' = (hits l v false i).length ∧ NR w8.heap.size wx (.slice ra rn rc) (others (l.take i) v) ∧ Below w8.heap.size w8 wx))
  case atStart => exact ⟨0, 0, none, 0, 0, by omega, by omega, by omega, rfl, rfl, rfl, ⟨rfl, .inl ⟨rfl, rfl⟩, Below.refl _ _⟩⟩
  case round =>
    obtain ⟨i, at', ra, rn, rc, hi, hg, hati, rfl, rfl, rfl, R⟩ := hrel
    have E9 := hid_of (E8.out.read R.out.2.2)
    by_cases hlt : i < L
    · obtain ⟨g', rfl⟩ : ∃ g', gk = g' + 1 := ⟨gk - 1, by omega⟩
      have hil : i < l.length := by rw [← HL.out]; exact hlt
      obtain ⟨g0, o0, rfl, hg0, hcl⟩ := Rd.get HR.out (by omega)
      have cx : wr.cell? ⟨g0, o0 + i, none⟩ = some (V l[i]) := (World.cell?_of_block (w := w) (E9.out.bl.block g0 hg0)).trans (hcl i _ (List.getElem?_eq_getElem hil))
      have hnx := hits_next l v i hil
      have hot := others_take l v i hil
      by_cases hv : l[i] = v
      · rw [if_pos hv] at hnx hot
        obtain ⟨rest, hrest⟩ := hits_all hil hv
        have hatN : at' < N := by
          rw [HNN.out, hrest, R.out.1]; simp
        have ca0 : ∃ g o, a3 = some ⟨g, o, none⟩ ∧ wr.cell? ⟨g, o + at', none⟩ = some (.int .i64 (i : Int)) := by
          obtain ⟨a', c', e', _, r'⟩ := N38.out.below R.out.2.2
          rw [ints_len, ← HNN.out] at e'
          cases e'
          obtain ⟨g, o, rfl, _, q⟩ := Rd.get r' (by rw [ints_len, ← HNN.out]; omega)
          refine ⟨g, o, rfl, q at' _ ?_⟩
          unfold ints
          rw [List.getElem?_map, hrest, R.out.1, List.getElem?_append_right (Nat.le_refl _), Nat.sub_self]
          rfl
        obtain ⟨ga, oa, rfl, ca⟩ := ca0
        rw [hv] at cx
        have HFn := hid_of (HFi.out wr 0 ((at' : Int) + 1) 1 0 b E9.out.ud (by omega) (by omega))
        rw [find_nth hil hv R.out.1] at HFn
        have HFf := hid_of (fun (W : World) (k : Below wr.heap.size wr W) => (show Calls Try.prog 43 #[ptr b, V v, .int .i64 1, .int .i64 0, .int .i64 ((i : Int) + 1)] W fun e w' => ∃ v', e = .returned v' ∧ Base.NR W.heap.size w' v' (ints (hits l v false i ++ [i])) ∧ Below W.heap.size W w' by
          have := HFi.out W 0 1 0 ((i : Int) + 1) b (E9.out.read k).ud (by omega) (by omega)
          rw [find_first hil hv] at this
          exact this))
        have HIL := hid_of (show (ints (hits l v false i ++ [i])).length = at' + 1 by rw [ints_len, List.length_append, ← R.out.1]; rfl)
        have gAN : ¬ (N : Int) ≤ (at' : Int) := by omega
        have HX := hid_of (And.intro hnx hot)
        clear hnx hot hrest hcl hv
        go_wp2_with fail
        refine HFn.out.mono ?_
        rintro e w10 ⟨v10, rfl, n10, k10⟩
        have HS10 := hid_of (same_call (n10.sl.below ((Below.refl _ w10).alloc (Nat.le_refl _) (.cells #[V (i : Int)] 3))) (sl_new w10 [(i : Int)]) rfl (by simp))
        have K10 := hid_of k10
        clear n10 k10
        go_wp2_with fail
        refine HS10.out.mono ?_
        rintro e w11 ⟨rfl, m11, rfl⟩
        have K11 := hid_of ((K10.out.alloc K10.out.size (.cells #[V (i : Int)] 3)).trans ((bel_drewN _ m11).mono (Nat.le_trans K10.out.size ((Below.refl w10.heap.size w10).alloc (Nat.le_refl _) (.cells #[V (i : Int)] 3)).size)))
        have HF11 := hid_of (HFf.out _ K11.out)
        go_wp2_with fail
        refine HF11.out.mono ?_
        rintro e w12 ⟨v12, rfl, n12, k12⟩
        obtain ⟨a12, c12, rfl, _, _⟩ := NR.shape n12
        rw [HIL.out]
        have K12 := hid_of (bel_on K11.out k12 (Nat.le_refl _))
        clear n12 k12
        go_wp2_with fail
        go_roundg g'
        case measure => omega
        case rel => exact ⟨i + 1, at' + 1, ra, rn, rc, by omega, by omega, by omega, by simp, rfl, by simp, ⟨by rw [HX.out.1, R.out.1], by rw [HX.out.2]; exact R.out.2.1.below K12.out, bel_on R.out.2.2 K12.out (Nat.le_refl _)⟩⟩
      · rw [if_neg hv] at hnx hot
        have hvv : (l[i] != v) = true := by rw [bne_iff_ne]; exact hv
        have hol : (others (l.take i) v).length ≤ i := Nat.le_trans (others_len _ _) (by simp; omega)
        obtain ⟨v2, w9, hrun, n2, b2⟩ := app_one l[i] R.out.2.1 (by omega) R.out.2.2.size 22
        obtain ⟨a2, n2', c2, rfl⟩ : ∃ a2 n2' c2, v2 = .slice a2 n2' c2 := by
          obtain ⟨a2, c2, e, _, _⟩ := NR.shape n2
          exact ⟨a2, _, c2, e⟩
        have HX := hid_of (show at' = (hits l v false (i + 1)).length ∧ NR w8.heap.size w9 (.slice a2 n2' c2) (others (l.take (i + 1)) v) ∧ Below w8.heap.size w8 w9 from ⟨by rw [hnx]; exact R.out.1, by rw [hot]; exact n2, R.out.2.2.trans b2⟩)
        generalize l[i] = x at *
        clear hnx hot hcl hv n2 b2 hol
        go_wp2_with (at_builtin; refine wpl_eq rfl _ _ 22 22 rfl (.slice ra rn rc) (.slice (some ⟨wr.heap.size, 0, none⟩) 1 1) (.slice a2 n2' c2) _ w9 rfl rfl hrun ?_)
        go_roundg g'
        case measure => omega
        case rel => exact ⟨i + 1, at', a2, n2', c2, by omega, by omega, by omega, rfl, rfl, by simp, HX⟩
    · have hiL : i = L := by omega
      have hatN : at' = N := by rw [R.out.1, HNN.out, hiL, HL.out]; rfl
      have HR9 := hid_of (show NR w8.heap.size wr (.slice ra rn rc) (others l v) by
        have := R.out.2.1
        rw [hiL, HL.out, List.take_of_length_le (Nat.le_refl _)] at this
        exact this)
      have HBl := hid_of R.out.2.2
      subst hatN
      have HQ := hid_of (show DQ (fun k => B ≤ k ∧ k < w8.heap.size) b l wr from (DQ.low E8.out.ud).keep fun k _ e => HBl.out.block k e.2)
      have HRm := hid_of (remove_call HQ.out (-9223372036854775808) v (by rw [← HL.out]; omega))
      rw [rem_all, drop_all, ← HNN.out] at HRm
      clear R hiL hi hg
      go_wp2_with fail
      refine HRm.out.mono ?_
      rintro e w10 ⟨rfl, q10, f10⟩
      have R10 := hid_of (show NR w8.heap.size w10 (.slice ra rn rc) (others l v) from HR9.out.keep fun k hk hB => f10.block k hk fun e => absurd e.2 (by omega))
      have b10 : Below B wr w10 := f10.below E9.out.sz fun k e => e.1
      have E10 : Hid (At B b (others l v) w w10) := ⟨q10.mono fun k _ e => by
        rcases e with e | e
        · exact e.1
        · exact Nat.le_trans E9.out.sz e, E9.out.bl.trans b10, Nat.le_trans E9.out.sz f10.size⟩
      have hol := others_len l v
      have HLi := hid_of (list_call E10.out.ud (by have := HL.out; omega))
      clear q10 f10 b10
      go_wp2_with fail
      refine HLi.out.mono ?_
      rintro e w11 ⟨v11, rfl, n11, k11⟩
      have E11 := hid_of (E10.out.read k11)
      have R11 := hid_of (R10.out.below k11)
      have HS11 := hid_of (same_call n11.sl R11.out.sl rfl (by have := HL.out; omega))
      clear n11 k11
      go_wp2_with fail
      refine HS11.out.mono ?_
      rintro e w12 ⟨rfl, m12, rfl⟩
      have E12 := hid_of (E11.out.drewN m12)
      have R12 := hid_of (Pop.NR.drewN R11.out m12)
      have HIn := hid_of (insert_no E12.out.ud true v 5 (by have := HL.out; omega) (none_left l v))
      go_wp2_with fail
      refine HIn.out.mono ?_
      rintro e w13 ⟨rfl, q13, k13⟩
      have E13 := hid_of (E12.out.read k13)
      have R13 := hid_of (R12.out.below k13)
      have HLi13 := hid_of (list_call E13.out.ud (by have := HL.out; omega))
      clear q13 k13
      go_wp2_with fail
      refine HLi13.out.mono ?_
      rintro e w14 ⟨v14, rfl, n14, k14⟩
      have E14 := hid_of (E13.out.read k14)
      have R14 := hid_of (R13.out.below k14)
      have HS14 := hid_of (same_call n14.sl R14.out.sl rfl (by have := HL.out; omega))
      clear n14 k14
      go_wp2_with fail
      refine HS14.out.mono ?_
      rintro e w15 ⟨rfl, m15, rfl⟩
      have E15 := hid_of (E14.out.drewN m15)
      go_wp2_with fail
      go_ret
      exact ⟨rfl, E15.out.bl⟩
end Go.Proofs.Ytdmjfmojacnbeaa.Finds
