/- DequeTexts, walked. -/
import Derived.Test.YtdmjfmojacnbeaaSRn
import Derived.Test.YtdmjfmojacnbeaaAwake
import Derived.Test.YtdmjfmojacnbeaaSFront
import Derived.Test.YtdmjfmojacnbeaaSPush
namespace Go.Proofs.Ytdmjfmojacnbeaa.SDoes
open Go.RowKit
open Go.Proofs.Ytdmjfmojacnbeaa.Base (Fr Gr ptr hid_of lt_of bel_drewN cell_lt)
open Go.Proofs.Ytdmjfmojacnbeaa.TextMath (InI)
open Go.Proofs.Ytdmjfmojacnbeaa.STexts (prt texts_call sameT_call)
open Go.Proofs.Ytdmjfmojacnbeaa.DoA (box insD)
open Go.Proofs.Ytdmjfmojacnbeaa.Awake (awake_call)
open Go.Proofs.Ytdmjfmojacnbeaa.STx
open Go.Proofs.Ytdmjfmojacnbeaa.SDeed
open Go.Proofs.Ytdmjfmojacnbeaa.SRn
set_option linter.unusedVariables false
set_option linter.unusedSimpArgs false
theorem zero_text : ((⟨#[]⟩ : ByteArray) == prt 0) = false := by
  have : Lib.itoa 0 = [48] := by unfold Lib.itoa; rw [if_neg (by omega)]; exact TextMath.dec_small (by omega)
  unfold prt
  rw [this]
  rfl
theorem zero_list : (ByteArray.toList (prt 0)).isEmpty = false := by
  have : Lib.itoa 0 = [48] := by unfold Lib.itoa; rw [if_neg (by omega)]; exact TextMath.dec_small (by omega)
  unfold prt
  rw [this]
  unfold ByteArray.toList
  rw [ByteArray.toList.loop]
  rw [if_pos (by decide)]
  rw [ByteArray.toList.loop]
  rw [if_neg (by decide)]
  rfl
theorem start {B b : Nat} {l : List Int} {u : Value} {w w1 w2 w3 : World} (hB : B = w.heap.size) (h : Base.SL (fun k => k < B) w u l) (hi : ∀ x ∈ l, InI x) (k1 : Below w.heap.size w w1) (q : SBase.DQ (fun k => w1.heap.size ≤ k) b (l.map prt) w2) (k2 : Below w1.heap.size w1 w2) (k3 : Below w2.heap.size w2 w3) :
    Tx (fun k => w1.heap.size ≤ k ∧ k < w2.heap.size) B b l u w w3 := by
  subst hB
  have s1 := k1.size
  have s2 := k2.size
  have s3 := k3.size
  have b3 : Below w.heap.size w w3 := (k1.trans (k2.mono s1)).trans (k3.mono (Nat.le_trans s1 s2))
  exact ⟨(q.low).below k3, (h.below b3).mono fun k _ e c => by have := c.1; omega, hi, fun k e => ⟨by have := e.1; omega, by have := e.2; omega⟩, b3, b3.size⟩
set_option maxHeartbeats 40000000 in
set_option maxRecDepth 100000 in
theorem texts_law {w : World} {u dv : Value} {l : List Int} {ds : List DD} (h : Base.SL (fun k => k < w.heap.size) w u l) (hi0 : ∀ n ∈ l, InI n) (hd : DSl w dv ds) (hb : l.length + wts ds ≤ 1048576) :
    Calls Try.prog 4 #[u, dv] w fun e w' => e = .returned (.bool true) ∧ Below w.heap.size w w' := by
  obtain ⟨B, hB⟩ : ∃ B, B = w.heap.size := ⟨_, rfl⟩
  have hdl := wts_len ds
  have HOK := hid_of hd.ok
  have HO := hid_of (texts_call h hi0 (by omega))
  rw [← hB] at h ⊢
  have HB := hid_of hB
  have HU := hid_of (And.intro h hi0)
  obtain ⟨a1, c1, rfl, hc1, _⟩ := h
  obtain ⟨da, dc, rfl, hat⟩ := hd.at'
  have HAT := hid_of hat
  have HBd := hid_of hb
  obtain ⟨N, HN⟩ : ∃ N, Hid (N = ds.length) := ⟨_, hid_of rfl⟩
  have hN : N ≤ 1048576 := by rw [HN.out]; omega
  rw [← HN.out]
  clear hB hat hb hd hdl hi0 hc1
  go_enter Try.func4, Try.ntmps4
  go_wp2_with fail
  refine HO.out.mono ?_
  rintro e w1 ⟨t1, rfl, n1, k1⟩
  have HF := hid_of (SFree.of_call n1.sl (by rw [List.length_map]; have := HBd.out; omega))
  have K1 := hid_of k1
  clear n1 k1
  go_wp2_with fail
  refine HF.out.mono ?_
  rintro e w2 ⟨b, rfl, q2, k2⟩
  have K2 := hid_of (And.intro q2 k2)
  have HA := hid_of (awake_call w2)
  clear q2 k2
  go_wp2_with fail
  refine HA.out.mono ?_
  rintro e w3 ⟨rfl, k3⟩
  have S3 := hid_of (start HB.out HU.out.1 HU.out.2 K1.out K2.out.1 K2.out.2 k3)
  clear k3
  go_wp2_with fail
  go_loopg [6, 7] N (fun g s6 s7 wx => ∃ (i : Nat) (l' : List Int) (ua : Option Addr) (uc : Nat), i ≤ N ∧ N ≤ i + g ∧ s6 = .slice ua l'.length uc ∧ s7 = .int .i64 (i : Int) ∧ Hid (l'.length ≤ l.length + wts (ds.take i) ∧ ∃ F, Tx F B b l' (.slice ua l'.length uc) w wx))
  case atStart => exact ⟨0, l, a1, c1, by omega, by omega, rfl, rfl, ⟨by omega, _, S3.out⟩⟩
  case round =>
    obtain ⟨i, l', ua, uc, hi, hg, rfl, rfl, R⟩ := hrel
    by_cases hlt : i < N
    · obtain ⟨g', rfl⟩ : ∃ g', gk = g' + 1 := ⟨gk - 1, by omega⟩
      have hil : i < ds.length := by rw [← HN.out]; exact hlt
      obtain ⟨gd, od, rfl, hcc⟩ : ∃ g o, da = some ⟨g, o, none⟩ ∧ ∀ i x, ds[i]? = some x → DCell w g (o + i * 6) x := by
        rcases HAT.out with e | q
        · rw [e] at hil; simp at hil
        · exact q
      have hc := hcc i _ (List.getElem?_eq_getElem hil)
      have hok := HOK.out _ (List.getElem_mem hil)
      have ht := wts_take ds i hil
      have hle := wts_le ds (i + 1)
      obtain ⟨hll, F, S⟩ := R.out
      have hbd := HBd.out
      obtain ⟨x, HX⟩ : ∃ x, Hid (x = ds[i]) := ⟨_, hid_of rfl⟩
      rw [← HX.out] at hc hok ht
      have hgB : gd < w.heap.size := cell_lt hc.c0
      rw [← HB.out] at hgB
      have hcr : ∀ o v, w.cell? ⟨gd, o, none⟩ = some v → wr.cell? ⟨gd, o, none⟩ = some v := fun o v e => (World.cell?_of_block (w := w) (S.bl.block gd hgB)).trans e
      have d0 := hcr _ _ hc.c0
      have d1 := hcr _ _ hc.c1
      have d2 := hcr _ _ hc.c2
      have d3 := hcr _ _ hc.c3
      have d4 := hcr _ _ hc.c4
      have d5 := hcr _ _ hc.c5
      have hsl : Base.SL (fun k => k < w.heap.size) w (.slice x.la x.m.length x.lc) x.m := hok.sl
      rw [← HB.out] at hsl
      have HM := hid_of (And.intro (hsl.keep fun k _ hk => S.bl.block k hk : Base.SL (fun k => k < B) wr (.slice x.la x.m.length x.lc) x.m) hok.im)
      have HIA := hid_of hok.ia
      have HIB := hid_of hok.ib
      have HLn := hid_of (show l'.length + x.m.length + 1 ≤ l.length + wts (ds.take (i + 1)) ∧ l'.length + x.m.length + 1 ≤ 1048576 by have hwx : x.wt = x.m.length + 1 := rfl; rw [ht, hwx]; rw [hwx] at ht; omega)
      have HS := hid_of S
      obtain ⟨K, la, lc, m, A, Bq, C, bf⟩ := x
      dsimp only at d0 d1 d2 d3 d4 d5 HM HIA HIB HLn
      clear R S hcc hc hok ht hle hll hbd hcr hsl HX hil
      have E0 := hid_of (Rn.start (K := K) (A := A) (Bq := Bq) (C := C) (bf := bf) HS.out HM.out.1)
      have HI := hid_of HM.out.2
      clear HM HS
      by_cases k0 : K = 0
      · subst k0
        as_aux_lemma =>
          have HT := hid_of (texts_call E0.out.sm HI.out (by have := HLn.out; omega))
          go_wp2_with fail
          refine HT.out.mono ?_
          rintro e w4 ⟨t4, rfl, n4, k4⟩
          have E4 := hid_of (E0.out.read k4)
          have HP := hid_of (SFront.pushFront_call E4.out.tx.dq (E0.out.far n4) (by rw [List.length_map, List.length_map]; have := HLn.out; omega))
          clear n4 k4 d0 d1 d2 d3 d4 d5
          go_wp2_with fail
          refine HP.out.mono ?_
          rintro e w5 ⟨rfl, q5, f5⟩
          have c1 := Rn.c1 (E4.out.box f5)
          have HR := hid_of (Ref.rpush_call (E4.out.tx.sl.fr f5) (E4.out.list f5) (by have := HLn.out; omega))
          have Q5 := hid_of (And.intro q5 f5)
          clear q5 f5
          go_wp2_with fail
          refine HR.out.mono ?_
          rintro e w6 ⟨r6, rfl, n6, k6⟩
          obtain ⟨l2, ET, HL2⟩ : ∃ l2, Hid (∃ F', Tx F' B b l2 r6 w w6) ∧ Hid (l2.length ≤ l.length + wts (ds.take (i + 1)) ∧ l2.length ≤ 1048576) :=
            ⟨m.reverse ++ l', E4.out.tx.next2 (by rw [List.map_append, List.map_reverse]; exact Q5.out.1) Q5.out.2 k6 n6.sl (ins_app (ins_rev HI.out) E4.out.tx.ins), by show _ ∧ _; rw [List.length_append, List.length_reverse]; have := HLn.out; omega⟩
          clear n6 k6
          obtain ⟨F2, E2⟩ := ET.out
          obtain ⟨ra, rc, rfl, _, _⟩ := id E2.sl
          have HE := hid_of E2
          have HLi := hid_of (SFree.list_call E2.dq (by rw [List.length_map]; have := HL2.out; omega))
          clear E2 ET
          go_wp2_with fail
          refine HLi.out.mono ?_
          rintro e wa ⟨va, rfl, na, ka⟩
          have HEa := hid_of (HE.out.read ka)
          have HTe := hid_of (texts_call HEa.out.sl HEa.out.ins (by have := HL2.out; omega))
          have HNa := hid_of na
          clear na ka
          go_wp2_with fail
          refine HTe.out.mono ?_
          rintro e wb ⟨vb, rfl, nb, kb⟩
          have HEb := hid_of (HEa.out.read kb)
          have HSm := hid_of (sameT_call (HNa.out.sl.below kb) nb.sl rfl (by rw [List.length_map]; have := HL2.out; omega))
          clear nb kb
          go_wp2_with fail
          refine HSm.out.mono ?_
          rintro e wc ⟨rfl, mc, rfl⟩
          have HEc := hid_of (HEb.out.drewN mc)
          go_wp2_with fail
          go_roundg g'
          case measure => omega
          case rel => exact ⟨i + 1, l2, ra, rc, by omega, by omega, rfl, by simp, ⟨HL2.out.1, F2, HEc.out⟩⟩
      by_cases k1 : K = 1
      · subst k1
        as_aux_lemma =>
          have HT := hid_of (texts_call E0.out.sm HI.out (by have := HLn.out; omega))
          go_wp2_with fail
          refine HT.out.mono ?_
          rintro e w4 ⟨t4, rfl, n4, k4⟩
          have E4 := hid_of (E0.out.read k4)
          have HP := hid_of (SPush.pushBack_call E4.out.tx.dq (E0.out.far n4) (by rw [List.length_map, List.length_map]; have := HLn.out; omega))
          clear n4 k4 d0 d1 d2 d3 d4 d5
          go_wp2_with fail
          refine HP.out.mono ?_
          rintro e w5 ⟨rfl, q5, f5⟩
          have c1 := Rn.c1 (E4.out.box f5)
          have HR := hid_of (Same.joined_call (E4.out.tx.sl.fr f5) (E4.out.list f5) (by have := HLn.out; omega))
          have Q5 := hid_of (And.intro q5 f5)
          clear q5 f5
          go_wp2_with fail
          refine HR.out.mono ?_
          rintro e w6 ⟨r6, rfl, n6, k6⟩
          obtain ⟨l2, ET, HL2⟩ : ∃ l2, Hid (∃ F', Tx F' B b l2 r6 w w6) ∧ Hid (l2.length ≤ l.length + wts (ds.take (i + 1)) ∧ l2.length ≤ 1048576) :=
            ⟨l' ++ m, E4.out.tx.next2 (by rw [List.map_append]; exact Q5.out.1) Q5.out.2 k6 n6.sl (ins_app E4.out.tx.ins HI.out), by show _ ∧ _; rw [List.length_append]; have := HLn.out; omega⟩
          clear n6 k6
          obtain ⟨F2, E2⟩ := ET.out
          obtain ⟨ra, rc, rfl, _, _⟩ := id E2.sl
          have HE := hid_of E2
          have HLi := hid_of (SFree.list_call E2.dq (by rw [List.length_map]; have := HL2.out; omega))
          clear E2 ET
          go_wp2_with fail
          refine HLi.out.mono ?_
          rintro e wa ⟨va, rfl, na, ka⟩
          have HEa := hid_of (HE.out.read ka)
          have HTe := hid_of (texts_call HEa.out.sl HEa.out.ins (by have := HL2.out; omega))
          have HNa := hid_of na
          clear na ka
          go_wp2_with fail
          refine HTe.out.mono ?_
          rintro e wb ⟨vb, rfl, nb, kb⟩
          have HEb := hid_of (HEa.out.read kb)
          have HSm := hid_of (sameT_call (HNa.out.sl.below kb) nb.sl rfl (by rw [List.length_map]; have := HL2.out; omega))
          clear nb kb
          go_wp2_with fail
          refine HSm.out.mono ?_
          rintro e wc ⟨rfl, mc, rfl⟩
          have HEc := hid_of (HEb.out.drewN mc)
          go_wp2_with fail
          go_roundg g'
          case measure => omega
          case rel => exact ⟨i + 1, l2, ra, rc, by omega, by omega, rfl, by simp, ⟨HL2.out.1, F2, HEc.out⟩⟩
      by_cases k2 : K = 2
      · subst k2
        as_aux_lemma =>
          have HP := hid_of (Ref.rpop_call E0.out.tx.sl A (by have := HLn.out; omega))
          have c2 := Rn.c2 E0.out.bx
          go_wp2_with fail
          refine HP.out.mono ?_
          rintro e w4 ⟨r4, s4, rfl, nr, ns, k4⟩
          have E4 := hid_of (E0.out.read k4)
          have e2 := Rn.c2 E4.out.bx
          have N4 := hid_of (And.intro nr ns)
          have HQ := hid_of (t_popFront E4.out.tx.dq A (by have := HLn.out; omega))
          have hF : Hid (∀ k, F k → k < (wr.alloc (.cells (box 2 A Bq C (.slice la m.length lc) bf) 30)).heap.size) := fun k e => (E0.out.tx.ow k e).2
          clear nr ns k4 c2 d0 d1 d2 d3 d4 d5
          go_wp2_with fail
          refine HQ.out.mono ?_
          rintro e w5 ⟨v5, rfl, n5, q5, f5⟩
          have HT := hid_of (texts_call (DoA.nr_sl N4.out.1 hF.out f5) (ins_take E4.out.tx.ins _) (by rw [List.length_take]; have := HLn.out; omega))
          have Q5 := hid_of (And.intro n5 (And.intro q5 f5))
          clear n5 q5 f5
          go_wp2_with fail
          refine HT.out.mono ?_
          rintro e w6 ⟨t6, rfl, n6, k6⟩
          have HZ := hid_of (sameT_call (Q5.out.1.sl.below k6) n6.sl rfl (by rw [List.length_map, List.length_take]; have := HLn.out; omega))
          have K6 := hid_of k6
          clear n6 k6
          go_wp2_with fail
          refine HZ.out.mono ?_
          rintro e w7 ⟨rfl, m7, rfl⟩
          obtain ⟨l2, ET, HL2⟩ : ∃ l2, Hid (∃ F', Tx F' B b l2 s4 w (w6.drewN m7)) ∧ Hid (l2.length ≤ l.length + wts (ds.take (i + 1)) ∧ l2.length ≤ 1048576) :=
            ⟨l'.drop (Keep.clamp A l'.length), by
              obtain ⟨F', q⟩ := E4.out.tx.next Q5.out.2.1 Q5.out.2.2 (DoA.nr_sl N4.out.2 hF.out Q5.out.2.2) (ins_drop E4.out.tx.ins _)
              exact ⟨F', (q.read K6.out).drewN m7⟩, by show _ ∧ _; rw [List.length_drop]; have := HLn.out; omega⟩
          obtain ⟨F2, E2⟩ := ET.out
          obtain ⟨ra, rc, rfl, _, _⟩ := id E2.sl
          have HE := hid_of E2
          have HLi := hid_of (SFree.list_call E2.dq (by rw [List.length_map]; have := HL2.out; omega))
          clear E2 ET
          go_wp2_with fail
          refine HLi.out.mono ?_
          rintro e wa ⟨va, rfl, na, ka⟩
          have HEa := hid_of (HE.out.read ka)
          have HTe := hid_of (texts_call HEa.out.sl HEa.out.ins (by have := HL2.out; omega))
          have HNa := hid_of na
          clear na ka
          go_wp2_with fail
          refine HTe.out.mono ?_
          rintro e wb ⟨vb, rfl, nb, kb⟩
          have HEb := hid_of (HEa.out.read kb)
          have HSm := hid_of (sameT_call (HNa.out.sl.below kb) nb.sl rfl (by rw [List.length_map]; have := HL2.out; omega))
          clear nb kb
          go_wp2_with fail
          refine HSm.out.mono ?_
          rintro e wc ⟨rfl, mc, rfl⟩
          have HEc := hid_of (HEb.out.drewN mc)
          go_wp2_with fail
          go_roundg g'
          case measure => omega
          case rel => exact ⟨i + 1, l2, ra, rc, by omega, by omega, rfl, by simp, ⟨HL2.out.1, F2, HEc.out⟩⟩
      by_cases k3 : K = 3
      · subst k3
        as_aux_lemma =>
          have H24 := hid_of (g24 (E0.out.drewN 1) (E0.out.drewN 1).tx.sl (by have := HLn.out; omega))
          obtain ⟨c2, c3, c5⟩ := E0.out.cells
          go_wp2_with fail
          go_region_held3 (fun W => W.cell? ⟨wr.heap.size, 2, none⟩ = some (.int .i64 A) ∧ W.cell? ⟨wr.heap.size, 3, none⟩ = some (.int .i64 Bq) ∧ W.cell? ⟨wr.heap.size, 5, none⟩ = some (.bool bf)) (first | exact ⟨c2, c3, c5⟩ | exact p4 | exact p5) (first
            | (go_at_call 24; refine H24.out.mono ?_; rintro e w4 ⟨t4, rfl, N4, p4⟩)
            | (go_at_call 21; have hk := N4.out; refine (g21 hk.2.2 hk.1.sl A (by rw [List.length_reverse]; have := HLn.out; omega)).mono ?_; rintro e w5 ⟨r5, s5, rfl, N5, p5⟩; clear hk))
          all_goals
            have G5 := hid_of (show Base.NR wr.heap.size w5 r5 (l'.drop (l'.length - Keep.clamp A l'.length)).reverse ∧ Base.NR wr.heap.size w5 s5 (l'.take (l'.length - Keep.clamp A l'.length)).reverse by
              obtain ⟨h1, h2, _⟩ := N5.out
              rw [List.length_reverse, List.take_reverse] at h1
              rw [List.length_reverse, List.drop_reverse] at h2
              exact ⟨h1, h2⟩)
            have HT := hid_of (g24 N5.out.2.2 G5.out.2.sl (by rw [List.length_reverse, List.length_take]; have := HLn.out; omega))
            clear c2 c3 c5 d0 d1 d2 d3 d4 d5 H24 p4 p5
            go_wp2_with fail
            refine HT.out.mono ?_
            rintro e w6 ⟨r6, rfl, N6, e2, e3, e5⟩
            have G6 := hid_of (G5.out.1.below N6.out.2.1)
            have HQ := hid_of (t_popBack N6.out.2.2.tx.dq A (by have := HLn.out; omega))
            go_wp2_with fail
            refine HQ.out.mono ?_
            rintro e w7 ⟨v7, rfl, n7, q7, f7⟩
            have HX := hid_of (texts_call (DoA.nr_sl G6.out N6.out.2.2.low f7) (ins_rev (ins_drop N6.out.2.2.tx.ins _)) (by rw [List.length_reverse, List.length_drop]; have := HLn.out; omega))
            have Q7 := hid_of (And.intro n7 (And.intro q7 f7))
            clear n7 q7 f7
            go_wp2_with fail
            refine HX.out.mono ?_
            rintro e w8 ⟨t8, rfl, n8, k8⟩
            have HZ := hid_of (sameT_call (Q7.out.1.sl.below k8) n8.sl rfl (by rw [List.length_map, List.length_reverse, List.length_drop]; have := HLn.out; omega))
            have K8 := hid_of k8
            clear n8 k8
            go_wp2_with fail
            refine HZ.out.mono ?_
            rintro e w9 ⟨rfl, m9, rfl⟩
            obtain ⟨l2, ET, HL2⟩ : ∃ l2, Hid (∃ F', Tx F' B b l2 r6 w (w8.drewN m9)) ∧ Hid (l2.length ≤ l.length + wts (ds.take (i + 1)) ∧ l2.length ≤ 1048576) :=
              ⟨l'.take (l'.length - Keep.clamp A l'.length), by
                have h6 := N6.out.1
                rw [List.reverse_reverse] at h6
                obtain ⟨F', q⟩ := N6.out.2.2.tx.next Q7.out.2.1 Q7.out.2.2 (DoA.nr_sl h6 N6.out.2.2.low Q7.out.2.2) (ins_take N6.out.2.2.tx.ins _)
                exact ⟨F', (q.read K8.out).drewN m9⟩, by show _ ∧ _; rw [List.length_take]; have := HLn.out; omega⟩
            obtain ⟨F2, E2⟩ := ET.out
            obtain ⟨ra, rc, rfl, _, _⟩ := id E2.sl
            have HE := hid_of E2
            have HLi := hid_of (SFree.list_call E2.dq (by rw [List.length_map]; have := HL2.out; omega))
            clear E2 ET
            go_wp2_with fail
            refine HLi.out.mono ?_
            rintro e wa ⟨va, rfl, na, ka⟩
            have HEa := hid_of (HE.out.read ka)
            have HTe := hid_of (texts_call HEa.out.sl HEa.out.ins (by have := HL2.out; omega))
            have HNa := hid_of na
            clear na ka
            go_wp2_with fail
            refine HTe.out.mono ?_
            rintro e wb ⟨vb, rfl, nb, kb⟩
            have HEb := hid_of (HEa.out.read kb)
            have HSm := hid_of (sameT_call (HNa.out.sl.below kb) nb.sl rfl (by rw [List.length_map]; have := HL2.out; omega))
            clear nb kb
            go_wp2_with fail
            refine HSm.out.mono ?_
            rintro e wc ⟨rfl, mc, rfl⟩
            have HEc := hid_of (HEb.out.drewN mc)
            go_wp2_with fail
            go_roundg g'
            case measure => omega
            case rel => exact ⟨i + 1, l2, ra, rc, by omega, by omega, rfl, by simp, ⟨HL2.out.1, F2, HEc.out⟩⟩
      by_cases k6 : K = 6
      · subst k6
        as_aux_lemma =>
          have HR := hid_of (RefC.rremove_call E0.out.tx.sl A Bq HIA.out.1 HIA.out.2 (by have := HLn.out; omega))
          obtain ⟨t, HTt⟩ : ∃ t : Nat, Hid (t = (Remove.remP l' A Bq).length) := ⟨_, hid_of rfl⟩
          rw [← HTt.out] at HR
          obtain ⟨c2, c3, c5⟩ := E0.out.cells
          go_wp2_with fail
          refine HR.out.mono ?_
          rintro e w4 ⟨r4, rfl, n4, k4⟩
          have E4 := hid_of (E0.out.read k4)
          have N4 := hid_of (n4.mono E0.out.sz)
          have H28 := hid_of (g28 (E4.out.drewN 1) HIB.out)
          obtain ⟨e2, e3, e5⟩ := E4.out.cells
          clear n4 k4 c2 c3 c5 d0 d1 d2 d3 d4 d5
          go_wp2_with fail
          go_region_held3 (fun W => W.cell? ⟨wr.heap.size, 2, none⟩ = some (.int .i64 A) ∧ W.cell? ⟨wr.heap.size, 3, none⟩ = some (.int .i64 Bq) ∧ W.cell? ⟨wr.heap.size, 5, none⟩ = some (.bool bf)) (first | exact ⟨e2, e3, e5⟩ | exact p5 | exact p6) (first
            | (go_at_call 28; refine H28.out.mono ?_; rintro e w5 ⟨rfl, N5, p5⟩)
            | (go_at_call 27; have hk := N5.out; refine (g27 hk.2 A HIB.out (by have := HLn.out; omega) HTt.out).mono ?_; rintro e w6 ⟨rfl, N6, p6⟩; clear hk))
          all_goals
            obtain ⟨l2, ET, HL2⟩ : ∃ l2, Hid (∃ F', Tx F' B b l2 r4 w w6) ∧ Hid (l2.length ≤ l.length + wts (ds.take (i + 1)) ∧ l2.length ≤ 1048576) :=
              ⟨DropC.dropS l' 0 (Remove.remP l' A Bq), N5.out.2.tx.next N6.out.1 N6.out.2.1 (DoA.nr_sl (N4.out.below ((bel_drewN w4 1).trans N5.out.1)) E0.out.low N6.out.2.1) (ins_dropS E0.out.tx.ins _ _), by show _ ∧ _; have := RefC.dropS_len l' 0 (Remove.remP l' A Bq); have := HLn.out; omega⟩
            have tt : (t == t) = true := by simp
            clear e2 e3 e5 p5 p6
            obtain ⟨F2, E2⟩ := ET.out
            obtain ⟨ra, rc, rfl, _, _⟩ := id E2.sl
            have HE := hid_of E2
            have HLi := hid_of (SFree.list_call E2.dq (by rw [List.length_map]; have := HL2.out; omega))
            clear E2 ET
            go_wp2_with fail
            refine HLi.out.mono ?_
            rintro e wa ⟨va, rfl, na, ka⟩
            have HEa := hid_of (HE.out.read ka)
            have HTe := hid_of (texts_call HEa.out.sl HEa.out.ins (by have := HL2.out; omega))
            have HNa := hid_of na
            clear na ka
            go_wp2_with fail
            refine HTe.out.mono ?_
            rintro e wb ⟨vb, rfl, nb, kb⟩
            have HEb := hid_of (HEa.out.read kb)
            have HSm := hid_of (sameT_call (HNa.out.sl.below kb) nb.sl rfl (by rw [List.length_map]; have := HL2.out; omega))
            clear nb kb
            go_wp2_with fail
            refine HSm.out.mono ?_
            rintro e wc ⟨rfl, mc, rfl⟩
            have HEc := hid_of (HEb.out.drewN mc)
            go_wp2_with fail
            go_roundg g'
            case measure => omega
            case rel => exact ⟨i + 1, l2, ra, rc, by omega, by omega, rfl, by simp, ⟨HL2.out.1, F2, HEc.out⟩⟩
      by_cases k7 : K = 7
      · subst k7
        as_aux_lemma =>
          have HR := hid_of (RefC.rinsert_call E0.out.tx.sl bf A Bq (by have := HLn.out; omega))
          obtain ⟨c2, c3, c5⟩ := E0.out.cells
          go_wp2_with fail
          refine HR.out.mono ?_
          rintro e w4 (⟨hno, rfl, hw4⟩ | ⟨k, r4, hk, hyes, rfl, n4, k4⟩)
          · rw [hw4]
            clear hw4 d0 d1 d2 d3 d4 d5
            have HNo := hid_of hno
            clear hno
            have H28 := hid_of (g28 (E0.out.drewN 1) HIA.out)
            go_wp2_with fail
            go_region_held3 (fun W => W.cell? ⟨wr.heap.size, 2, none⟩ = some (.int .i64 A) ∧ W.cell? ⟨wr.heap.size, 3, none⟩ = some (.int .i64 Bq) ∧ W.cell? ⟨wr.heap.size, 5, none⟩ = some (.bool bf)) (first | exact ⟨c2, c3, c5⟩ | exact p5 | exact p6 | exact p7) (first
              | (go_at_call 28; have hk := N5.out; refine (g28 hk.2 HIB.out).mono ?_; rintro e w6 ⟨rfl, N6, p6⟩; clear hk)
              | (go_at_call 28; refine H28.out.mono ?_; rintro e w5 ⟨rfl, N5, p5⟩)
              | (go_at_call 30; have hk := N6.out; refine (g30no hk.2 bf Bq HIA.out (by have := HLn.out; omega) HNo.out).mono ?_; rintro e w7 ⟨rfl, N7, p7⟩; clear hk))
            all_goals
              have ET : Hid (∃ F', Tx F' B b l' (.slice ua l'.length uc) w w7) := ⟨F, N7.out.tx⟩
              have HL2 : Hid (l'.length ≤ l.length + wts (ds.take (i + 1)) ∧ l'.length ≤ 1048576) := by show _ ∧ _; have := HLn.out; omega
              clear c2 c3 c5 p5 p6 p7
              obtain ⟨F2, E2⟩ := ET.out
              have HE := hid_of E2
              have HLi := hid_of (SFree.list_call E2.dq (by rw [List.length_map]; have := HL2.out; omega))
              clear E2 ET
              go_wp2_with fail
              refine HLi.out.mono ?_
              rintro e wa ⟨va, rfl, na, ka⟩
              have HEa := hid_of (HE.out.read ka)
              have HTe := hid_of (texts_call HEa.out.sl HEa.out.ins (by have := HL2.out; omega))
              have HNa := hid_of na
              clear na ka
              go_wp2_with fail
              refine HTe.out.mono ?_
              rintro e wb ⟨vb, rfl, nb, kb⟩
              have HEb := hid_of (HEa.out.read kb)
              have HSm := hid_of (sameT_call (HNa.out.sl.below kb) nb.sl rfl (by rw [List.length_map]; have := HL2.out; omega))
              clear nb kb
              go_wp2_with fail
              refine HSm.out.mono ?_
              rintro e wc ⟨rfl, mc, rfl⟩
              have HEc := hid_of (HEb.out.drewN mc)
              go_wp2_with fail
              go_roundg g'
              case measure => omega
              case rel => exact ⟨i + 1, l', ua, uc, by omega, by omega, rfl, by simp, ⟨HL2.out.1, F2, HEc.out⟩⟩
          · have E4 := hid_of (E0.out.read k4)
            have N4 := hid_of (n4.mono E0.out.sz)
            have HY := hid_of (And.intro hyes hk)
            have H28 := hid_of (g28 (E4.out.drewN 1) HIA.out)
            obtain ⟨e2, e3, e5⟩ := E4.out.cells
            obtain ⟨t, HTt⟩ : ∃ t : Nat, Hid (t = l'.length + 1) := ⟨_, hid_of rfl⟩
            rw [← HTt.out]
            clear n4 k4 c2 c3 c5 d0 d1 d2 d3 d4 d5 hyes hk
            go_wp2_with fail
            go_region_held3 (fun W => W.cell? ⟨wr.heap.size, 2, none⟩ = some (.int .i64 A) ∧ W.cell? ⟨wr.heap.size, 3, none⟩ = some (.int .i64 Bq) ∧ W.cell? ⟨wr.heap.size, 5, none⟩ = some (.bool bf)) (first | exact ⟨e2, e3, e5⟩ | exact p5 | exact p6 | exact p7) (first
              | (go_at_call 28; have hk := N5.out; refine (g28 hk.2 HIB.out).mono ?_; rintro e w6 ⟨rfl, N6, p6⟩; clear hk)
              | (go_at_call 28; refine H28.out.mono ?_; rintro e w5 ⟨rfl, N5, p5⟩)
              | (go_at_call 30; have hk := N6.out; refine (g30yes hk.2 bf Bq k HIA.out (by have := HLn.out; omega) HY.out.1 HY.out.2 HTt.out).mono ?_; rintro e w7 ⟨rfl, N7, p7⟩; clear hk))
            all_goals
              obtain ⟨l2, ET, HL2⟩ : ∃ l2, Hid (∃ F', Tx F' B b l2 r4 w w7) ∧ Hid (l2.length ≤ l.length + wts (ds.take (i + 1)) ∧ l2.length ≤ 1048576) :=
                ⟨Insert.insS l' (if bf then k else k + 1) Bq, N6.out.2.tx.next N7.out.1 N7.out.2.1 (DoA.nr_sl ((N4.out.below ((bel_drewN w4 1).trans N5.out.1)).below N6.out.1) E0.out.low N7.out.2.1) (ins_insS E0.out.tx.ins _ HIB.out), by
                  show _ ∧ _
                  have := HY.out.2
                  rw [Insert.insS_len _ _ _ (by split <;> omega)]
                  have := HLn.out
                  omega⟩
              have tt : (t == t) = true := by simp
              clear e2 e3 e5 p5 p6 p7
              obtain ⟨F2, E2⟩ := ET.out
              obtain ⟨ra, rc, rfl, _, _⟩ := id E2.sl
              have HE := hid_of E2
              have HLi := hid_of (SFree.list_call E2.dq (by rw [List.length_map]; have := HL2.out; omega))
              clear E2 ET
              go_wp2_with fail
              refine HLi.out.mono ?_
              rintro e wa ⟨va, rfl, na, ka⟩
              have HEa := hid_of (HE.out.read ka)
              have HTe := hid_of (texts_call HEa.out.sl HEa.out.ins (by have := HL2.out; omega))
              have HNa := hid_of na
              clear na ka
              go_wp2_with fail
              refine HTe.out.mono ?_
              rintro e wb ⟨vb, rfl, nb, kb⟩
              have HEb := hid_of (HEa.out.read kb)
              have HSm := hid_of (sameT_call (HNa.out.sl.below kb) nb.sl rfl (by rw [List.length_map]; have := HL2.out; omega))
              clear nb kb
              go_wp2_with fail
              refine HSm.out.mono ?_
              rintro e wc ⟨rfl, mc, rfl⟩
              have HEc := hid_of (HEb.out.drewN mc)
              go_wp2_with fail
              go_roundg g'
              case measure => omega
              case rel => exact ⟨i + 1, l2, ra, rc, by omega, by omega, rfl, by simp, ⟨HL2.out.1, F2, HEc.out⟩⟩
      have j0 : (K == 0) = false := by simpa using k0
      have j1 : (K == 1) = false := by simpa using k1
      have j2 : (K == 2) = false := by simpa using k2
      have j3 : (K == 3) = false := by simpa using k3
      have j6 : (K == 6) = false := by simpa using k6
      have j7 : (K == 7) = false := by simpa using k7
      clear k0 k1 k2 k3 k6 k7
      obtain ⟨x, HX⟩ : ∃ x, Hid (x = (Place.atS l' A).1) := ⟨_, hid_of rfl⟩
      obtain ⟨t, HTt⟩ : ∃ t, Hid (t = (Place.atS l' A).2) := ⟨_, hid_of rfl⟩
      have HA := hid_of (g31 E0.out A HIA.out HX.out HTt.out)
      have HIX : Hid (InI x) := by rw [HX.out]; exact at_in E0.out.tx.ins A
      have HLp := hid_of (piece_len l' A Bq)
      obtain ⟨c2, c3, c5⟩ := E0.out.cells
      cases t
      · obtain rfl : x = 0 := by rw [HX.out]; exact at_none HTt.out.symm
        as_aux_lemma =>
          go_wp2_with fail
          refine HA.out.mono ?_
          rintro e w4 ⟨rfl, k4⟩
          have E4 := hid_of (E0.out.read k4)
          have HR := hid_of (RefB.rat_call E4.out.tx.sl A HIA.out.1 (by have := HLn.out; omega))
          rw [← HX.out, ← HTt.out] at HR
          obtain ⟨e2, e3, e5⟩ := E4.out.cells
          clear k4 c2 c3 c5 d0 d1 d2 d3 d4 d5
          go_wp2_with fail
          refine HR.out.mono ?_
          rintro e w5 ⟨rfl, hw5⟩
          rw [hw5]
          clear hw5
          have H28 := hid_of (g28 (E4.out.drewN 1) HIX.out)
          have zz := zero_text
          have zl := zero_list
          go_wp2_with fail
          go_region_held3 (fun W => W.cell? ⟨wr.heap.size, 2, none⟩ = some (.int .i64 A) ∧ W.cell? ⟨wr.heap.size, 3, none⟩ = some (.int .i64 Bq) ∧ W.cell? ⟨wr.heap.size, 5, none⟩ = some (.bool bf)) (first | exact ⟨e2, e3, e5⟩ | exact p5 | exact p6 | exact p7 | exact p8 | exact p9) (first
            | (go_at_call 28; refine H28.out.mono ?_; rintro e w5 ⟨rfl, N5, p5⟩)
            | (go_at_call 33; have hk := N5.out; refine (g33 hk.2 A Bq HIA.out HIB.out (by have := HLn.out; omega)).mono ?_; rintro e w6 ⟨v6, rfl, N6, p6⟩; clear hk)
            | (go_at_call 34; have hk := N6.out; refine (g34 hk.2.2 A Bq HIA.out HIB.out (by have := HLn.out; omega)).mono ?_; rintro e w7 ⟨v7, rfl, N7, p7⟩; have G7 := hid_of (hk.1.below N7.out.2.1); clear hk)
            | (go_at_call 16; have hk := N7.out; refine (g16 hk.2.2 hk.1.sl (ins_piece E0.out.tx.ins A Bq) (by have := HLn.out; have := HLp.out; omega)).mono ?_; rintro e w8 ⟨v8, rfl, N8, p8⟩; have G8 := hid_of (G7.out.below N8.out.2.1); clear hk)
            | (go_at_call 22; have hk := N8.out; refine (g22 hk.2.2 G8.out hk.1 (by rw [List.length_map]; have := HLn.out; have := HLp.out; omega)).mono ?_; rintro e w9 ⟨rfl, N9, p9⟩; clear hk))
          all_goals
            have ET : Hid (∃ F', Tx F' B b l' (.slice ua l'.length uc) w w9) := ⟨F, N9.out.tx⟩
            have HL2 : Hid (l'.length ≤ l.length + wts (ds.take (i + 1)) ∧ l'.length ≤ 1048576) := by show _ ∧ _; have := HLn.out; omega
            clear e2 e3 e5 p5 p6 p7 p8 p9
            obtain ⟨F2, E2⟩ := ET.out
            have HE := hid_of E2
            have HLi := hid_of (SFree.list_call E2.dq (by rw [List.length_map]; have := HL2.out; omega))
            clear E2 ET
            go_wp2_with fail
            refine HLi.out.mono ?_
            rintro e wa ⟨va, rfl, na, ka⟩
            have HEa := hid_of (HE.out.read ka)
            have HTe := hid_of (texts_call HEa.out.sl HEa.out.ins (by have := HL2.out; omega))
            have HNa := hid_of na
            clear na ka
            go_wp2_with fail
            refine HTe.out.mono ?_
            rintro e wb ⟨vb, rfl, nb, kb⟩
            have HEb := hid_of (HEa.out.read kb)
            have HSm := hid_of (sameT_call (HNa.out.sl.below kb) nb.sl rfl (by rw [List.length_map]; have := HL2.out; omega))
            clear nb kb
            go_wp2_with fail
            refine HSm.out.mono ?_
            rintro e wc ⟨rfl, mc, rfl⟩
            have HEc := hid_of (HEb.out.drewN mc)
            go_wp2_with fail
            go_roundg g'
            case measure => omega
            case rel => exact ⟨i + 1, l', ua, uc, by omega, by omega, rfl, by simp, ⟨HL2.out.1, F2, HEc.out⟩⟩
      · as_aux_lemma =>
          go_wp2_with fail
          refine HA.out.mono ?_
          rintro e w4 ⟨rfl, k4⟩
          have E4 := hid_of (E0.out.read k4)
          have HR := hid_of (RefB.rat_call E4.out.tx.sl A HIA.out.1 (by have := HLn.out; omega))
          rw [← HX.out, ← HTt.out] at HR
          obtain ⟨e2, e3, e5⟩ := E4.out.cells
          clear k4 c2 c3 c5 d0 d1 d2 d3 d4 d5
          go_wp2_with fail
          refine HR.out.mono ?_
          rintro e w5 ⟨rfl, hw5⟩
          rw [hw5]
          clear hw5
          have H28 := hid_of (g28 (E4.out.drewN 1) HIX.out)
          have xx : (prt x == prt x) = true := by simp
          have hud : undef = Value.tuple #[] := rfl
          go_wp2_with fail
          first | go_region_held (fun W => W.cell? ⟨wr.heap.size, 2, none⟩ = some (.int .i64 A) ∧ W.cell? ⟨wr.heap.size, 3, none⟩ = some (.int .i64 Bq) ∧ W.cell? ⟨wr.heap.size, 5, none⟩ = some (.bool bf)) (first | exact ⟨e2, e3, e5⟩ | exact p5 | exact p6 | exact p7 | exact p8 | exact p9) (first
            | (go_at_call 28; refine H28.out.mono ?_; rintro e w5 ⟨rfl, N5, p5⟩)
            | (go_at_call 33; have hk := N5.out; refine (g33 hk.2 A Bq HIA.out HIB.out (by have := HLn.out; omega)).mono ?_; rintro e w6 ⟨v6, rfl, N6, p6⟩; clear hk)
            | (go_at_call 34; have hk := N6.out; refine (g34 hk.2.2 A Bq HIA.out HIB.out (by have := HLn.out; omega)).mono ?_; rintro e w7 ⟨v7, rfl, N7, p7⟩; have G7 := hid_of (hk.1.below N7.out.2.1); clear hk)
            | (go_at_call 16; have hk := N7.out; refine (g16 hk.2.2 hk.1.sl (ins_piece E0.out.tx.ins A Bq) (by have := HLn.out; have := HLp.out; omega)).mono ?_; rintro e w8 ⟨v8, rfl, N8, p8⟩; have G8 := hid_of (G7.out.below N8.out.2.1); clear hk)
            | (go_at_call 22; have hk := N8.out; refine (g22 hk.2.2 G8.out hk.1 (by rw [List.length_map]; have := HLn.out; have := HLp.out; omega)).mono ?_; rintro e w9 ⟨rfl, N9, p9⟩; clear hk)) | fail
          all_goals
            have ET : Hid (∃ F', Tx F' B b l' (.slice ua l'.length uc) w w9) := ⟨F, N9.out.tx⟩
            have HL2 : Hid (l'.length ≤ l.length + wts (ds.take (i + 1)) ∧ l'.length ≤ 1048576) := by show _ ∧ _; have := HLn.out; omega
            clear hud e2 e3 e5 p5 p6 p7 p8 p9
            obtain ⟨F2, E2⟩ := ET.out
            have HE := hid_of E2
            have HLi := hid_of (SFree.list_call E2.dq (by rw [List.length_map]; have := HL2.out; omega))
            clear E2 ET
            go_wp2_with fail
            refine HLi.out.mono ?_
            rintro e wa ⟨va, rfl, na, ka⟩
            have HEa := hid_of (HE.out.read ka)
            have HTe := hid_of (texts_call HEa.out.sl HEa.out.ins (by have := HL2.out; omega))
            have HNa := hid_of na
            clear na ka
            go_wp2_with fail
            refine HTe.out.mono ?_
            rintro e wb ⟨vb, rfl, nb, kb⟩
            have HEb := hid_of (HEa.out.read kb)
            have HSm := hid_of (sameT_call (HNa.out.sl.below kb) nb.sl rfl (by rw [List.length_map]; have := HL2.out; omega))
            clear nb kb
            go_wp2_with fail
            refine HSm.out.mono ?_
            rintro e wc ⟨rfl, mc, rfl⟩
            have HEc := hid_of (HEb.out.drewN mc)
            go_wp2_with fail
            go_roundg g'
            case measure => omega
            case rel => exact ⟨i + 1, l', ua, uc, by omega, by omega, rfl, by simp, ⟨HL2.out.1, F2, HEc.out⟩⟩
    · have HF := hid_of R.out
      clear R
      go_wp2_with fail
      go_ret
      obtain ⟨_, F, S⟩ := HF.out
      exact ⟨rfl, S.bl⟩
end Go.Proofs.Ytdmjfmojacnbeaa.SDoes
