/- The document's Decode of effects. The law EffectBack. The law EffectReads. -/
import Derived.Test.YtpnigkjmofhmbabGreatDTake4M
import Derived.Test.YtpnigkjmofhmbabGreatEDecM
import Derived.Test.YtpnigkjmofhmbabGreatFSame
import Derived.Test.YtpnigkjmofhmbabGreatRCheckM
import Derived.Test.YtpnigkjmofhmbabGreatEDoM
import Derived.Test.YtpnigkjmofhmbabGreatDFixM
section
namespace Go.Proofs.YtpnigkjmofhmbabGreat.DDec
open Go.RowKit Go.Maps
open Go.Proofs.YtpnigkjmofhmbabGreat.SetMath
open Go.Proofs.YtpnigkjmofhmbabGreat.BytesMath
open Go.Proofs.YtpnigkjmofhmbabGreat.FixMath
open Go.Proofs.YtpnigkjmofhmbabGreat.ValueMath
open Go.Proofs.YtpnigkjmofhmbabGreat.ReadMath
open Go.Proofs.YtpnigkjmofhmbabGreat.Base
open Go.Proofs.YtpnigkjmofhmbabGreat.Vals
open Go.Proofs.YtpnigkjmofhmbabGreat.SBase (Ef)
open Go.Proofs.YtpnigkjmofhmbabGreat.SFind (alb)
open Go.Proofs.YtpnigkjmofhmbabGreat.SSet (box8)
open Go.Proofs.YtpnigkjmofhmbabGreat.Chunk
open Go.Proofs.YtpnigkjmofhmbabGreat.EMay
open Go.Proofs.YtpnigkjmofhmbabGreat.EAll
open Go.Proofs.YtpnigkjmofhmbabGreat.ERd
open Go.Proofs.YtpnigkjmofhmbabGreat.EEff
open Go.Proofs.YtpnigkjmofhmbabGreat.EDec
open Go.Proofs.YtpnigkjmofhmbabGreat.EDecC
open Go.Proofs.YtpnigkjmofhmbabGreat.DTakM
open Go.Proofs.YtpnigkjmofhmbabGreat.DTake
set_option linter.unusedVariables false
set_option linter.unusedSimpArgs false
set_option maxHeartbeats 4000000 in
set_option maxRecDepth 100000 in
theorem rdecode_call (s : Bs) (w : World) (hl : s.length < 549755813888) : Calls Tryz.prog 8 #[.string (mk s)] w (DcE s w) := by
  obtain ⟨i0, hi, hz0, hz1, hz2⟩ := FRow.parts_of infoF
  unfold DcE
  go_enter Tryz.func8, Tryz.ntmps8
  go_wp2_with fail
  go_loopg [0, 4] (s.length + 1) (fun g s0 v wx => ∃ (r : Bs) (l : List Ef) (C : Cs), s0 = .string (mk r) ∧ r.length < g ∧ r.length + l.length ≤ s.length ∧ Hid (Below w.heap.size w wx) ∧ Hid (DLa w.heap.size C wx v l) ∧ Hid (dcL s = (dcL r).map (l ++ ·)))
  case atStart => exact ⟨s, [], [], rfl, by omega, by simp, hid_of (Below.refl _ _), hid_of (dl_nil _ _), hid_of (by cases dcL s <;> simp)⟩
  case round =>
    obtain ⟨r, l, C, rfl, hrg, hrl, HN, HDL, HDC⟩ := hrel
    obtain ⟨a, c, rfl⟩ := dl_shape HDL.out
    obtain ⟨g', rfl⟩ : ∃ g', gk = g' + 1 := ⟨gk - 1, by omega⟩
    have e0 := empty_list r
    have e1 := beq_list r
    by_cases hne : r = []
    · have HF : Hid (dcL s = some l) := hid_of (by have q := HDC.out; rw [hne, dc_nil] at q; simpa using q)
      rw [decide_eq_true hne] at e0 e1
      generalize mk r = X at *
      clear hne
      go_wp2_with fail
      go_ret2
      refine ⟨_, by rw [(dcN_some HF.out).1]; rfl, ?_, HN.out⟩
      rw [(dcN_some HF.out).2]
      exact ⟨C, HDL.out⟩
    · rw [decide_eq_false hne] at e0 e1
      have HE := hid_of (DTake5.take_call r wr hne (by omega))
      unfold TkE at HE
      have HLT : Hid ((efS (r, false)).2.2 = false → (efS (r, false)).2.1.length < r.length) := hid_of (ef_lt hne)
      have HNO : Hid (bad r → dcL s = none) := hid_of fun q => by
        have := HDC.out
        rw [dc_no hne q] at this
        simpa using this
      have HYE : Hid (¬ bad r → dcL s = (dcL (efS (r, false)).2.1).map ((l ++ [(efS (r, false)).1]) ++ ·)) := hid_of fun q => by
        have q' : ((efS (r, false)).2.2 || !mayE (efS (r, false)).1) = false := by
          cases e : ((efS (r, false)).2.2 || !mayE (efS (r, false)).1) with
          | false => rfl
          | true => exact absurd e q
        have := HDC.out
        rw [dc_yes hne q'] at this
        rw [this]
        cases dcL (efS (r, false)).2.1 <;> simp
      have HBF : Hid (¬ bad r → (efS (r, false)).2.2 = false) := hid_of fun q => by
        cases e : (efS (r, false)).2.2 with
        | false => rfl
        | true => exact absurd (bad_fl e) q
      generalize mk r = X at *
      go_wp2_with fail
      refine HE.out.mono ?_
      rintro e w1 ⟨kd, K, k2, T, a1, n1, c1, a2, n2, c2, a3, n3, c3, d, R, ok, rfl, b1, hcase⟩
      rcases hcase with ⟨rfl, hb⟩ | ⟨rfl, hb, hkd, hK, hd, hR, hv⟩
      · have HNN := hid_of (HNO.out hb)
        have HN1 := hid_of (FRow.bel HN.out b1 (Nat.le_refl _))
        clear hb b1
        go_wp2_with fail
        go_ret2
        refine ⟨_, by rw [(dcN_none HNN.out).1]; rfl, ?_, ?_⟩
        · rw [(dcN_none HNN.out).2]
          exact ⟨[], dl_nil _ _⟩
        · exact FRow.bel HN1.out (alb w1 _) (Nat.le_refl _)
      · have HYY := hid_of (HYE.out hb)
        have hlt := HLT.out (HBF.out hb)
        have HEQ := hid_of (show kd = (efS (r, false)).1.kind ∧ K = mk (efS (r, false)).1.key ∧ d = (efS (r, false)).1.due ∧ R = mk (efS (r, false)).2.1 from ⟨hkd, hK, hd, hR⟩)
        have HR' := hid_of hR
        clear hkd hK hd hR hb HNO HYE HLT HBF HE
        obtain ⟨f, hf⟩ : ∃ f, (efS (r, false)).1 = f := ⟨_, rfl⟩
        obtain ⟨r', hr'⟩ : ∃ r', (efS (r, false)).2.1 = r' := ⟨_, rfl⟩
        rw [hf, hr'] at HYY HEQ
        rw [hf] at hv
        rw [hr'] at hlt HR'
        have hsw := HN.out.size
        obtain ⟨W1, hW1⟩ : ∃ W1, W1 = w1.alloc (fO kd k2 d K T (.slice a1 n1 c1) (.slice a2 n2 c2) (.slice a3 n3 c3)) := ⟨_, rfl⟩
        have bW1 : Below w1.heap.size w1 W1 := by rw [hW1]; exact alb _ _
        have HX := hid_of (show W1.heap[w1.heap.size]? = some (fO kd k2 d K T (.slice a1 n1 c1) (.slice a2 n2 c2) (.slice a3 n3 c3)) by rw [hW1]; exact heap_alloc_new w1 _)
        have HVN := hid_of (((hv.mono hsw).below bW1))
        have bwW : Below wr.heap.size wr W1 := FRow.bel b1 bW1 (Nat.le_refl _)
        have HL1 := hid_of (HDL.out.below bwW)
        have HN1 := hid_of (FRow.bel HN.out bwW (Nat.le_refl _))
        have HW1 := hid_of hW1
        have hrow := HL1.out.row.alloc (.cells #[.int .i64 kd, .string K, .int .i64 k2, .string T, .slice a1 n1 c1, .slice a2 n2 c2, .slice a3 n3 c3, .int .i64 d] 40)
        have hb96 : (l.length + 1) * 128 ≤ 140737488355328 := by omega
        have hnew : ∀ (j : Nat) (u : Value), [.int .i64 kd, .string K, .int .i64 k2, .string T, .slice a1 n1 c1, .slice a2 n2 c2, .slice a3 n3 c3, .int .i64 d][j]? = some u → ((w1.alloc (fO kd k2 d K T (.slice a1 n1 c1) (.slice a2 n2 c2) (.slice a3 n3 c3))).alloc (.cells #[.int .i64 kd, .string K, .int .i64 k2, .string T, .slice a1 n1 c1, .slice a2 n2 c2, .slice a3 n3 c3, .int .i64 d] 40)).cell? ((⟨w1.heap.size + 1, 0, none⟩ : Addr).add j) = some u := by
          have q := news8 (w1.alloc (fO kd k2 d K T (.slice a1 n1 c1) (.slice a2 n2 c2) (.slice a3 n3 c3))) (.int .i64 kd) (.string K) (.int .i64 k2) (.string T) (.slice a1 n1 c1) (.slice a2 n2 c2) (.slice a3 n3 c3) (.int .i64 d) 40
          have e : (w1.alloc (fO kd k2 d K T (.slice a1 n1 c1) (.slice a2 n2 c2) (.slice a3 n3 c3))).heap.size = w1.heap.size + 1 := by simp
          rw [e] at q
          exact q
        clear hv bW1 bwW b1 hW1
        obtain ⟨⟨y0, y1, y2, y3, y4, y5, y6, y7⟩, -⟩ := box8 HX.out
        rw [HW1.out] at hrow y0 y1 y2 y3 y4 y5 y6 y7
        go_wp2_with (first
          | (at_builtin; refine wpList_append_own _ rfl _ _ 22 rfl w.heap.size 40 i0 (.agg #[.int .i64 0, .string ⟨#[]⟩, .int .i64 0, .string ⟨#[]⟩, .slice none 0 0, .slice none 0 0, .slice none 0 0, .int .i64 0]) 8 128 Tryz.underlying22 hi hz0 hz1 hz2 rfl (by decide) _ _ _ rfl hrow ⟨w1.heap.size + 1, 0, none⟩ 1 1 [.int .i64 kd, .string K, .int .i64 k2, .string T, .slice a1 n1 c1, .slice a2 n2 c2, .slice a3 n3 c3, .int .i64 d] rfl rfl hnew (by simp [Value.oneCell']) (by unfold maxLen; omega) (by omega) (by rw [← HW1.out]; have := HN1.out.size; simp; omega) ?_; intro v' w4 hown' hg4 hnil4; go_frame)
          | go_in)
        rw [← HW1.out] at hg4 hrow
        have nf : NF w.heap.size (W1.alloc (.cells #[.int .i64 kd, .string K, .int .i64 k2, .string T, .slice a1 n1 c1, .slice a2 n2 c2, .slice a3 n3 c3, .int .i64 d] 40)) [.int .i64 kd, .string K, .int .i64 k2, .string T, .slice a1 n1 c1, .slice a2 n2 c2, .slice a3 n3 c3, .int .i64 d] f := ⟨k2, T, a1, n1, c1, a2, n2, c2, a3, n3, c3, by rw [HEQ.out.1, HEQ.out.2.1, HEQ.out.2.2.1], HVN.out.below (alb _ _)⟩
        have HL4 := hid_of (dl_app (HL1.out.below (alb _ _)) nf hown' hg4 rfl)
        have HN4 := hid_of (show Below w.heap.size w w4 from (HN1.out.trans ((alb W1 _).mono HN1.out.size)).grown hg4 (by have := HN1.out.size; simp; omega) (fun j hj => (Push.row_kd hrow hj).2.2))
        clear nf hnew hown' hg4 hnil4 hrow y0 y1 y2 y3 y4 y5 y6 y7
        go_roundg g'
        case measure => omega
        case rel => exact ⟨r', l ++ [f], _, by rw [HR'.out], by omega, by simp; omega, HN4, HL4, HYY⟩
end Go.Proofs.YtpnigkjmofhmbabGreat.DDec
end
section
namespace Go.Proofs.YtpnigkjmofhmbabGreat.LawB
open Go.RowKit Go.Maps
open Go.Proofs.YtpnigkjmofhmbabGreat.SetMath
open Go.Proofs.YtpnigkjmofhmbabGreat.BytesMath
open Go.Proofs.YtpnigkjmofhmbabGreat.FixMath
open Go.Proofs.YtpnigkjmofhmbabGreat.ValueMath
open Go.Proofs.YtpnigkjmofhmbabGreat.Base
open Go.Proofs.YtpnigkjmofhmbabGreat.Vals
open Go.Proofs.YtpnigkjmofhmbabGreat.Check0
open Go.Proofs.YtpnigkjmofhmbabGreat.SBase (Ef)
open Go.Proofs.YtpnigkjmofhmbabGreat.EMay
open Go.Proofs.YtpnigkjmofhmbabGreat.EAll
open Go.Proofs.YtpnigkjmofhmbabGreat.EEnc
open Go.Proofs.YtpnigkjmofhmbabGreat.EDec
open Go.Proofs.YtpnigkjmofhmbabGreat.EDecC
open Go.Proofs.YtpnigkjmofhmbabGreat.FTwin
set_option linter.unusedVariables false
set_option linter.unusedSimpArgs false
theorem all_take (l : List Ef) (k : Nat) (h : k < l.length) : allE (l.take (k + 1)) = (allE (l.take k) && mayE (l[k]'h)) := by
  unfold allE
  rw [List.take_succ_eq_append_getElem h, List.all_append]
  simp
theorem dc_len : ∀ (n : Nat) (s : Bs) (l : List Ef), s.length ≤ n → dcL s = some l → l.length ≤ s.length := by
  intro n
  induction n with
  | zero =>
    intro s l hn h
    have : s = [] := List.length_eq_zero_iff.1 (by omega)
    subst this
    rw [dc_nil] at h
    injection h with h
    subst h
    exact Nat.le_refl _
  | succ n ih =>
    intro s l hn h
    by_cases hs : s = []
    · subst hs
      rw [dc_nil] at h
      injection h with h
      subst h
      exact Nat.le_refl _
    · cases hb : ((EEff.efS (s, false)).2.2 || !mayE (EEff.efS (s, false)).1) with
      | true => rw [dc_no hs hb] at h; cases h
      | false =>
        rw [dc_yes hs hb] at h
        rw [Bool.or_eq_false_iff] at hb
        have hlt := ef_lt hs hb.1
        obtain ⟨m, h1, rfl⟩ := Option.map_eq_some_iff.1 h
        have := ih _ m (by omega) h1
        rw [List.length_cons]
        omega
/-- what comes of the second half: the bytes s are read, and what is read is written -/
def Hf (s : Bs) (w : World) (W : World) : Prop := (dcL s = none ∧ Calls Tryz.prog 7 #[.string (mk s)] W fun e w' => ∃ a c, e = .returned (.tuple #[.slice a 0 c, .int .i64 160]) ∧ Below W.heap.size W w') ∨ (∃ m, dcL s = some m ∧ Calls Tryz.prog 7 #[.string (mk s)] W fun e w' => ∃ a c, e = .returned (.tuple #[.slice a m.length c, .int .i64 0]) ∧ Below W.heap.size W w' ∧ Calls Tryz.prog 11 #[.slice a m.length c] w' fun e w2 => e = .returned (.tuple #[.string (mk s), .int .i64 0]) ∧ Below w'.heap.size w' w2)
theorem half (s : Bs) (w W : World) (hs : s.length < 549755813888) : Hf s w W := by
  cases hd : dcL s with
  | none =>
    refine .inl ⟨hd, ?_⟩
    refine (decode_call s W hs).mono ?_
    rintro e w' ⟨v, rfl, ⟨C, hC⟩, hb⟩
    obtain ⟨a, c, rfl⟩ := dl_shape hC
    have e1 : dcR s = [] := by unfold dcR; rw [hd]; rfl
    have e2 : dcN s = 160 := by unfold dcN; rw [hd]; rfl
    rw [e1, e2]
    exact ⟨a, c, rfl, hb⟩
  | some m =>
    refine .inr ⟨m, hd, ?_⟩
    refine (decode_call s W hs).mono ?_
    rintro e w' ⟨v, rfl, ⟨C, hC⟩, hb⟩
    obtain ⟨a, c, rfl⟩ := dl_shape hC
    have e1 : dcR s = m := by unfold dcR; rw [hd]; rfl
    have e2 : dcN s = 0 := by unfold dcN; rw [hd]; rfl
    rw [e1] at hC ⊢
    rw [e2]
    obtain ⟨q1, q2, q3⟩ := EBackM.dc_some s.length s m (Nat.le_refl _) (by omega) hd
    have hF := dl_fsl hC
    have hml : m.length ≤ s.length := dc_len s.length s m (Nat.le_refl _) hd
    have := encode_call hF q3 (by omega) (fun _ => by rw [q2]; omega)
    unfold EEnc.encS encN at this
    rw [q1, q2] at this
    exact ⟨a, c, rfl, hb, this⟩
set_option maxHeartbeats 4000000 in
set_option maxRecDepth 100000 in
theorem back_call {w : World} {v : Value} {l : List Ef} {s : Bs} (h : FSl w v l) (hn : ∀ f ∈ l, Nice f) (hl : l.length < 549755813888) (hlen : (encL l).length < 549755813888) (hs : s.length < 549755813888) :
    Calls Tryz.prog 4 #[v, .string (mk s)] w fun e w' => e = .returned (.bool true) ∧ Below w.heap.size w w' := by
  have hf : ∀ f ∈ l, Fit f.val := fun f hf => (hn f hf).wel.toFit
  have HH := hid_of fun (W : World) => half s w W hs
  unfold Hf at HH
  have HA := hid_of fun W => ESure.sure_call W
  have hee := str_eq s s
  rw [decide_eq_true rfl] at hee
  have h' := encode_call h hn (by omega) (fun _ => by omega)
  unfold EEnc.encS encN at h'
  cases hall : allE l with
  | true =>
    rw [hall, if_pos rfl, if_pos rfl] at h'
    have HE := hid_of h'
    have HD : Hid (∀ W, Calls Tryz.prog 7 #[.string (mk (encL l))] W fun e w' => ∃ v', e = .returned (.tuple #[v', .int .i64 0]) ∧ FSl w' v' l ∧ Below W.heap.size W w') := hid_of fun W => by
      refine (decode_call (encL l) W hlen).mono ?_
      rintro e w' ⟨v, rfl, ⟨C, hC⟩, hb⟩
      have hd := EBackM.dc_enc hall hn
      have e1 : dcR (encL l) = l := by unfold dcR; rw [hd]; rfl
      have e2 : dcN (encL l) = 0 := by unfold dcN; rw [hd]; rfl
      rw [e1] at hC
      rw [e2]
      exact ⟨v, rfl, dl_fsl hC, hb⟩
    have HS := hid_of fun (W : World) (u : Value) (hu : FSl W u l) (hW : Below w.heap.size w W) => FSame.same_call hu (h.below hW) hf hl
    obtain ⟨a, c, rfl, hc, h⟩ := h
    clear h hn hf hl hlen hs h' hall
    generalize mk (encL l) = T at *
    generalize mk s = S at *
    go_enter Tryz.func4, Tryz.ntmps4
    go_wp2_with fail
    refine HE.out.mono ?_
    rintro e w1 ⟨rfl, b1⟩
    have B1 := hid_of b1
    clear b1 HE
    go_wp2_with fail
    refine (HD.out w1).mono ?_
    rintro e w2 ⟨u, rfl, hu, b2⟩
    have HU := hid_of hu
    have B2 := hid_of (FRow.bel B1.out b2 (Nat.le_refl _))
    clear hu b2 HD
    obtain ⟨a1, c1, rfl, -, -⟩ := id HU.out
    go_wp2_with fail
    refine (HS.out w2 _ HU.out B2.out).mono ?_
    rintro e w3 ⟨rfl, b3⟩
    have B3 := hid_of (FRow.bel B2.out b3 (Nat.le_refl _))
    clear b3 HS
    rcases HH.out w3 with ⟨hd, hc⟩ | ⟨m, hd, hc⟩
    · have HC := hid_of hc
      clear hc
      go_wp2_with fail
      refine HC.out.mono ?_
      rintro e w7 ⟨a7, c7, rfl, b7⟩
      have B7 := hid_of (FRow.bel B3.out b7 (Nat.le_refl _))
      clear b7
      go_wp2_with fail
      refine (HA.out w7).mono ?_
      rintro e w8 ⟨rfl, b8⟩
      have B8 := hid_of (FRow.bel B7.out b8 (Nat.le_refl _))
      clear b8
      go_wp2_with fail
      go_ret
      exact ⟨rfl, B8.out⟩
    · have HC := hid_of hc
      clear hc
      go_wp2_with fail
      refine HC.out.mono ?_
      rintro e w7 ⟨a7, c7, rfl, b7, hc7⟩
      have HC7 := hid_of hc7
      have B7 := hid_of (FRow.bel B3.out b7 (Nat.le_refl _))
      generalize m.length = ML at *
      clear b7 hc7
      go_wp2_with fail
      refine HC7.out.mono ?_
      rintro e w8 ⟨rfl, b8⟩
      have B8 := hid_of (FRow.bel B7.out b8 (Nat.le_refl _))
      clear b8
      go_wp2_with fail
      refine (HA.out w8).mono ?_
      rintro e w9 ⟨rfl, b9⟩
      have B9 := hid_of (FRow.bel B8.out b9 (Nat.le_refl _))
      clear b9
      go_wp2_with fail
      go_ret
      exact ⟨rfl, B9.out⟩
  | false =>
    rw [hall, if_neg (by simp), if_neg (by simp)] at h'
    have HE := hid_of h'
    have HAll := hid_of hall
    obtain ⟨a, c, rfl, hc, h⟩ := h
    have HR := hid_of h
    have HNi := hid_of hn
    clear h hn hf hlen hs h' hall
    generalize mk s = S at *
    generalize mk [] = S0 at *
    go_enter Tryz.func4, Tryz.ntmps4
    go_wp2_with fail
    refine HE.out.mono ?_
    rintro e w1 ⟨rfl, b1⟩
    have B1 := hid_of b1
    clear b1 HE
    go_wp2_with fail
    go_loopg [9, 10] l.length (fun g vf si wx => ∃ k : Nat, k ≤ l.length ∧ l.length ≤ k + g ∧ vf = .bool (allE (l.take k)) ∧ si = .int .i64 (k : Int) ∧ Hid (Below w.heap.size w wx))
    case atStart => exact ⟨0, by omega, by omega, rfl, rfl, B1⟩
    case round =>
      obtain ⟨k, hk, hg, rfl, rfl, HN⟩ := hrel
      by_cases hlt : k < l.length
      · obtain ⟨g', rfl⟩ : ∃ g', gk = g' + 1 := ⟨gk - 1, by omega⟩
        obtain ⟨gb, o, rfl, hcs⟩ : ∃ g o, a = some ⟨g, o, none⟩ ∧ ∀ k (h : k < l.length), FAt w g (o + k * 8) (l[k]'h) := by
          rcases HR.out with h | h
          · rw [h] at hlt; simp at hlt
          · exact h
        obtain ⟨a1, n1, c1, a2, n2, c2, a3, n3, c3, k2, T, h0, h1, h2, h3, h4, h5, h6, h7, hv⟩ := (hcs k hlt).below HN.out
        have e2 : IntKind.i64.wrap ((k : Int) + 1) = (k : Int) + 1 := IntWalk.i64_in _ (by omega)
        have g2 : (k : Int) < (l.length : Int) := by omega
        have hni := HNi.out _ (List.getElem_mem hlt)
        have HM := hid_of (FMay.rmay_call hv hni.wel)
        have HT := hid_of (all_take l k hlt)
        generalize hmy : mayE (l[k]'hlt) = my at *
        generalize (l[k]'hlt).kind = kd at *
        generalize (l[k]'hlt).due = d at *
        generalize mk (l[k]'hlt).key = K at *
        clear hcs hv hmy hni
        generalize hft : allE (l.take k) = ft at *
        cases ft
        · go_wp2_with fail
          go_roundg g'
          case measure => omega
          case rel => exact ⟨k + 1, by omega, by omega, by rw [HT.out]; rfl, by rw [show ((k + 1 : Nat) : Int) = (k : Int) + 1 from by omega], HN⟩
        · go_wp2_with fail
          refine HM.out.mono ?_
          rintro e w2 ⟨rfl, hb2⟩
          have HN2 := hid_of (HN.out.trans (hb2.mono HN.out.size))
          clear hb2 HM h0 h1 h2 h3 h4 h5 h6 h7
          go_wp2_with fail
          go_roundg g'
          case measure => omega
          case rel => exact ⟨k + 1, by omega, by omega, by rw [HT.out]; cases my <;> rfl, by rw [show ((k + 1 : Nat) : Int) = (k : Int) + 1 from by omega], HN2⟩
      · obtain rfl : k = l.length := by omega
        have gi : ¬ (l.length : Int) < (l.length : Int) := by omega
        have hfl : allE (l.take l.length) = false := by rw [List.take_length]; exact HAll.out
        rw [hfl]
        clear hfl HR HNi
        rcases HH.out wr with ⟨hd, hc⟩ | ⟨m, hd, hc⟩
        · have HC := hid_of hc
          clear hc
          go_wp2_with fail
          refine HC.out.mono ?_
          rintro e w7 ⟨a7, c7, rfl, b7⟩
          have B7 := hid_of (FRow.bel HN.out b7 (Nat.le_refl _))
          clear b7
          go_wp2_with fail
          refine (HA.out w7).mono ?_
          rintro e w8 ⟨rfl, b8⟩
          have B8 := hid_of (FRow.bel B7.out b8 (Nat.le_refl _))
          clear b8
          go_wp2_with fail
          go_ret
          exact ⟨rfl, B8.out⟩
        · have HC := hid_of hc
          clear hc
          go_wp2_with fail
          refine HC.out.mono ?_
          rintro e w7 ⟨a7, c7, rfl, b7, hc7⟩
          have HC7 := hid_of hc7
          have B7 := hid_of (FRow.bel HN.out b7 (Nat.le_refl _))
          generalize m.length = ML at *
          clear b7 hc7
          go_wp2_with fail
          refine HC7.out.mono ?_
          rintro e w8 ⟨rfl, b8⟩
          have B8 := hid_of (FRow.bel B7.out b8 (Nat.le_refl _))
          clear b8
          go_wp2_with fail
          refine (HA.out w8).mono ?_
          rintro e w9 ⟨rfl, b9⟩
          have B9 := hid_of (FRow.bel B8.out b9 (Nat.le_refl _))
          clear b9
          go_wp2_with fail
          go_ret
          exact ⟨rfl, B9.out⟩
end Go.Proofs.YtpnigkjmofhmbabGreat.LawB
end
section
namespace Go.Proofs.YtpnigkjmofhmbabGreat.LawQ
open Go.RowKit Go.Maps
open Go.Proofs.YtpnigkjmofhmbabGreat.SetMath
open Go.Proofs.YtpnigkjmofhmbabGreat.BytesMath
open Go.Proofs.YtpnigkjmofhmbabGreat.FixMath
open Go.Proofs.YtpnigkjmofhmbabGreat.ValueMath
open Go.Proofs.YtpnigkjmofhmbabGreat.Base
open Go.Proofs.YtpnigkjmofhmbabGreat.Vals
open Go.Proofs.YtpnigkjmofhmbabGreat.Check0
open Go.Proofs.YtpnigkjmofhmbabGreat.SBase (Ef)
open Go.Proofs.YtpnigkjmofhmbabGreat.EAll
open Go.Proofs.YtpnigkjmofhmbabGreat.EEnc
open Go.Proofs.YtpnigkjmofhmbabGreat.EDec
open Go.Proofs.YtpnigkjmofhmbabGreat.EDecC
open Go.Proofs.YtpnigkjmofhmbabGreat.FTwin
set_option linter.unusedVariables false
set_option linter.unusedSimpArgs false
theorem dcR_nice {s : Bs} (hs : s.length < 549755813888) : (∀ f ∈ dcR s, Nice f) ∧ (dcR s).length ≤ s.length := by
  unfold dcR
  cases hd : dcL s with
  | none => exact ⟨fun f hf => (by cases hf), Nat.zero_le _⟩
  | some m => exact ⟨(EBackM.dc_some s.length s m (Nat.le_refl _) (by omega) hd).2.2, LawB.dc_len s.length s m (Nat.le_refl _) hd⟩
set_option maxHeartbeats 4000000 in
set_option maxRecDepth 100000 in
theorem reads_call {w : World} {s : Bs} (hs : s.length < 549755813888) :
    Calls Tryz.prog 3 #[.string (mk s)] w fun e w' => e = .returned (.bool true) ∧ Below w.heap.size w w' := by
  obtain ⟨hn, hl⟩ := dcR_nice hs
  have hf : ∀ f ∈ dcR s, Fit f.val := fun f hf => (hn f hf).wel.toFit
  have HD := hid_of (decode_call s w hs)
  have HR := hid_of fun (W : World) => DDec.rdecode_call s W hs
  have HS := hid_of fun (W : World) (u v : Value) (hu : FSl W u (dcR s)) (hv : FSl W v (dcR s)) => FSame.same_call hu hv hf (by omega)
  have HA := hid_of fun W => ESure.sure_call W
  have hnn : (dcN s == dcN s) = true := by simp
  unfold DcE at HD HR
  clear hn hf hl hs
  generalize mk s = T at *
  generalize dcN s = N at *
  generalize dcR s = l at *
  go_enter Tryz.func3, Tryz.ntmps3
  go_wp2_with fail
  refine HD.out.mono ?_
  rintro e w1 ⟨u, rfl, ⟨C, hC⟩, b1⟩
  have HU := hid_of (dl_fsl hC)
  have B1 := hid_of b1
  clear hC b1 HD
  obtain ⟨a1, c1, rfl, -, -⟩ := id HU.out
  go_wp2_with fail
  refine (HR.out w1).mono ?_
  rintro e w2 ⟨v, rfl, ⟨C, hC⟩, b2⟩
  have HV := hid_of (dl_fsl hC)
  have HU2 := hid_of (HU.out.below b2)
  have B2 := hid_of (FRow.bel B1.out b2 (Nat.le_refl _))
  clear hC b2 HR
  obtain ⟨a2, c2, rfl, -, -⟩ := id HV.out
  go_wp2_with fail
  refine (HS.out w2 _ _ HU2.out HV.out).mono ?_
  rintro e w3 ⟨rfl, b3⟩
  have B3 := hid_of (FRow.bel B2.out b3 (Nat.le_refl _))
  clear b3 HS
  go_wp2_with fail
  refine (HA.out w3).mono ?_
  rintro e w5 ⟨rfl, b5⟩
  have B5 := hid_of (FRow.bel B3.out b5 (Nat.le_refl _))
  clear b5
  go_wp2_with fail
  go_ret
  exact ⟨rfl, B5.out⟩
end Go.Proofs.YtpnigkjmofhmbabGreat.LawQ
end
