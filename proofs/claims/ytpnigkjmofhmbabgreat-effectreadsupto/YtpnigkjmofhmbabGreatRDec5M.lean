/- The document's Decode. The document's Decode. -/
import Derived.Test.YtpnigkjmofhmbabGreatSTouchM
import Derived.Test.YtpnigkjmofhmbabGreatRRdM
import Derived.Test.YtpnigkjmofhmbabGreatRDec1M
import Derived.Test.YtpnigkjmofhmbabGreatRDec3M
section
namespace Go.Proofs.YtpnigkjmofhmbabGreat.RDec5
open Go.RowKit Go.Maps
open Go.Proofs.YtpnigkjmofhmbabGreat.SetMath
open Go.Proofs.YtpnigkjmofhmbabGreat.BytesMath
open Go.Proofs.YtpnigkjmofhmbabGreat.ValueMath
open Go.Proofs.YtpnigkjmofhmbabGreat.ReadMath
open Go.Proofs.YtpnigkjmofhmbabGreat.Base
open Go.Proofs.YtpnigkjmofhmbabGreat.Vals
open Go.Proofs.YtpnigkjmofhmbabGreat.Rdr (ptr At)
open Go.Proofs.YtpnigkjmofhmbabGreat.RVal (zO kO)
open Go.Proofs.YtpnigkjmofhmbabGreat.RRd
open Go.Proofs.YtpnigkjmofhmbabGreat.Dec
open Go.Proofs.YtpnigkjmofhmbabGreat.RDecM
open Go.Proofs.YtpnigkjmofhmbabGreat.Copy (nr_set row_set set5)
open Go.Proofs.YtpnigkjmofhmbabGreat.StepA (step_app)
set_option linter.unusedVariables false
set_option linter.unusedSimpArgs false
set_option maxHeartbeats 8000000 in
set_option maxRecDepth 100000 in
theorem dec5 (S r1 : Bs) (w : World) (hl : S.length ≤ 140737488355328) (hr : rdN 1 S = some (5, r1)) : Calls Tryz.prog 56 #[.string (mk S)] w (RT S w) := by
  have hl1 : r1.length ≤ 140737488355328 := by have h0 := (rdN_some hr).1; rw [h0] at hl; simp at hl; omega
  have HZ0 : Hid (valS S = bodyS 5 r1) := hid_of (by unfold valS; rw [hr]; rfl)
  obtain ⟨V, hV⟩ : ∃ V, V = (w.alloc zO).alloc (.cells #[.string (mk S), .int .i64 0, .bool false] 151) := ⟨_, rfl⟩
  have bV : Below w.heap.size w V := by rw [hV]; exact FRow.bel (FRow.bnew w _) (FRow.bnew _ _) (Nat.le_refl _)
  have sV : V.heap.size = w.heap.size + 2 := by rw [hV]; simp
  have v0 : V.heap[w.heap.size]? = some zC := by rw [hV, hao _ _ _ (by simp)]; exact heap_alloc_new w _
  have v1 : RR (w.heap.size + 1) S (S, false) V := ⟨0, Nat.zero_le _, by simp, by
    have := heap_alloc_new (w.alloc zO) (.cells #[.string (mk S), .int .i64 0, .bool false] 151)
    rw [hV]
    simpa using this⟩
  have HN := hid_of (number_call (w.heap.size + 1) 1 S (S, false) V v1 hl (by decide))
  have HV := hid_of hV
  have H0 : Hid (∀ (W : World) (s : RS) (k : Int), RR (w.heap.size + 1) S s W → Fr (At (w.heap.size + 1)) V W → DI w W.heap.size S s (.int .i64 k) (.string ⟨#[]⟩) (.slice none 0 0) (.slice none 0 0) (.slice none 0 0) (W.alloc (kO k))) := hid_of fun W s k hr hf => by
    have bw : Below W.heap.size W (W.alloc (kO k)) := FRow.bnew W _
    have sz := hf.size
    exact ⟨(bw.block _ (by omega)).trans ((hf.block _ (by omega) (by intro e; have : w.heap.size = w.heap.size + 1 := e; omega)).trans v0), rr_keep hr (bw.block _ (by omega)), heap_alloc_new W _, by omega, FRow.bel (bV.trans (hf.below (by omega) (fun k e => by have : k = w.heap.size + 1 := e; omega))) bw (Nat.le_refl _)⟩
  clear v0 v1 bV hV
  rw [nb_some (by decide) (by decide) hr] at HN
  clear hr
  go_enter Tryz.func56, Tryz.ntmps56
  go_wp2_with fail
  rw [← HV.out]
  refine HN.out.mono ?_
  rintro e w1 ⟨rfl, d1, f1⟩
  have hlt1 : w.heap.size + 2 ≤ w1.heap.size := by have := f1.size; omega
  have D1 := hid_of (H0.out w1 _ 5 d1 f1)
  obtain ⟨W, hW⟩ : ∃ W, W = w1.alloc (kO 5) := ⟨_, rfl⟩
  rw [← hW] at D1
  have HW := hid_of hW
  clear hW d1 f1 HN H0 sV
  have H4 := hid_of (number_call (w.heap.size + 1) 4 S (r1, false) W D1.out.rr hl (by decide))
  obtain ⟨⟨q0, q1, q2, q3, q4⟩, _⟩ := box5 D1.out.bp
  cases hr4 : rdN 4 r1 with
  | none =>
    rw [nb_none false hr4] at H4
    have HD : Hid (decV S = (zV, 0, 132)) := hid_of (dec_none (HZ0.out.trans (by show (rdC rdE r1).bind _ = none; unfold rdC; rw [hr4]; rfl)))
    clear hr4
    go_wp2_with fail
    rw [← HW.out]
    refine H4.out.mono ?_
    rintro e w2 ⟨rfl, d2, f2⟩
    have D2 := hid_of (D1.out.call d2 f2)
    obtain ⟨ka, hka, hsa, ha⟩ := d2
    obtain ⟨⟨u0, u1, u2⟩, _⟩ := box3 ha
    clear f2 hka hsa ha q0 q1 q2 q3 q4 H4
    go_wp2_with fail
    go_loopg [8] 0 (fun g s8 wx => s8 = .int .u64 0 ∧ wx = w2)
    case atStart => exact ⟨rfl, rfl⟩
    case round =>
      obtain ⟨rfl, hwx⟩ := hrel
      rw [hwx]
      clear hwx
      obtain ⟨⟨p0, p1, p2, p3, p4⟩, pz⟩ := box5 D2.out.b0
      have pz0 := pz 0
      have pz1 := pz 1
      have pz2 := pz 2
      have pz3 := pz 3
      have pz4 := pz 4
      clear pz
      go_wp2_with fail
      obtain ⟨⟨g0, g1, g2, g3, g4⟩, _⟩ := box5 (set5 D2.out.b0 (.int .i64 0) (.string ⟨#[]⟩) (.slice none 0 0) (.slice none 0 0) (.slice none 0 0))
      refine ⟨rfl, .tuple #[.agg #[.int .i64 0, .string ⟨#[]⟩, .slice none 0 0, .slice none 0 0, .slice none 0 0], .int .i64 0, .int .i64 132], ?_, .agg #[.int .i64 0, .string ⟨#[]⟩, .slice none 0 0, .slice none 0 0, .slice none 0 0], ?_, ?_, ?_⟩
      rotate_left
      · rw [HD.out]; rfl
      · rw [HD.out]; exact vz _ _
      · exact f5_b D2.out.bel (Nat.le_refl w.heap.size)
      · simp [results, Tryz.results56, go_sem, g0, g1, g2, g3, g4]
  | some qq =>
    obtain ⟨n, r2⟩ := qq
    rw [nb_some (by decide) (by decide) hr4] at H4
    obtain ⟨hrr, hn⟩ := rdN_some hr4
    have hn' : n < 4294967296 := by simpa using hn
    have hl2 : r2.length ≤ 140737488355328 := by rw [hrr] at hl1; simp at hl1; omega
    have HM : Hid (bodyS 5 r1 = (many rdE n r2).bind fun q => some (⟨5, [], [], [], q.1⟩, q.2)) := hid_of (by show (rdC rdE r1).bind _ = _; unfold rdC; rw [hr4]; rfl)
    clear hr4 hrr hn
    go_wp2_with fail
    rw [← HW.out]
    refine H4.out.mono ?_
    rintro e w2 ⟨rfl, d2, f2⟩
    have D2 := hid_of (D1.out.call d2 f2)
    have R0 : Hid (DI w w1.heap.size S (r2, false) (.int .i64 5) (.string ⟨#[]⟩) (.slice none 0 0) (.slice none 0 0) (.slice none 0 0) w2 ∧ ERow.OR (w1.heap.size + 1) w2 (.slice none 0 0) []) := hid_of ⟨D2.out, ERow.or_nil _ _⟩
    clear d2 f2 q0 q1 q2 q3 q4 H4 D2
    go_wp2_with fail
    go_loopg [8] n (fun g s8 wx => ∃ (k : Nat) (xs : List (Bs × Int)) (ra : Option Addr) (rc : Nat) (s : RS), n ≤ k + g ∧ s8 = .int .u64 (k : Int) ∧ Hid (Jn rdE n r2 k xs s) ∧ Hid (DI w w1.heap.size S s (.int .i64 5) (.string ⟨#[]⟩) (.slice none 0 0) (.slice none 0 0) (.slice ra k rc) wx ∧ ERow.OR (w1.heap.size + 1) wx (.slice ra k rc) xs))
    case atStart => exact ⟨0, [], none, 0, (r2, false), by omega, rfl, hid_of (Jn.start _ _ _ hl2), R0⟩
    case round =>
      clear R0
      obtain ⟨k, xs, ra, rc, ⟨rk, f⟩, hg, rfl, HJ, R⟩ := hrel
      obtain ⟨ka, hka, hsa, ha⟩ := R.out.1.rr
      obtain ⟨⟨u0, u1, u2⟩, _⟩ := box3 ha
      simp only at u2
      have D := hid_of R.out.1
      clear hka hsa ha
      have hkn := HJ.out.le
      cases f
      · by_cases hk : k < n
        · obtain ⟨g', rfl⟩ : ∃ g', gk = g' + 1 := ⟨gk - 1, by omega⟩
          have d1 : (k : Int) < (n : Int) := by omega
          have w1' : IntKind.u64.wrap ((k : Int) + 1) = (k : Int) + 1 := by rw [IntKind.wrap_u64]; omega
          have HJ2 := hid_of (JnE HJ.out hk)
          obtain ⟨⟨q0, q1, q2, q3, q4⟩, _⟩ := box5 D.out.bp
          have HLN := hid_of HJ.out.len
          have HC0 := hid_of (number_call (w.heap.size + 1) 8 S (rk, false) wr D.out.rr hl (by decide))
          clear hk HJ
          obtain ⟨NN, hNN⟩ : ∃ NN : Int, NN = IntKind.i64.wrap ((nbS 8 (rk, false)).1 : Int) := ⟨_, rfl⟩
          obtain ⟨MM, hMM⟩ : ∃ MM : Int, MM = ((nbS 8 (rk, false)).1 : Int) := ⟨_, rfl⟩
          rw [← hMM] at HC0 hNN
          have HNN := hid_of (And.intro hNN hMM)
          have hcv : IntKind.i64.wrap MM = NN := hNN.symm
          clear hNN hMM
          go_wp2_with fail
          refine HC0.out.mono ?_
          rintro e w5 ⟨rfl, d5, f5⟩
          have D5 := hid_of (D.out.call d5 f5)
          have R5 := hid_of (Elem.row_fr R.out.2 f5 (by have := D.out.hp; omega))
          have HC := hid_of (text_call (w.heap.size + 1) S (nbS 8 (rk, false)).2 w5.drew D5.out.drew.rr hl)
          clear d5 f5 HC0 u0 u1 u2 q0 q1 q2 q3 q4
          obtain ⟨⟨q0, q1, q2, q3, q4⟩, _⟩ := box5 D5.out.bp
          go_wp2_with fail
          refine Last.start (fun U : World => U.cell? ⟨w1.heap.size, 4, none⟩ = some (.slice ra k rc)) 9 (by kernel_rfl) ?_
          have hs0 : (fun U : World => U.cell? ⟨w1.heap.size, 4, none⟩ = some (.slice ra k rc)) w5.drew := q4
          refine Last.take2 12 (i := 0) (v := .pointer (some ⟨w1.heap.size, 4, none⟩)) rfl (by kernel_rfl) (by kernel_rfl) (by kernel_rfl) (by kernel_rfl) (by kernel_rfl) (fun _ _ _ h => h) (Or.inl ⟨by rfl, ?_⟩) (by assumption) ?_
          · intro W hSW
            have s0 : W.cell? _ = some _ := hSW
            go_simp
          simp only [Act.put, List.setIfInBounds_toArray, List.set_cons_zero, List.set_cons_succ]
          refine Last.take2 12 (i := 1) (v := .slice ra k rc) rfl (by kernel_rfl) (by kernel_rfl) (by kernel_rfl) (by kernel_rfl) (by kernel_rfl) (fun _ _ _ h => h) (Or.inl ⟨by rfl, ?_⟩) (by assumption) ?_
          · intro W hSW
            have s0 : W.cell? _ = some _ := hSW
            go_simp
          simp only [Act.put, List.setIfInBounds_toArray, List.set_cons_zero, List.set_cons_succ]
          refine Last.take2 12 (i := 2) (v := ptr (w.heap.size + 1)) rfl (by kernel_rfl) (by kernel_rfl) (by kernel_rfl) (by kernel_rfl) (by kernel_rfl) (fun _ _ _ h => h) (Or.inl ⟨by rfl, ?_⟩) (by assumption) ?_
          · intro W hSW
            have s0 : W.cell? _ = some _ := hSW
            go_simp
          simp only [Act.put, List.setIfInBounds_toArray, List.set_cons_zero, List.set_cons_succ]
          refine Last.take2 12 (i := 4) (v := .int .i64 NN) rfl (by kernel_rfl) (by kernel_rfl) (by kernel_rfl) (by kernel_rfl) (by kernel_rfl) (fun _ _ _ h => h) (Or.inl ⟨by rfl, ?_⟩) (by assumption) ?_
          · intro W hSW
            have s0 : W.cell? _ = some _ := hSW
            go_simp
          simp only [Act.put, List.setIfInBounds_toArray, List.set_cons_zero, List.set_cons_succ]
          refine Last.one (i := 3) rfl (by kernel_rfl) ?_
          intro K' hK0
          have hK := hid_of hK0
          clear hK0
          go_simp
          refine HC.out.mono ?_
          rintro e w6 ⟨rfl, d6, f6⟩
          have D6 := hid_of (D5.out.drew.call d6 f6)
          have R6 : ERow.OR (w1.heap.size + 1) w6 (.slice ra k rc) xs := Elem.row_fr (FRow.row_below (R5.out) ((Below.refl _ w5).drew)) f6 (by have := D5.out.hp; omega)
          have hs6 : (fun U : World => U.cell? ⟨w1.heap.size, 4, none⟩ = some (.slice ra k rc)) w6 := (box5 D6.out.bp).1.2.2.2.2
          obtain ⟨v8, w8, hr8, row8, b8⟩ := Elem.appERow (scS (rk, false)).1 R6 (by rw [HLN.out]; unfold ERow.big; omega) D6.out.lt
          have hE : (scS (rk, false)).1.2 = NN := by rw [HNN.out.1, HNN.out.2]; rfl
          rw [hE] at hr8
          clear hE
          obtain ⟨ra8, rc8, rfl⟩ := shapeERow row8
          have hL8 : (xs ++ [(scS (rk, false)).1]).length = k + 1 := by rw [List.length_append, HLN.out]; rfl
          rw [hL8] at hr8 row8
          have ROW8 : Hid (ERow.OR (w1.heap.size + 1) w8 (.slice ra8 (k + 1) rc8) (xs ++ [(scS (rk, false)).1])) := hid_of row8
          have D8 := hid_of (D6.out.low b8)
          have hs7 : ∀ o, (fun U : World => U.cell? ⟨w1.heap.size, 4, none⟩ = some (.slice ra k rc)) (w6.alloc o) := fun o => (box5 (D6.out.alloc o).bp).1.2.2.2.2
          have hs8 : (fun U : World => U.cell? ⟨w1.heap.size, 4, none⟩ = some (.slice ra k rc)) w8 := (box5 D8.out.bp).1.2.2.2.2
          have hz8 := (box5 D8.out.bp).2 4
          clear row8 b8 R6 d6 f6 hL8
          refine hK.out _ _ (fun _ => hs6) ?_
          clear hK K'
          try simp only [Act.put, List.setIfInBounds_toArray, List.set_cons_zero, List.set_cons_succ]
          refine Last.one (i := 5) rfl (by kernel_rfl) ?_
          intro K' hK0
          have hK := hid_of hK0
          clear hK0
          go_simp
          refine hK.out _ _ (fun _ => hs6) ?_
          clear hK K'
          try simp only [Act.put, List.setIfInBounds_toArray, List.set_cons_zero, List.set_cons_succ]
          refine Last.one (i := 6) rfl (by kernel_rfl) ?_
          intro K' hK0
          have hK := hid_of hK0
          clear hK0
          go_simp
          refine hK.out _ _ (fun _ => hs7 _) ?_
          clear hK K'
          try simp only [Act.put, List.setIfInBounds_toArray, List.set_cons_zero, List.set_cons_succ]
          refine Last.one (i := 7) rfl (by kernel_rfl) ?_
          intro K' hK0
          have hK := hid_of hK0
          clear hK0
          refine step_app (by rfl) _ _ 36 36 (by rfl) (.slice ra k rc) (.slice (some ⟨w6.heap.size, 0, none⟩) 1 1) (w6.alloc (.cells #[.string (mk (scS (rk, false)).1.1), .int .i64 NN] 120)) (R := fun v' w' => v' = .slice ra8 (k + 1) rc8 ∧ w' = w8) (by rfl) (by rfl) ⟨_, _, hr8, rfl, rfl⟩ ?_
          rintro v9 w9 ⟨rfl, rfl⟩
          refine hK.out _ _ (fun _ => hs8) ?_
          clear hK K'
          try simp only [Act.put, List.setIfInBounds_toArray, List.set_cons_zero, List.set_cons_succ]
          refine Last.one (i := 8) rfl (by kernel_rfl) ?_
          intro K' hK0
          have hK := hid_of hK0
          clear hK0
          go_simp
          refine hK.out _ _ (fun _ => hs8) ?_
          clear hK K'
          try simp only [Act.put, List.setIfInBounds_toArray, List.set_cons_zero, List.set_cons_succ]
          refine Last.one (i := 9) rfl (by kernel_rfl) ?_
          intro K' hK0
          have hK := hid_of hK0
          clear hK0
          go_simp
          refine hK.out _ _ (fun h => absurd rfl h) ?_
          clear hK K'
          refine Last.fin (by kernel_rfl) ?_ _
          have D9 := hid_of (D8.out.set4 (.slice ra8 (k + 1) rc8))
          have ROW9 := hid_of (row_set (i := 4) ROW8.out (Nat.lt_succ_self w1.heap.size) (.slice ra8 (k + 1) rc8))
          clear hs8 hs6 hs7 hs0 hz8 D8 ROW8 D6 hr8
          go_wp2_with fail
          go_roundg g'
          case measure => omega
          case rel => exact ⟨k + 1, xs ++ [(scS (rk, false)).1], ra8, rc8, _, by omega, by simp, HJ2, hid_of ⟨D9.out, ROW9.out⟩⟩
        · obtain rfl : k = n := by omega
          have d1 : ¬ (k : Int) < (k : Int) := by omega
          have HVS : Hid (valS S = some (⟨5, [], [], [], xs⟩, rk)) := hid_of (HZ0.out.trans (HM.out.trans (by rw [HJ.out.done]; rfl)))
          have NV : Hid (VN (w1.heap.size + 1) wr (.agg #[.int .i64 5, .string ⟨#[]⟩, .slice none 0 0, .slice none 0 0, .slice ra k rc]) ⟨5, [], [], [], xs⟩) := hid_of ⟨_, _, _, rfl, .inl ⟨rfl, rfl⟩, FRow.or_nil _ _, R.out.2⟩
          clear HJ hk
          have hw := val_wel HVS.out
          have HDS := hid_of (dec_some HVS.out)
          have HK := hid_of (RCheck.rcheck_call NV.out.va hw)
          clear hw
          obtain ⟨⟨q0, q1, q2, q3, q4⟩, _⟩ := box5 D.out.bp
          go_wp2_with fail
          refine HK.out.mono ?_
          rintro e w7 ⟨rfl, b7⟩
          have D7 := hid_of (D.out.low (b7.mono D.out.lt))
          have N7 := hid_of (NV.out.below b7)
          obtain ⟨⟨p0, p1, p2, p3, p4⟩, pz⟩ := box5 D7.out.b0
          have pz0 := pz 0
          have pz1 := pz 1
          have pz2 := pz 2
          have pz3 := pz 3
          have pz4 := pz 4
          obtain ⟨⟨t0, t1, t2, t3, t4⟩, _⟩ := box5 D7.out.bp
          obtain ⟨ka, hka, hsa, ha⟩ := D7.out.rr
          obtain ⟨⟨u0, u1, u2⟩, _⟩ := box3 ha
          have HKA : Hid ((rk).length = S.length - ka ∧ ka ≤ S.length) := hid_of ⟨by have := congrArg List.length hsa; simpa using this, hka⟩
          clear b7 pz HK q0 q1 q2 q3 q4 hka hsa ha
          by_cases h0 : chk ⟨5, [], [], [], xs⟩ = 0
          · rw [if_pos h0] at HDS
            rw [h0]
            clear h0
            go_wp2_with fail
            go_region
            go_wp2_with fail
            obtain ⟨⟨g0, g1, g2, g3, g4⟩, _⟩ := box5 (set5 D7.out.b0 (.int .i64 5) (.string ⟨#[]⟩) (.slice none 0 0) (.slice none 0 0) (.slice ra k rc))
            refine ⟨rfl, .tuple #[.agg #[(.int .i64 5), (.string ⟨#[]⟩), (.slice none 0 0), (.slice none 0 0), (.slice ra k rc)], .int .i64 (ka : Int), .int .i64 0], ?_, .agg #[(.int .i64 5), (.string ⟨#[]⟩), (.slice none 0 0), (.slice none 0 0), (.slice ra k rc)], ?_, ?_, ?_⟩
            rotate_left
            · rw [HDS.out]; have h1 := HKA.out.1; have h2 := HKA.out.2; rw [h1, show S.length - (S.length - ka) = ka by omega]
            · rw [HDS.out]
              exact (f5_vn (q := w.heap.size) N7.out (by have := D7.out.hp; omega)).mono (by have := D7.out.hp; omega)
            · exact (f5_b D7.out.bel (Nat.le_refl _)).drew
            · simp [results, Tryz.results56, go_sem, g0, g1, g2, g3, g4]
          · rw [if_neg h0] at HDS
            have hb0 : (chk ⟨5, [], [], [], xs⟩ != 0) = true := by simpa using h0
            clear h0
            generalize chk ⟨5, [], [], [], xs⟩ = E at *
            go_wp2_with fail
            obtain ⟨⟨g0, g1, g2, g3, g4⟩, _⟩ := box5 (set5 D7.out.b0 (.int .i64 0) (.string ⟨#[]⟩) (.slice none 0 0) (.slice none 0 0) (.slice none 0 0))
            refine ⟨rfl, .tuple #[.agg #[.int .i64 0, .string ⟨#[]⟩, .slice none 0 0, .slice none 0 0, .slice none 0 0], .int .i64 0, .int .i64 132], ?_, .agg #[.int .i64 0, .string ⟨#[]⟩, .slice none 0 0, .slice none 0 0, .slice none 0 0], ?_, ?_, ?_⟩
            rotate_left
            · rw [HDS.out]; rfl
            · rw [HDS.out]; exact vz _ _
            · exact f5_b D7.out.bel (Nat.le_refl w.heap.size)
            · simp [results, Tryz.results56, go_sem, g0, g1, g2, g3, g4]
      · have HD : Hid (decV S = (zV, 0, 132)) := hid_of (dec_none (HZ0.out.trans (HM.out.trans (by rw [HJ.out.no rfl]; rfl))))
        clear HJ
        by_cases hk : k < n
        · have d1 : (k : Int) < (n : Int) := by omega
          obtain ⟨⟨p0, p1, p2, p3, p4⟩, pz⟩ := box5 D.out.b0
          have pz0 := pz 0
          have pz1 := pz 1
          have pz2 := pz 2
          have pz3 := pz 3
          have pz4 := pz 4
          clear pz
          go_wp2_with fail
          obtain ⟨⟨g0, g1, g2, g3, g4⟩, _⟩ := box5 (set5 D.out.b0 (.int .i64 0) (.string ⟨#[]⟩) (.slice none 0 0) (.slice none 0 0) (.slice none 0 0))
          refine ⟨rfl, .tuple #[.agg #[.int .i64 0, .string ⟨#[]⟩, .slice none 0 0, .slice none 0 0, .slice none 0 0], .int .i64 0, .int .i64 132], ?_, .agg #[.int .i64 0, .string ⟨#[]⟩, .slice none 0 0, .slice none 0 0, .slice none 0 0], ?_, ?_, ?_⟩
          rotate_left
          · rw [HD.out]; rfl
          · rw [HD.out]; exact vz _ _
          · exact f5_b D.out.bel (Nat.le_refl w.heap.size)
          · simp [results, Tryz.results56, go_sem, g0, g1, g2, g3, g4]
        · have d1 : ¬ (k : Int) < (n : Int) := by omega
          obtain ⟨⟨p0, p1, p2, p3, p4⟩, pz⟩ := box5 D.out.b0
          have pz0 := pz 0
          have pz1 := pz 1
          have pz2 := pz 2
          have pz3 := pz 3
          have pz4 := pz 4
          clear pz
          go_wp2_with fail
          obtain ⟨⟨g0, g1, g2, g3, g4⟩, _⟩ := box5 (set5 D.out.b0 (.int .i64 0) (.string ⟨#[]⟩) (.slice none 0 0) (.slice none 0 0) (.slice none 0 0))
          refine ⟨rfl, .tuple #[.agg #[.int .i64 0, .string ⟨#[]⟩, .slice none 0 0, .slice none 0 0, .slice none 0 0], .int .i64 0, .int .i64 132], ?_, .agg #[.int .i64 0, .string ⟨#[]⟩, .slice none 0 0, .slice none 0 0, .slice none 0 0], ?_, ?_, ?_⟩
          rotate_left
          · rw [HD.out]; rfl
          · rw [HD.out]; exact vz _ _
          · exact f5_b D.out.bel (Nat.le_refl w.heap.size)
          · simp [results, Tryz.results56, go_sem, g0, g1, g2, g3, g4]
end Go.Proofs.YtpnigkjmofhmbabGreat.RDec5
end
section
namespace Go.Proofs.YtpnigkjmofhmbabGreat.RDec0
open Go.RowKit Go.Maps
open Go.Proofs.YtpnigkjmofhmbabGreat.SetMath
open Go.Proofs.YtpnigkjmofhmbabGreat.BytesMath
open Go.Proofs.YtpnigkjmofhmbabGreat.ValueMath
open Go.Proofs.YtpnigkjmofhmbabGreat.ReadMath
open Go.Proofs.YtpnigkjmofhmbabGreat.Base
open Go.Proofs.YtpnigkjmofhmbabGreat.Vals
open Go.Proofs.YtpnigkjmofhmbabGreat.Rdr (ptr At)
open Go.Proofs.YtpnigkjmofhmbabGreat.RVal (zO kO)
open Go.Proofs.YtpnigkjmofhmbabGreat.RRd
open Go.Proofs.YtpnigkjmofhmbabGreat.Dec
open Go.Proofs.YtpnigkjmofhmbabGreat.RDecM
open Go.Proofs.YtpnigkjmofhmbabGreat.Copy (nr_set row_set set5)
open Go.Proofs.YtpnigkjmofhmbabGreat.StepA (step_app)
set_option linter.unusedVariables false
set_option linter.unusedSimpArgs false
theorem val_bad {S : Bs} (h : ∀ k r, rdN 1 S = some (k, r) → k ≠ 1 ∧ k ≠ 2 ∧ k ≠ 3 ∧ k ≠ 4 ∧ k ≠ 5) : valS S = none := by
  unfold valS
  cases e : rdN 1 S with
  | none => rfl
  | some q =>
    obtain ⟨k, r⟩ := q
    obtain ⟨h1, h2, h3, h4, h5⟩ := h k r e
    show bodyS k r = none
    unfold bodyS
    rw [if_neg h1, if_neg (by omega), if_neg h3, if_neg h5]
theorem chk_bad {k : Int} (h : k ≠ 1 ∧ k ≠ 2 ∧ k ≠ 3 ∧ k ≠ 4 ∧ k ≠ 5) : chk ⟨k, [], [], [], []⟩ = 130 := by
  unfold chk
  rw [if_pos (by show k < 1 ∨ 5 < k; omega)]
set_option maxHeartbeats 8000000 in
set_option maxRecDepth 100000 in
theorem dec0 (S : Bs) (K : Nat) (s1 : RS) (w : World) (hl : S.length ≤ 140737488355328) (hr : nbS 1 (S, false) = (K, s1)) (hK : K ≠ 1 ∧ K ≠ 2 ∧ K ≠ 3 ∧ K ≠ 4 ∧ K ≠ 5) (hv : valS S = none) : Calls Tryz.prog 56 #[.string (mk S)] w (RT S w) := by
  have hKb : K < 256 := by have := nb_lt 1 (S, false) (by decide); rw [hr] at this; simpa using this
  have HD := hid_of (dec_none hv)
  have hcv : IntKind.i64.wrap (K : Int) = (K : Int) := IntWalk.i64_in _ (by omega)
  obtain ⟨k1, k2, k3, k4, k5⟩ := hK
  have n1 : ((K : Int) == 1) = false := by simpa using (by omega : (K : Int) ≠ 1)
  have n2 : ((K : Int) == 2) = false := by simpa using (by omega : (K : Int) ≠ 2)
  have n3 : ((K : Int) == 3) = false := by simpa using (by omega : (K : Int) ≠ 3)
  have n4 : ((K : Int) == 4) = false := by simpa using (by omega : (K : Int) ≠ 4)
  have n5 : ((K : Int) == 5) = false := by simpa using (by omega : (K : Int) ≠ 5)
  have HKC := hid_of (chk_bad (k := (K : Int)) ⟨by omega, by omega, by omega, by omega, by omega⟩)
  have HKB := hid_of hKb
  clear hv k1 k2 k3 k4 k5 hKb
  obtain ⟨V, hV⟩ : ∃ V, V = (w.alloc zO).alloc (.cells #[.string (mk S), .int .i64 0, .bool false] 151) := ⟨_, rfl⟩
  have bV : Below w.heap.size w V := by rw [hV]; exact FRow.bel (FRow.bnew w _) (FRow.bnew _ _) (Nat.le_refl _)
  have sV : V.heap.size = w.heap.size + 2 := by rw [hV]; simp
  have v0 : V.heap[w.heap.size]? = some zC := by rw [hV, hao _ _ _ (by simp)]; exact heap_alloc_new w _
  have v1 : RR (w.heap.size + 1) S (S, false) V := ⟨0, Nat.zero_le _, by simp, by
    have := heap_alloc_new (w.alloc zO) (.cells #[.string (mk S), .int .i64 0, .bool false] 151)
    rw [hV]
    simpa using this⟩
  have HN := hid_of (number_call (w.heap.size + 1) 1 S (S, false) V v1 hl (by decide))
  have HV := hid_of hV
  have H0 : Hid (∀ (W : World) (s : RS) (k : Int), RR (w.heap.size + 1) S s W → Fr (At (w.heap.size + 1)) V W → DI w W.heap.size S s (.int .i64 k) (.string ⟨#[]⟩) (.slice none 0 0) (.slice none 0 0) (.slice none 0 0) (W.alloc (kO k))) := hid_of fun W s k hr hf => by
    have bw : Below W.heap.size W (W.alloc (kO k)) := FRow.bnew W _
    have sz := hf.size
    exact ⟨(bw.block _ (by omega)).trans ((hf.block _ (by omega) (by intro e; have : w.heap.size = w.heap.size + 1 := e; omega)).trans v0), rr_keep hr (bw.block _ (by omega)), heap_alloc_new W _, by omega, FRow.bel (bV.trans (hf.below (by omega) (fun k e => by have : k = w.heap.size + 1 := e; omega))) bw (Nat.le_refl _)⟩
  clear v0 v1 bV hV
  rw [hr] at HN
  clear hr
  go_enter Tryz.func56, Tryz.ntmps56
  go_wp2_with fail
  rw [← HV.out]
  refine HN.out.mono ?_
  rintro e w1 ⟨rfl, d1, f1⟩
  have hlt1 : w.heap.size + 2 ≤ w1.heap.size := by have := f1.size; omega
  have D1 := hid_of (H0.out w1 _ (K : Int) d1 f1)
  obtain ⟨W, hW⟩ : ∃ W, W = w1.alloc (kO (K : Int)) := ⟨_, rfl⟩
  rw [← hW] at D1
  have HW := hid_of hW
  clear hW d1 f1 HN H0 sV
  have H4 := hid_of (number_call (w.heap.size + 1) 4 S s1 W D1.out.rr hl (by decide))
  obtain ⟨⟨q0, q1, q2, q3, q4⟩, _⟩ := box5 D1.out.bp
  obtain ⟨n, hn⟩ : ∃ n, n = (nbS 4 s1).1 := ⟨_, rfl⟩
  obtain ⟨⟨r2, f⟩, hs2⟩ : ∃ s, s = (nbS 4 s1).2 := ⟨_, rfl⟩
  rw [← hn, ← hs2] at H4
  have hnb : n < 4294967296 := by have := nb_lt 4 s1 (by decide); rw [hn]; simpa using this
  clear hn hs2
  go_wp2_with fail
  rw [← HW.out]
  refine H4.out.mono ?_
  rintro e w2 ⟨rfl, d2, f2⟩
  have D2 := hid_of (D1.out.call d2 f2)
  clear f2 d2 q0 q1 q2 q3 q4 H4
  go_wp2_with fail
  go_loopg [8] 1 (fun g s8 wx => ∃ (k : Nat) (f' : Bool), s8 = .int .u64 (k : Int) ∧ k ≤ 1 ∧ 1 ≤ k + g ∧ (k = 1 → f' = true) ∧ Hid (DI w w1.heap.size S (r2, f') (.int .i64 (K : Int)) (.string ⟨#[]⟩) (.slice none 0 0) (.slice none 0 0) (.slice none 0 0) wx))
  case atStart => exact ⟨0, f, rfl, by omega, by omega, fun h => by omega, D2⟩
  case round =>
    clear D2
    obtain ⟨k, f', rfl, hk1, hg, hkf, D⟩ := hrel
    obtain ⟨ka, hka, hsa, ha⟩ := D.out.rr
    obtain ⟨⟨u0, u1, u2⟩, uz⟩ := box3 ha
    have uz2 := uz 2
    simp only at u2
    have HST : Hid (DI w w1.heap.size S (r2, true) (.int .i64 (K : Int)) (.string ⟨#[]⟩) (.slice none 0 0) (.slice none 0 0) (.slice none 0 0) (wr.setCell ⟨w.heap.size + 1, 2, none⟩ (.bool true))) := hid_of (by
      have hp := D.out.hp
      exact ⟨(set_ne (by omega) _).trans D.out.b0, ⟨ka, hka, hsa, set_at ha _⟩, (set_ne (by omega) _).trans D.out.bp, hp, bset D.out.bel (by omega) _⟩)
    clear hka hsa ha uz
    cases f'
    · have hk0 : k = 0 := by
        rcases Nat.lt_or_ge k 1 with h | h
        · omega
        · exact absurd (hkf (by omega)) (by decide)
      subst hk0
      clear hkf
      by_cases hkn : 0 < n
      · obtain ⟨g', rfl⟩ : ∃ g', gk = g' + 1 := ⟨gk - 1, by omega⟩
        have d1 : (0 : Int) < (n : Int) := by omega
        have d1' : ((0 : Nat) : Int) < (n : Int) := by omega
        obtain ⟨⟨q0, q1, q2, q3, q4⟩, _⟩ := box5 D.out.bp
        go_wp2_with fail
        go_roundg g'
        case measure => omega
        case rel => exact ⟨1, true, rfl, by omega, by omega, fun _ => rfl, HST⟩
      · have hn0 : n = 0 := by omega
        subst hn0
        have NV : Hid (VN (w1.heap.size + 1) wr (.agg #[.int .i64 (K : Int), .string ⟨#[]⟩, .slice none 0 0, .slice none 0 0, .slice none 0 0]) ⟨(K : Int), [], [], [], []⟩) := hid_of ⟨_, _, _, rfl, .inl ⟨rfl, rfl⟩, FRow.or_nil _ _, ERow.or_nil _ _⟩
        have HK := hid_of (RCheck.rcheck_call NV.out.va (wel_of (by unfold small; simp) ⟨by simp, fun y hy => by simp at hy, fun y hy => by simp at hy, fun y hy => by simp at hy⟩))
        rw [HKC.out] at HK
        obtain ⟨⟨q0, q1, q2, q3, q4⟩, _⟩ := box5 D.out.bp
        clear hkn
        go_wp2_with fail
        refine HK.out.mono ?_
        rintro e w7 ⟨rfl, b7⟩
        have D7 := hid_of (D.out.low (b7.mono D.out.lt))
        clear b7 q0 q1 q2 q3 q4 HK
        obtain ⟨⟨p0, p1, p2, p3, p4⟩, pz⟩ := box5 D7.out.b0
        have pz0 := pz 0
        have pz1 := pz 1
        have pz2 := pz 2
        have pz3 := pz 3
        have pz4 := pz 4
        clear pz
        go_wp2_with fail
        obtain ⟨⟨g0, g1, g2, g3, g4⟩, _⟩ := box5 (set5 D7.out.b0 (.int .i64 0) (.string ⟨#[]⟩) (.slice none 0 0) (.slice none 0 0) (.slice none 0 0))
        refine ⟨rfl, .tuple #[.agg #[.int .i64 0, .string ⟨#[]⟩, .slice none 0 0, .slice none 0 0, .slice none 0 0], .int .i64 0, .int .i64 132], ?_, .agg #[.int .i64 0, .string ⟨#[]⟩, .slice none 0 0, .slice none 0 0, .slice none 0 0], ?_, ?_, ?_⟩
        rotate_left
        · rw [HD.out]; rfl
        · rw [HD.out]; exact vz _ _
        · exact f5_b D7.out.bel (Nat.le_refl w.heap.size)
        · simp [results, Tryz.results56, go_sem, g0, g1, g2, g3, g4]
    · by_cases hkn : k < n
      · have d1 : (k : Int) < (n : Int) := by omega
        obtain ⟨⟨p0, p1, p2, p3, p4⟩, pz⟩ := box5 D.out.b0
        have pz0 := pz 0
        have pz1 := pz 1
        have pz2 := pz 2
        have pz3 := pz 3
        have pz4 := pz 4
        clear pz
        go_wp2_with fail
        obtain ⟨⟨g0, g1, g2, g3, g4⟩, _⟩ := box5 (set5 D.out.b0 (.int .i64 0) (.string ⟨#[]⟩) (.slice none 0 0) (.slice none 0 0) (.slice none 0 0))
        refine ⟨rfl, .tuple #[.agg #[.int .i64 0, .string ⟨#[]⟩, .slice none 0 0, .slice none 0 0, .slice none 0 0], .int .i64 0, .int .i64 132], ?_, .agg #[.int .i64 0, .string ⟨#[]⟩, .slice none 0 0, .slice none 0 0, .slice none 0 0], ?_, ?_, ?_⟩
        rotate_left
        · rw [HD.out]; rfl
        · rw [HD.out]; exact vz _ _
        · exact f5_b D.out.bel (Nat.le_refl w.heap.size)
        · simp [results, Tryz.results56, go_sem, g0, g1, g2, g3, g4]
      · have d1 : ¬ (k : Int) < (n : Int) := by omega
        obtain ⟨⟨p0, p1, p2, p3, p4⟩, pz⟩ := box5 D.out.b0
        have pz0 := pz 0
        have pz1 := pz 1
        have pz2 := pz 2
        have pz3 := pz 3
        have pz4 := pz 4
        clear pz
        go_wp2_with fail
        obtain ⟨⟨g0, g1, g2, g3, g4⟩, _⟩ := box5 (set5 D.out.b0 (.int .i64 0) (.string ⟨#[]⟩) (.slice none 0 0) (.slice none 0 0) (.slice none 0 0))
        refine ⟨rfl, .tuple #[.agg #[.int .i64 0, .string ⟨#[]⟩, .slice none 0 0, .slice none 0 0, .slice none 0 0], .int .i64 0, .int .i64 132], ?_, .agg #[.int .i64 0, .string ⟨#[]⟩, .slice none 0 0, .slice none 0 0, .slice none 0 0], ?_, ?_, ?_⟩
        rotate_left
        · rw [HD.out]; rfl
        · rw [HD.out]; exact vz _ _
        · exact f5_b D.out.bel (Nat.le_refl w.heap.size)
        · simp [results, Tryz.results56, go_sem, g0, g1, g2, g3, g4]
theorem rdecode_call (S : Bs) (w : World) (hl : S.length ≤ 140737488355328) : Calls Tryz.prog 56 #[.string (mk S)] w (RT S w) := by
  cases hr : rdN 1 S with
  | none => exact dec0 S 0 (S, true) w hl (nb_none false hr) (by decide) (val_bad fun k r h => by rw [hr] at h; cases h)
  | some q =>
    obtain ⟨k, r1⟩ := q
    by_cases h1 : k = 1
    · subst h1; exact RDec1.dec1 S r1 w hl hr
    by_cases h2 : k = 2
    · subst h2; exact RDec2.dec2 S r1 w hl hr
    by_cases h3 : k = 3
    · subst h3; exact RDec3.dec3 S r1 w hl hr
    by_cases h4 : k = 4
    · subst h4; exact RDec4.dec4 S r1 w hl hr
    by_cases h5 : k = 5
    · subst h5; exact RDec5.dec5 S r1 w hl hr
    exact dec0 S k (r1, false) w hl (nb_some (by decide) (by decide) hr) ⟨h1, h2, h3, h4, h5⟩ (val_bad fun k' r h => by rw [hr] at h; injection h with h; injection h with e1 e2; subst e1; exact ⟨h1, h2, h3, h4, h5⟩)
end Go.Proofs.YtpnigkjmofhmbabGreat.RDec0
end
